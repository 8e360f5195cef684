/- Package edit's reader: a run, runs. -/
import Derived.Test.YthhmjjmjicmhdaaEp6
import Derived.Test.YthhmjjmjicmhdaaEac
import Derived.Deep.CutBlock
import Derived.Deep.MidRow
namespace Go.Proofs.Ythhmjjmjicmhdaa.Ed
set_option linter.unusedVariables false
set_option linter.unusedSimpArgs false
open Go.RowKit Lift Ik Vn
theorem oresults_one {P : Program} {fn : Func} {p g : Nat} {T : TypeId} {us : List Value} {w : World} {u : TypeDesc} (h : fn.results = #[.cell p T]) (hu : P.underlying T = some u) (ha : (match u with | .struct _ | .array _ _ => true | _ => false) = true)
    (hi : (P.info? T).map (·.size) = some us.toArray.size) (tmps : Array Value) (hp : tmps.getD p undef = .pointer (some ⟨g, 0, none⟩)) (hb : Lift.Box w g T us) :
    (results fn tmps).run P w = .ok (.agg us.toArray) w := by
  have hl := run_loadVar_row (P := P) w g T T us.toArray (0, 0) u hb hu ha hi
  have hp' : tmps[p]?.getD undef = .pointer (some ⟨g, 0, none⟩) := by rw [← hp]; simp
  simp only [results, h]
  simp [Sem.run_bind, hp', asAddr, hl]
  try rfl
theorem okeep_setRow (w : World) (g : Nat) (cs : Array Value) : Keep (· = g) w (w.setRow g cs) := ⟨rfl, rfl, rfl, by simp, fun k _ hk => setRow_other w g k cs hk⟩
theorem New.other {S : Nat → Prop} {w0 w1 w' : World} {A1 : Option Addr} {c1 : Nat} {b : List Nat} (h : New w0 w1 A1 c1 b) (hk : Keep S w1 w') (hS : ∀ k, Fresh w0.heap.size w1 k → ¬ S k) : New w0 w' A1 c1 b :=
  ⟨h.lies.later (fun k hf => hk.block k hf.2.1 (hS k hf)) fun k hf => Fresh.keep hk hS k hf, h.len, h.cap, h.b8⟩
abbrev ozrun : List Value := [.int .i64 0, .int .i64 0, .int .i64 0, .slice none 0 0, .slice none 0 0, .int .u64 0]
section
variable {w wr w' : World} {g X : Nat} {A : Option Addr} {c : Nat} {bs : List Nat} {p q er q' er' : Nat}
/-- While a run is read: the reader, the result's box. -/
structure Rg (w : World) (g X : Nat) (A : Option Addr) (c : Nat) (bs : List Nat) (q er : Nat) (wr : World) : Prop where
  rd : Oa wr g A c bs q er
  bx : Box wr X 41 ozrun
  kp : Keep (· = g) w wr
  lt : g < X
  ge : w.heap.size ≤ X
theorem Rg.went (h : Rg w g X A c bs q er wr) (ha : Oa w' g A c bs q' er') (hk : Keep (· = g) wr w') : Rg w g X A c bs q' er' w' :=
  ⟨ha, h.bx.keep hk (by have := h.lt; omega), h.kp.trans hk fun _ _ => id, h.lt, h.ge⟩
set_option maxRecDepth 100000 in
set_option maxHeartbeats 3200000 in
theorem orun_rd (h : Oa w g A c bs p er) : Calls Try.prog (92) #[.pointer (some ⟨g, 0, none⟩)] w fun e w' => ∃ d : D, e = .returned d.v ∧ d.Ok w' (Fresh w.heap.size w') ∧ Ow w g A c bs p er qrun d.ru w' := by
  have hba := Joins.below_alloc1 w (.cells ozrun.toArray 41)
  have HR0 : Hid (Rg w g w.heap.size A c bs p er (w.alloc (.cells ozrun.toArray 41))) := Lib.hid ⟨h.below hba, Box.new w _ _, below_keep hba, h.box.lt, Nat.le_refl _⟩
  clear h hba
  go_enter (Try.func92), (Try.ntmps92)
  go_upto_region 1 with fail
  generalize w.alloc (.cells #[.int .i64 0, .int .i64 0, .int .i64 0, .slice none 0 0, .slice none 0 0, .int .u64 0] 41) = w0 at *
  obtain ⟨X, hX⟩ : ∃ X, X = w.heap.size := ⟨_, rfl⟩
  rw [← hX] at HR0 ⊢
  have HXE := Lib.hid hX
  clear hX
  go_wp2_with fail
  refine (ointeger_any HR0.out.rd).mono ?_
  rintro e w1 ⟨z1, rfl, hz1, q1, e1, ha, hk, hr⟩
  have HR1 := Lib.hid (HR0.out.went ha hk)
  have HQ1 := Lib.hid hr
  have HZ1 := Lib.hid hz1
  clear ha hk hr hz1 HR0
  go_wp2_with fail
  refine (ointeger_any HR1.out.rd).mono ?_
  rintro e w2 ⟨z2, rfl, hz2, q2, e2, ha, hk, hr⟩
  have HR2 := Lib.hid (HR1.out.went ha hk)
  have HQ2 := Lib.hid hr
  have HZ2 := Lib.hid hz2
  clear ha hk hr hz2 HR1
  go_wp2_with fail
  refine (ointeger_any HR2.out.rd).mono ?_
  rintro e w3 ⟨z3, rfl, hz3, q3, e3, ha, hk, hr⟩
  have HR3 := Lib.hid (HR2.out.went ha hk)
  have HQ3 := Lib.hid hr
  have HZ3 := Lib.hid hz3
  clear ha hk hr hz3 HR2
  go_wp2_with fail
  refine (otext_rd HR3.out.rd).mono ?_
  rintro e w4 ⟨Af, cf, bf, rfl, hnf, q4, e4, ha, hk, hr⟩
  have HR4 := Lib.hid (HR3.out.went ha hk)
  have HQ4 := Lib.hid hr
  have HNF := Lib.hid hnf
  clear ha hk hr hnf
  go_wp2_with fail
  refine (otext_rd HR4.out.rd).mono ?_
  rintro e w5 ⟨Al, cl, bl, rfl, hnl, q5, e5, ha, hk, hr⟩
  have HR5 := Lib.hid (HR4.out.went ha hk)
  have HQ5 := Lib.hid hr
  have HNL := Lib.hid hnl
  have HNF5 := Lib.hid (HNF.out.other hk fun k hf hs => by have := hf.1; have := HR3.out.rd.box.lt; omega)
  clear ha hk hr hnl HNF
  go_wp2_with fail
  refine (onumber_any HR5.out.rd).mono ?_
  rintro e w6 ⟨sq, q6, e6, rfl, hsq, -, ha, hk, hr⟩
  have HR6 := Lib.hid (HR5.out.went ha hk)
  have HQ6 := Lib.hid hr
  have HNF6 := Lib.hid (HNF5.out.other hk fun k hf hs => by have := hf.1; have := HR3.out.rd.box.lt; omega)
  have HNL6 := Lib.hid (HNL.out.other hk fun k hf hs => by have := hf.1; have := HR4.out.rd.box.lt; omega)
  have HSQ := Lib.hid hsq
  clear ha hk hr hsq HNF5 HNL
  go_wp2_with (refine wpList_store_row rfl _ _ _ rfl X #[.int .i64 z1, .int .i64 z2, .int .i64 z3, .slice Af bf.length cf, .slice Al bl.length cl, .int .u64 (sq : Int)] rfl rfl _ ozrun.toArray HR6.out.bx (by kernel_rfl) rfl (by kernel_rfl) ?_)
  have hrz : Box (w6.setRow X #[.int .i64 z1, .int .i64 z2, .int .i64 z3, .slice Af bf.length cf, .slice Al bl.length cl, .int .u64 (sq : Int)]) X 41 [.int .i64 z1, .int .i64 z2, .int .i64 z3, .slice Af bf.length cf, .slice Al bl.length cl, .int .u64 (sq : Int)] := setRow_heap _ _ _ _ _ _ HR6.out.bx
  refine bodyPost_ret (oresults_one rfl Try.underlying41 rfl (by kernel_rfl) _ rfl hrz) rfl ?_
  have hk := okeep_setRow w6 X #[.int .i64 z1, .int .i64 z2, .int .i64 z3, .slice Af bf.length cf, .slice Al bl.length cl, .int .u64 (sq : Int)]
  have hS : ∀ B k, Fresh B w6 k → ¬ k = X := fun B k hf => fresh_ne HR6.out.bx (by decide) hf
  have n1 := HNF6.out.other hk (hS _)
  have n2 := HNL6.out.other hk (hS _)
  have hs3 : w.heap.size ≤ w3.heap.size := HR3.out.kp.size
  have hs4 : w.heap.size ≤ w4.heap.size := HR4.out.kp.size
  refine ⟨⟨z1, z2, z3, Af, cf, bf, Al, cl, bl, sq⟩, rfl, ⟨HZ1.out, HZ2.out, HZ3.out, n1.lies.later (fun _ _ => rfl) (Fresh.low hs3), n1.len, n1.cap, n1.b8, n2.lies.later (fun _ _ => rfl) (Fresh.low hs4), n2.len, n2.cap, n2.b8, HSQ.out⟩, q6, e6,
    HR6.out.rd.same (fun k hk2 => hk.block k (Nat.lt_of_le_of_lt hk2 HR6.out.rd.box.lt) (by have := HR6.out.lt; omega)), HR6.out.kp.trans hk fun i hi hs => by have := HXE.out; omega, ?_⟩
  exact HQ1.out.bd (HQ2.out.bd (HQ3.out.bd (HQ4.out.bd (HQ5.out.bd (HQ6.out.bd (rel_ret _))))))
theorem cellsL_set {d e : D} : ∀ {L : List D} {k : Nat}, L[k]? = some e → ((((((cellsL L).set (k * 6) (.int .i64 d.file)).set (k * 6 + 1) (.int .i64 d.bytes)).set (k * 6 + 2) (.int .i64 d.count)).set (k * 6 + 3) (.slice d.firstA d.first.length d.firstC)).set (k * 6 + 4) (.slice d.lastA d.last.length d.lastC)).set (k * 6 + 5) (.int .u64 (d.seq : Int)) = cellsL (L.set k d)
  | [], k, h => by simp at h
  | x :: L, 0, h => rfl
  | x :: L, k + 1, h => by
    have hc : cellsL (x :: L) = x.cells ++ cellsL L := rfl
    have hl : x.cells.length = 6 := rfl
    have ih := cellsL_set (d := d) (L := L) (k := k) (by simpa using h)
    rw [hc, List.set_append_right _ _ (by omega), List.set_append_right _ _ (by omega), List.set_append_right _ _ (by omega), List.set_append_right _ _ (by omega), List.set_append_right _ _ (by omega), List.set_append_right _ _ (by omega)]
    rw [show (k + 1) * 6 - x.cells.length = k * 6 by omega, show (k + 1) * 6 + 1 - x.cells.length = k * 6 + 1 by omega, show (k + 1) * 6 + 2 - x.cells.length = k * 6 + 2 by omega, show (k + 1) * 6 + 3 - x.cells.length = k * 6 + 3 by omega, show (k + 1) * 6 + 4 - x.cells.length = k * 6 + 4 by omega, show (k + 1) * 6 + 5 - x.cells.length = k * 6 + 5 by omega, ih]
    rfl
def zD : D := ⟨0, 0, 0, none, 0, [], none, 0, [], 0⟩
theorem zeros_runs (n : Nat) : (madeCells zD.v.cells (n * 6)).toList = cellsL (List.replicate n zD) := by
  apply List.ext_getElem?
  intro j
  by_cases hj : j < n * 6
  · have hr : (List.replicate n zD)[j / 6]? = some zD := by rw [List.getElem?_replicate]; rw [if_pos (by omega)]
    have h1 := cellsL_at hr (j % 6) (Nat.mod_lt _ (by decide))
    rw [show j / 6 * 6 + j % 6 = j by omega] at h1
    rw [h1]
    have h2 : (madeCells zD.v.cells (n * 6)).toList[j]? = some (zD.v.cells[j % 6]!) := by
      unfold madeCells
      rw [Array.toList_map, Array.toList_range, List.getElem?_map, List.getElem?_range hj]
      rfl
    rw [h2]
    have h3 : j % 6 = 0 ∨ j % 6 = 1 ∨ j % 6 = 2 ∨ j % 6 = 3 ∨ j % 6 = 4 ∨ j % 6 = 5 := by omega
    rcases h3 with h3 | h3 | h3 | h3 | h3 | h3 <;> rw [h3] <;> rfl
  · rw [List.getElem?_eq_none, List.getElem?_eq_none]
    · rw [cellsL_length]; simp; omega
    · simp [madeCells]; omega
theorem make_runs (n : Nat) (h : n ≤ 1000) (W : World) : Sem.run Try.prog (Instr.makeSlice 22 (.int .i64 (n : Int)) (.int .i64 (n : Int))) W =
    .ok (.slice (some ⟨W.heap.size, 0, none⟩) n n) (W.alloc (.cells (cellsL (List.replicate n zD)).toArray 41)) := by
  obtain ⟨i, hi, hz, hs, hb⟩ := info_parts (P := Try.prog) (e := 41) (z := zD.v) (size := 6) (bytes := 80) (by kernel_rfl)
  have h := run_make (P := Try.prog) W 22 41 i zD.v Try.underlying22 hi hz .i64 .i64 (n : Int) (n : Int) (by omega) (by omega) (by rw [hb]; omega) (by omega)
  rw [hs, Int.toNat_natCast] at h
  rw [h, ← zeros_runs, Array.toArray_toList]
theorem keep_setCells : ∀ (vs : List Value) (o : Nat) (W W0 : World) (b : Nat), Keep (· = b) W0 W → Keep (· = b) W0 (W.setCells b o vs)
  | [], o, W, W0, b, h => h
  | v :: r, o, W, W0, b, h => keep_setCells r (o + 1) _ W0 b (h.setCell (p := ⟨b, o, none⟩) (.inr rfl) v)
theorem box_run {W : World} {b k : Nat} {L : List D} {d e : D} (h : Box W b 41 (cellsL L)) (hk : L[k]? = some e) : Box (W.setCells b (k * 6) d.cells) b 41 (cellsL (L.set k d)) := by
  have h6 := (((((h.set (k * 6) (.int .i64 d.file)).set (k * 6 + 1) (.int .i64 d.bytes)).set (k * 6 + 2) (.int .i64 d.count)).set (k * 6 + 3) (.slice d.firstA d.first.length d.firstC)).set (k * 6 + 4) (.slice d.lastA d.last.length d.lastC)).set (k * 6 + 5) (.int .u64 (d.seq : Int))
  rw [cellsL_set hk] at h6
  exact h6
/-- While runs are read: the reader, the block of the runs (L of m so far). -/
structure Lg (w : World) (g H : Nat) (A : Option Addr) (c : Nat) (bs : List Nat) (m : Nat) (L : List D) (q er : Nat) (wr : World) : Prop where
  rd : Oa wr g A c bs q er
  bx : Box wr H 41 (cellsL (L ++ List.replicate (m - L.length) zD))
  ok : ∀ d, d ∈ L → d.Ok wr (Fresh w.heap.size wr)
  kp : Keep (· = g) w wr
  lt : g < H
  ge : w.heap.size ≤ H
set_option maxRecDepth 100000 in
set_option maxHeartbeats 3200000 in
theorem oruns_rd (h : Oa w g A c bs p er) : Calls Try.prog (74) #[.pointer (some ⟨g, 0, none⟩)] w fun e w' => ∃ (v : Value) (L : List D), e = .returned v ∧ Ac w.heap.size w' v L ∧ Ow w g A c bs p er qruns (L.map D.ru) w' := by
  have HN := Lib.hid (olength_any h 100 (by decide))
  clear h
  go_enter (Try.func74), (Try.ntmps74)
  go_wp2_with fail
  refine HN.out.mono ?_
  rintro e w1 ⟨m, q1, e1, rfl, hm, -, ha, hk, hr⟩
  have HM := make_runs m (by omega) w1
  have hba := Joins.below_alloc1 w1 (.cells (cellsL (List.replicate m zD)).toArray 41)
  have HL0 : Hid (Lg w g w1.heap.size A c bs m [] q1 e1 (w1.alloc (.cells (cellsL (List.replicate m zD)).toArray 41))) := Lib.hid ⟨ha.below hba, (by
    have := Box.new w1 41 (cellsL (List.replicate m zD))
    simpa using this), fun d hd => (by simp at hd), hk.trans (below_keep (S := fun _ => False) hba) fun _ _ h => h.elim, ha.box.lt, hk.size⟩
  have HQ := Lib.hid hr
  have HMM := Lib.hid hm
  clear HN ha hk hr hba
  go_wp2_with fail
  clear HM
  generalize w1.alloc (.cells (cellsL (List.replicate m zD)).toArray 41) = w2 at *
  obtain ⟨H, hH⟩ : ∃ H, H = w1.heap.size := ⟨_, rfl⟩
  rw [← hH] at HL0 ⊢
  clear hH
  go_loopw [10] (fun i wr => ∃ (k : Nat) (L : List D) (q er' : Nat), k ≤ m ∧ i = .int .i64 (k : Int) ∧ Hid (L.length = k) ∧ Hid (Lg w g H A c bs m L q er' wr) ∧ Hid (Rel (rmany qrun k) bs q1 e1 (L.map D.ru) q er')) (fun i _ => m + 1 - (intOf i).toNat)
  case atStart => exact ⟨0, [], q1, e1, Nat.zero_le _, rfl, Lib.hid rfl, HL0, Lib.hid (rel_ret _)⟩
  case round =>
    obtain ⟨k, L, q, er', hk, rfl, hlen, hg, hrel⟩ := hrel
    by_cases hlt : k < m
    · go_wp2_with fail
      refine (orun_rd hg.out.rd).mono ?_
      rintro e w3 ⟨d, rfl, hd, q3, e3, ha3, hk3, hr3⟩
      have hH : ¬ H = g := by have := hg.out.lt; omega
      have hbx := hg.out.bx.keep hk3 hH
      have hat : (L ++ List.replicate (m - L.length) zD)[k]? = some zD := by
        have := hlen.out
        rw [List.getElem?_append_right (by omega), List.getElem?_replicate, if_pos (by omega)]
      have hkk := keep_setCells d.cells (k * 6) w3 w3 H (Keep.refl _ _)
      have hset : (L ++ List.replicate (m - L.length) zD).set k d = (L ++ [d]) ++ List.replicate (m - (L ++ [d]).length) zD := by
        have := hlen.out
        obtain ⟨r, hr⟩ : ∃ r, m - L.length = r + 1 := ⟨m - L.length - 1, by omega⟩
        rw [List.set_append_right _ _ (by omega), hr, show k - L.length = 0 by omega, List.replicate_succ, List.set_cons_zero, List.length_append, show m - (L.length + [d].length) = r by simp; omega]
        simp
      have hbx2 := box_run (d := d) hbx hat
      rw [hset] at hbx2
      have hfresh : ∀ B j, Fresh B w3 j → ¬ j = H := fun B j hf => fresh_ne hbx (by decide) hf
      have HG4 : Hid (Lg w g H A c bs m (L ++ [d]) q3 e3 (w3.setCells H (k * 6) d.cells)) := Lib.hid ⟨ha3.same (fun j hj => hkk.block j (Nat.lt_of_le_of_lt hj ha3.box.lt) (by have := hg.out.lt; omega)), hbx2, fun e he => by
          have hok : e.Ok w3 (Fresh w.heap.size w3) := by
            rcases List.mem_append.1 he with he | he
            · exact (hg.out.ok e he).later (fun j hf => hk3.block j hf.2.1 fun e => fresh_ne hg.out.rd.box (by decide) hf e) fun j hf => Fresh.keep hk3 (fun j hf e => fresh_ne hg.out.rd.box (by decide) hf e) j hf
            · simp at he
              subst he
              exact hd.later (fun _ _ => rfl) (Fresh.low hg.out.kp.size)
          exact hok.later (fun j hf => hkk.block j hf.2.1 (hfresh _ j hf)) fun j hf => Fresh.keep hkk (hfresh _) j hf,
        (hg.out.kp.trans hk3 fun _ _ => id).trans hkk fun i hi hs => by have := hg.out.ge; omega, hg.out.lt, hg.out.ge⟩
      have HR4 : Hid (Rel (rmany qrun (k + 1)) bs q1 e1 ((L ++ [d]).map D.ru) q3 e3) := Lib.hid (by rw [List.map_append]; exact hrel.out.snoc hr3)
      have HL4 : Hid ((L ++ [d]).length = k + 1) := Lib.hid (by rw [List.length_append, hlen.out]; rfl)
      have zc : ∀ j, j < 6 → (cellsL (L ++ List.replicate (m - L.length) zD))[k * 6 + j]? = zD.cells[j]? := fun j hj => cellsL_at hat j hj
      have c0 := hbx.cell (k * 6)
      have f0 := hbx.free (k * 6)
      rw [show k * 6 = k * 6 + 0 from rfl, zc 0 (by decide)] at c0
      have hb0 := hbx.set (k * 6) (.int .i64 d.file)
      have c1 := hb0.cell (k * 6 + 1)
      have f1 := hb0.free (k * 6 + 1)
      rw [List.getElem?_set_ne (by omega), zc 1 (by decide)] at c1
      have hb1 := hb0.set (k * 6 + 1) (.int .i64 d.bytes)
      have c2 := hb1.cell (k * 6 + 2)
      have f2 := hb1.free (k * 6 + 2)
      rw [List.getElem?_set_ne (by omega), List.getElem?_set_ne (by omega), zc 2 (by decide)] at c2
      have hb2 := hb1.set (k * 6 + 2) (.int .i64 d.count)
      have c3 := hb2.cell (k * 6 + 3)
      have f3 := hb2.free (k * 6 + 3)
      rw [List.getElem?_set_ne (by omega), List.getElem?_set_ne (by omega), List.getElem?_set_ne (by omega), zc 3 (by decide)] at c3
      have hb3 := hb2.set (k * 6 + 3) (.slice d.firstA d.first.length d.firstC)
      have c4 := hb3.cell (k * 6 + 4)
      have f4 := hb3.free (k * 6 + 4)
      rw [List.getElem?_set_ne (by omega), List.getElem?_set_ne (by omega), List.getElem?_set_ne (by omega), List.getElem?_set_ne (by omega), zc 4 (by decide)] at c4
      have hb4 := hb3.set (k * 6 + 4) (.slice d.lastA d.last.length d.lastC)
      have c5 := hb4.cell (k * 6 + 5)
      have f5 := hb4.free (k * 6 + 5)
      rw [List.getElem?_set_ne (by omega), List.getElem?_set_ne (by omega), List.getElem?_set_ne (by omega), List.getElem?_set_ne (by omega), List.getElem?_set_ne (by omega), zc 5 (by decide)] at c5
      simp only [zD, D.cells, List.getElem?_cons_succ, List.getElem?_cons_zero, Nat.add_zero] at c0 c1 c2 c3 c4 c5
      clear hb0 hb1 hb2 hb3 hb4 zc
      clear hd ha3 hk3 hr3 hbx hat hkk hset hbx2 hfresh hg hrel hlen
      go_wp2_with fail
      go_roundw
      case rel => exact ⟨k + 1, L ++ [d], q3, e3, by omega, by go_num, HL4, HG4, HR4⟩
      case measure => simp [intOf]; omega
    · obtain rfl : k = m := by omega
      go_wp2_with fail
      go_ret
      have hbx := hg.out.bx
      rw [hlen.out, Nat.sub_self, List.replicate_zero, List.append_nil] at hbx
      have hl := hlen.out
      obtain ⟨q, er', hq⟩ : ∃ q er', Rel (rmany qrun k) bs q1 e1 (L.map D.ru) q er' ∧ Oa wr g A c bs q er' := ⟨q, er', hrel.out, hg.out.rd⟩
      refine ⟨_, L, rfl, ⟨⟨by rw [cellsL_length], .inr ⟨H, k, (cellsL L).toArray, by rw [hl]; rfl, hg.out.ge, hbx, by omega, by have := HMM.out; unfold maxLen; omega, by simp [cellsL_length, hl], List.take_of_length_le (by rw [cellsL_length]; exact Nat.le_refl _)⟩⟩, hg.out.ok⟩, q, er', hq.2, hg.out.kp, HQ.out.bd hq.1⟩
end
end Go.Proofs.Ythhmjjmjicmhdaa.Ed
