/- The document's own ReadEdit. -/
import Derived.Test.YthhmjjmjicmhdaaErd
import Derived.Test.YthhmjjmjicmhdaaErs
import Derived.Test.YthhmjjmjicmhdaaLast
import Derived.Deep.CutBlock
namespace Go.Proofs.Ythhmjjmjicmhdaa.Ed
set_option linter.unusedVariables false
set_option linter.unusedSimpArgs false
open Go.RowKit Lift Ik
/-- What ReadEdit answers: an error, and an edit in new memory. -/
def Told (w : World) (r : Nat × E) (e : Ending) (w' : World) : Prop :=
  ∃ x : X, e = .returned (.tuple #[x.v, .int .i64 (r.1 : Int)]) ∧ x.e = r.2 ∧ x.Ok w' w'.heap.size ∧ Below w.heap.size w w'
def zeroX : X := ⟨none, 0, [], none, 0, [], 0, 0, 0⟩
theorem zeroX_ok (w : World) (B : Nat) : zeroX.Ok w B := ⟨Runs.zero _ _, .inl rfl, Nat.le_refl _, by decide, fun _ h => (by cases h), by decide, by decide, by decide⟩
theorem num_wf {z : Int} (h0 : 0 ≤ z) (h1 : z ≤ 4611686018427387904) : (Lit.int .i64 z).wf = true := WalkArith.wf_i64 (by omega)
theorem fresh_later {B X i k : Nat} {w : World} {us : List Value} {u : Value} (hb : Box w X 41 us) (h : Fresh B w k) : Fresh B (w.setCell ⟨X, i, none⟩ u) k :=
  Fresh.keep (S := (· = X)) ((Keep.refl (· = X) w).setCell (p := ⟨X, i, none⟩) (.inr rfl) u) (fun k hf hk => fresh_ne hb (by decide) hf hk) k h
section
variable {w w0 w1 w' : World} {A1 : Option Addr} {c1 : Nat} {b : List Nat}
/-- New bytes, where a run's box is written, or a reader reads. -/
theorem New.poke {X i : Nat} {us : List Value} {u : Value} (h : New w0 w1 A1 c1 b) (hb : Box w1 X 41 us) : New w0 (w1.setCell ⟨X, i, none⟩ u) A1 c1 b :=
  ⟨h.lies.later (fun k hf => ((Keep.refl (· = X) w1).setCell (p := ⟨X, i, none⟩) (.inr rfl) u).block k hf.2.1 fun hk => fresh_ne hb (by decide) hf hk) fun k hf => fresh_later hb hf, h.len, h.cap, h.b8⟩
theorem New.keep {g : Nat} (h : New w0 w1 A1 c1 b) (hk : Keep (· = g) w1 w') (hg : g < w0.heap.size) : New w0 w' A1 c1 b :=
  ⟨h.lies.later (fun k hf => hk.block k hf.2.1 fun e => by have := hf.1; omega) fun k hf => Fresh.keep hk (fun k hf e => by have := hf.1; omega) k hf, h.len, h.cap, h.b8⟩
end
theorem held_store {P : Program} {w : World} {ops : Array Oper} {o : Oper} {a : Act} {K' : Act → World → Prop} {Q : Exit → Act → World → Prop} (hw : Region.wanted o (yielded ops a.tmps) = true) (ty : TypeId) (x y : Operand)
    (ho : o.op = .store ty x y) (g : Nat) (cells : Array Value) (hx : a.eval x = .pointer (some ⟨g, 0, none⟩)) (hy : a.eval y = .agg cells) (t : TypeId) (old : Array Value) (hg : w.heap[g]? = some (.cells old t (0, 0)))
    (hi : (P.info? ty).map (·.size) = some cells.size) (hold : old.size = cells.size) (h1 : cells.all (·.oneCell') = true) (h : K' (a.put o.dst undef) (w.setRow g cells)) :
    if Region.wanted o (yielded ops a.tmps) = true then Oper.wp P o a w K' Q else K' (a.put o.dst undef) w := by
  rw [if_pos hw]
  exact wp_store_row ty x y ho g cells hx hy t old hg hi hold h1 h
/-- The edit so far, as one that lies somewhere. -/
theorem ok_of {B : Nat} {wr : World} {Aa Ad : Option Addr} {ca cd : Nat} {L : List D} {Z : List Int} {nx lg : Int} {sq : Nat} (h : Ac B wr (.slice Aa L.length ca) L) (hd : wr.ownsRow B 3 1 (.slice Ad Z.length cd) Z.length (Z.map (.int .i64)))
    (hz : ∀ z, z ∈ Z → 0 ≤ z ∧ z ≤ 4611686018427387904) (h1 : 0 ≤ nx ∧ nx ≤ 4611686018427387904) (h2 : 0 ≤ lg ∧ lg ≤ 4611686018427387904) (h3 : sq < 18446744073709551616) : (⟨Aa, ca, L, Ad, cd, Z, nx, lg, sq⟩ : X).Ok wr wr.heap.size := by
  obtain ⟨A1, c1, e1, hc1, hm1, hl1⟩ := own_parts h.own
  injection e1 with ea _ ec
  subst ea; subst ec
  obtain ⟨A2, c2, e2, hc2, hm2, hl2⟩ := own_parts hd
  injection e2 with ea _ ec
  subst ea; subst ec
  exact ⟨⟨hl1, hc1, hm1, fun d hd => (h.ok d hd).later (fun _ _ => rfl) fun k hf => hf.2.1⟩, hl2, hc2, hm2, fun z hzm => num_wf (hz z hzm).1 (hz z hzm).2, num_wf h1.1 h1.2, num_wf h2.1 h2.2, h3⟩
theorem keep_setRow (w : World) (g : Nat) (cs : Array Value) : Keep (· = g) w (w.setRow g cs) := ⟨rfl, rfl, rfl, by simp, fun k _ hk => setRow_other w g k cs hk⟩
theorem told_zero {w w' : World} {er : Nat} {r : Nat × E} (hr : r = (er, noE)) (hb : Below w.heap.size w w') : Told w r (.returned (.tuple #[zeroX.v, .int .i64 (er : Int)])) w' := by
  subst hr
  exact ⟨zeroX, rfl, rfl, zeroX_ok _ _, hb⟩
set_option maxRecDepth 100000 in
set_option maxHeartbeats 12800000 in
theorem rread_any (A : Option Addr) (c : Nat) (bs : List Nat) (w : World) (hl : Lies w w.heap.size A (bs.map Vt.vb)) (hlen : bs.length ≤ c) (hcap : c ≤ maxLen) (hfew : bs.length ≤ 20000000) (hbyt : Byt bs) :
    Calls Try.prog 21 #[.slice A bs.length c] w (Told w (readE bs)) := by
  obtain ⟨E1, hE1⟩ : ∃ E, E = w.alloc (.cells zeroEd.toArray 26) := ⟨_, rfl⟩
  obtain ⟨E2, hE2⟩ : ∃ E, E = E1.alloc (.cells #[.slice A bs.length c, .int .i64 0, .int .i64 0] 72) := ⟨_, rfl⟩
  have HS0 : Hid (RS w (E2.alloc (.cells zeroEd.toArray 26)) A c bs 0 0 (.slice none 0 0) (.slice none 0 0) [] [] 0 0 0) := Lib.hid (by
    have s1 : E1.heap.size = w.heap.size + 1 := by rw [hE1]; simp
    have s2 : E2.heap.size = w.heap.size + 2 := by rw [hE2]; simp [s1]
    have b0 : Box E1 w.heap.size 26 zeroEd := by rw [hE1]; exact Box.new w _ _
    have b1 : Box E2 (w.heap.size + 1) 72 [.slice A bs.length c, .int .i64 ((0 : Nat) : Int), .int .i64 ((0 : Nat) : Int)] := by rw [hE2, ← s1]; exact Box.new E1 _ _
    have b2 : Box (E2.alloc (.cells zeroEd.toArray 26)) (w.heap.size + 1 + 1) 26 zeroEd := by rw [show w.heap.size + 1 + 1 = E2.heap.size from s2.symm]; exact Box.new E2 _ _
    have hb1 : Below w.heap.size w E1 := by rw [hE1]; exact Joins.below_alloc1 _ _
    have hb2 : Below w.heap.size w E2 := by rw [hE2]; exact hb1.alloc (by omega) _
    have hb3 : Below w.heap.size w (E2.alloc (.cells zeroEd.toArray 26)) := hb2.alloc (by omega) _
    have c0 : Box E2 w.heap.size 26 zeroEd := by rw [hE2]; exact b0.alloc _
    exact ⟨⟨b1.alloc _, (hl.below hb3).up (by omega), hlen, hcap, hfew, hbyt, Nat.zero_le _, by decide⟩, c0.alloc _, b2, Ac.nil _ _, World.ownsRow_nil _ _ _ _, hb3, by simp [s2]⟩)
  have HE1 := Lib.hid hE1
  have HE2 := Lib.hid hE2
  have hfew2 := hfew
  clear hl hlen hcap hfew hbyt hE1 hE2
  go_enter Try.func21, Try.ntmps21
  go_wp2_with fail
  have HM := most_any HS0.out.rd 100 (by decide)
  rw [HE2.out, HE1.out] at HM HS0
  clear HE1 HE2
  have HM := Lib.hid HM
  generalize hw0 : ((w.alloc (.cells zeroEd.toArray 26)).alloc (.cells #[.slice A bs.length c, .int .i64 0, .int .i64 0] 72)).alloc (.cells zeroEd.toArray 26) = w0 at *
  clear hw0
  refine HM.out.mono ?_
  rintro e w1 ⟨n, rfl, hn, q0, er0, ha0, hk0, hr0⟩
  have HS1 := Lib.hid (HS0.out.went ha0 hk0)
  have HR1 : Hid (Rel (rmost 100) bs 0 0 n q0 er0) := Lib.hid hr0
  clear ha0 hk0 hr0 HM HS0
  go_upto_block 0 with fail
  go_cut [] (fun wx => ∃ (q er : Nat) (va : Value) (L : List D), RS w wx A c bs q er va (.slice none 0 0) L [] 0 0 0 ∧ L.length ≤ 100 ∧ Rel (rmany rrun n) bs q0 er0 (L.map D.ru) q er)
  case first =>
    go_wp2_with fail
    go_loopw [7] (fun i wr => ∃ (k q er : Nat) (va : Value) (L : List D), k ≤ n ∧ i = .int .i64 (k : Int) ∧ L.length = k ∧ Hid (RS w wr A c bs q er va (.slice none 0 0) L [] 0 0 0) ∧ Hid (Rel (rmany rrun k) bs q0 er0 (L.map D.ru) q er)) (fun i _ => n + 1 - (intOf i).toNat)
    case atStart => exact ⟨0, q0, er0, _, [], Nat.zero_le _, rfl, rfl, HS1, Lib.hid (rel_ret _)⟩
    case round =>
      obtain ⟨k, q, er, va, L, hk, rfl, hLk, HS, HR⟩ := hrel
      have HLK := Lib.hid hLk
      clear hLk
      have f2 : wr.cell? ⟨w.heap.size + 1, 2, none⟩ = some (.int .i64 (er : Int)) := HS.out.rd.box.cell 2
      by_cases hgo : k < n ∧ er = 0
      · obtain ⟨hlt, rfl⟩ := hgo
        have H1 := Lib.hid (int_any HS.out.rd)
        go_wp2_with fail
        clear f2
        refine H1.out.mono ?_
        rintro e V1 ⟨z1, rfl, lo1, hi1, hw1⟩
        obtain ⟨q1, er1, ha, hkp, hr⟩ := hw1
        have HS1 := Lib.hid (HS.out.went ha hkp)
        have HR1 := Lib.hid hr
        clear ha hkp hr H1
        have H2 := Lib.hid (int_any HS1.out.rd)
        go_wp2_with fail
        refine H2.out.mono ?_
        rintro e V2 ⟨z2, rfl, lo2, hi2, hw2⟩
        obtain ⟨q2, er2, ha, hkp, hr⟩ := hw2
        have HS2 := Lib.hid (HS1.out.went ha hkp)
        have HR2 := Lib.hid hr
        clear ha hkp hr H2
        have H3 := Lib.hid (int_any HS2.out.rd)
        go_wp2_with fail
        refine H3.out.mono ?_
        rintro e V3 ⟨z3, rfl, lo3, hi3, hw3⟩
        obtain ⟨q3, er3, ha, hkp, hr⟩ := hw3
        have HS3 := Lib.hid (HS2.out.went ha hkp)
        have HR3 := Lib.hid hr
        clear ha hkp hr H3
        go_upto_region 8 with fail
        have HS4 : Hid (RS w (V3.alloc (Obj.cells #[.int .i64 z1, .int .i64 z2, .int .i64 z3, .slice none 0 0, .slice none 0 0, .int .u64 0] 41)) A c bs q3 er3 va (.slice none 0 0) L [] 0 0 0) := Lib.hid (HS3.out.below (Joins.below_alloc1 _ _))
        have HX4 : Hid (Box (V3.alloc (Obj.cells #[.int .i64 z1, .int .i64 z2, .int .i64 z3, .slice none 0 0, .slice none 0 0, .int .u64 0] 41)) V3.heap.size 41 [.int .i64 z1, .int .i64 z2, .int .i64 z3, .slice none 0 0, .slice none 0 0, .int .u64 ((0 : Nat) : Int)]) := Lib.hid (Box.new V3 41 [.int .i64 z1, .int .i64 z2, .int .i64 z3, .slice none 0 0, .slice none 0 0, .int .u64 0])
        have HNX : Hid (¬ va.ownBlock = some V3.heap.size ∧ w.heap.size + 3 ≤ V3.heap.size) := Lib.hid ⟨fun hv => by have := (HS3.out.add.own.lt _ hv).2; omega, HS3.out.size⟩
        clear HS3
        generalize hX : V3.heap.size = X at *
        generalize V3.alloc (Obj.cells #[.int .i64 z1, .int .i64 z2, .int .i64 z3, .slice none 0 0, .slice none 0 0, .int .u64 0] 41) = V4 at *
        clear hX
        have H5 := Lib.hid (bytes_rd HS4.out.rd)
        go_wp2_with fail
        refine H5.out.mono ?_
        rintro e V5 ⟨A5, c5, b5, rfl, hn5, hl5, q5, er5, ha, hkp, hr⟩
        have HS5 := Lib.hid (HS4.out.went ha hkp)
        have HX5 := Lib.hid (HX4.out.keep hkp (by have := HNX.out.2; omega))
        have HR5 := Lib.hid hr
        have HN5 := Lib.hid hn5
        have HL5 := Lib.hid hl5
        clear hn5 hl5 ha hkp hr H5
        have p3 : V5.cell? ⟨X, 3, none⟩ = some (.slice none 0 0) := HX5.out.cell 3
        have z3' : V5.frozen? ⟨X, 3, none⟩ = false := HX5.out.free 3
        go_upto_region 9 with fail
        have HS6 := Lib.hid (HS5.out.poke (i := 3) (u := .slice A5 b5.length c5) HX5.out HNX.out.2 HNX.out.1)
        have HX6 := Lib.hid (HX5.out.set 3 (.slice A5 b5.length c5))
        have HN6 := Lib.hid (HN5.out.poke (i := 3) (u := .slice A5 b5.length c5) HX5.out)
        have HG4 : Hid (w.heap.size + 3 ≤ V4.heap.size) := Lib.hid HS4.out.size
        clear p3 z3' HS5 HX5 HN5 HX4 HS4
        generalize V5.setCell ⟨X, 3, none⟩ (.slice A5 b5.length c5) = V6 at *
        have H7 := Lib.hid (bytes_rd HS6.out.rd)
        go_wp2_with fail
        refine H7.out.mono ?_
        rintro e V7 ⟨A7, c7, b7, rfl, hn7, hl7, q7, er7, ha, hkp, hr⟩
        have HS7 := Lib.hid (HS6.out.went ha hkp)
        have HX7 := Lib.hid (HX6.out.keep hkp (by have := HNX.out.2; omega))
        have HN6 := Lib.hid (HN6.out.keep hkp (by have := HG4.out; omega))
        have HR7 := Lib.hid hr
        have HN7 := Lib.hid hn7
        have HL7 := Lib.hid hl7
        have HG6 : Hid (w.heap.size + 3 ≤ V6.heap.size) := Lib.hid HS6.out.size
        clear hn7 hl7 ha hkp hr H7 HS6 HX6
        have p4 : V7.cell? ⟨X, 4, none⟩ = some (.slice none 0 0) := HX7.out.cell 4
        have z4' : V7.frozen? ⟨X, 4, none⟩ = false := HX7.out.free 4
        go_upto_region 10 with fail
        have HS8 := Lib.hid (HS7.out.poke (i := 4) (u := .slice A7 b7.length c7) HX7.out HNX.out.2 HNX.out.1)
        have HX8 := Lib.hid (HX7.out.set 4 (.slice A7 b7.length c7))
        have HN8 := Lib.hid (HN7.out.poke (i := 4) (u := .slice A7 b7.length c7) HX7.out)
        have HN6 := Lib.hid (HN6.out.poke (i := 4) (u := .slice A7 b7.length c7) HX7.out)
        clear p4 z4' HS7 HX7 HN7
        generalize V7.setCell ⟨X, 4, none⟩ (.slice A7 b7.length c7) = V8 at *
        have H9 := Lib.hid (number_any HS8.out.rd)
        go_wp2_with fail
        refine H9.out.mono ?_
        rintro e V9 ⟨sq, rfl, hsq, -, q9, er9, ha, hkp, hr⟩
        have HS9 := Lib.hid (HS8.out.went ha hkp)
        have HX9 := Lib.hid (HX8.out.keep hkp (by have := HNX.out.2; omega))
        have HN6 := Lib.hid (HN6.out.keep hkp (by have := HG4.out; omega))
        have HN8 := Lib.hid (HN8.out.keep hkp (by have := HG6.out; omega))
        have HR9 := Lib.hid hr
        have HSQ := Lib.hid hsq
        clear ha hkp hr H9 HS8 HX8 hsq
        have p5 : V9.cell? ⟨X, 5, none⟩ = some (.int .u64 ((0 : Nat) : Int)) := HX9.out.cell 5
        have z5' : V9.frozen? ⟨X, 5, none⟩ = false := HX9.out.free 5
        go_upto_region 11 with fail
        have HSA := Lib.hid (HS9.out.poke (i := 5) (u := .int .u64 (sq : Int)) HX9.out HNX.out.2 HNX.out.1)
        have HXA := Lib.hid (HX9.out.set 5 (.int .u64 (sq : Int)))
        have HN8 := Lib.hid (HN8.out.poke (i := 5) (u := .int .u64 (sq : Int)) HX9.out)
        have HN6 := Lib.hid (HN6.out.poke (i := 5) (u := .int .u64 (sq : Int)) HX9.out)
        clear p5 z5' HS9 HX9
        generalize V9.setCell ⟨X, 5, none⟩ (.int .u64 (sq : Int)) = VA at *
        obtain ⟨d, hd⟩ : ∃ d : D, d = ⟨z1, z2, z3, A5, c5, b5, A7, c7, b7, sq⟩ := ⟨_, rfl⟩
        have HOK : Hid (d.Ok VA (Fresh (w.heap.size + 3) VA)) := Lib.hid (by
          rw [hd]
          exact ⟨num_wf lo1 hi1, num_wf lo2 hi2, num_wf lo3 hi3, HN6.out.lies.later (fun _ _ => rfl) fun k hk => Fresh.low HG4.out k hk, HN6.out.len, HN6.out.cap, HN6.out.b8, HN8.out.lies.later (fun _ _ => rfl) fun k hk => Fresh.low HG6.out k hk, HN8.out.len, HN8.out.cap, HN8.out.b8, HSQ.out⟩)
        have HREL : Hid (Rel rrun bs q 0 d.ru q9 er9) := Lib.hid (by
          rw [hd]
          exact HR1.out.bd (HR2.out.bd (HR3.out.bd (HR5.out.bd (HR7.out.bd (HR9.out.bd (rel_ret _)))))))
        have HLL : Hid (L.length ≤ 1000) := Lib.hid (by rw [HLK.out]; omega)
        obtain ⟨va', VB, hrun, hc0, hz0, hsb⟩ := HSA.out.addRun HOK.out HLL.out
        obtain ⟨M, hM⟩ : ∃ M, M = L ++ [d] := ⟨_, rfl⟩
        rw [← hM] at hsb
        have hownb := hsb.add.own
        obtain ⟨Av, cv, rfl, -, -, -⟩ := own_parts hownb
        have HM1 := Lib.hid hM
        have HRUN := Lib.hid hrun
        have HSB := Lib.hid hsb
        clear hM hownb
        have x0 : VA.cell? ⟨X, 0, none⟩ = some (.int .i64 d.file) := by rw [hd]; exact HXA.out.cell 0
        have x1 : VA.cell? ⟨X, 0 + 1, none⟩ = some (.int .i64 d.bytes) := by rw [hd]; exact HXA.out.cell 1
        have x2 : VA.cell? ⟨X, 0 + 2, none⟩ = some (.int .i64 d.count) := by rw [hd]; exact HXA.out.cell 2
        have x3 : VA.cell? ⟨X, 0 + 3, none⟩ = some (.slice d.firstA d.first.length d.firstC) := by rw [hd]; exact HXA.out.cell 3
        have x4 : VA.cell? ⟨X, 0 + 4, none⟩ = some (.slice d.lastA d.last.length d.lastC) := by rw [hd]; exact HXA.out.cell 4
        have x5 : VA.cell? ⟨X, 0 + 5, none⟩ = some (.int .u64 (d.seq : Int)) := by rw [hd]; exact HXA.out.cell 5
        have hload := load_run (p := ⟨X, 0, none⟩) x0 x1 x2 x3 x4 x5
        have y0 : VA.cell? ⟨w.heap.size + 1 + 1, 0, none⟩ = some va := HSA.out.box.cell 0
        have hown := HSA.out.add.own
        obtain ⟨Ao, co, rfl, -, -, -⟩ := own_parts hown
        clear hd hrun hsb hown HXA HSA HOK HN6 HN8 HS HS1 HS2 HNX
        go_wp2_with (at_builtin; refine wpList_append_run rfl _ _ 22 rfl rfl rfl HRUN.out ?_)
        go_roundw
        case rel => exact ⟨k + 1, q9, er9, _, M, by omega, by go_num, by rw [HM1.out, List.length_append, HLK.out]; rfl, HSB, Lib.hid (by rw [HM1.out, List.map_append]; exact HR.out.snoc HREL.out)⟩
        case measure => simp [intOf]; omega
      · have HX : Hid (Rel (rmany rrun n) bs q0 er0 (L.map D.ru) q er) := Lib.hid (by
          by_cases he : er = 0
          · rw [show n = k by omega]; exact HR.out
          · exact HR.out.stop he hk)
        have HLN : Hid (L.length ≤ 100) := Lib.hid (by rw [HLK.out]; omega)
        by_cases hkn : k < n
        · have t1 : ((er : Int) == 0) = false := by rw [beq_eq_false_iff_ne]; omega
          clear hgo HR HLK
          go_wp2_with fail
          go_meet
          exact ⟨q, er, va, L, HS.out, HLN.out, HX.out⟩
        · have hkn' : k = n := by omega
          subst hkn'
          clear hgo HR HLK hkn
          go_wp2_with fail
          go_meet
          exact ⟨q, er, va, L, HS.out, HLN.out, HX.out⟩
  case rest =>
  obtain ⟨q1, er1, va, L, h1, h2, h3⟩ := hcut
  generalize wc = W1 at h1 ⊢
  clear wc
  have HS2 := Lib.hid h1
  have HLN := Lib.hid h2
  have HR2 := Lib.hid h3
  clear h1 h2 h3 HS1
  have HM := Lib.hid (most_any HS2.out.rd 100 (by decide))
  go_wp2_with fail
  refine HM.out.mono ?_
  rintro e w2 ⟨m, rfl, hm, q2, er2, ha0, hk0, hr0⟩
  have HS3 := Lib.hid (HS2.out.went ha0 hk0)
  have HR3 : Hid (Rel (rmost 100) bs q1 er1 m q2 er2) := Lib.hid hr0
  clear ha0 hk0 hr0 HM HS2
  go_upto_block 2 with fail
  go_cut [] (fun wx => ∃ (q er : Nat) (vd : Value) (Z : List Int), RS w wx A c bs q er va vd L Z 0 0 0 ∧ Z.length ≤ 100 ∧ (∀ z, z ∈ Z → 0 ≤ z ∧ z ≤ 4611686018427387904) ∧ Rel (rmany rint m) bs q2 er2 Z q er)
  case first =>
    go_wp2_with fail
    go_loopw [10] (fun i wr => ∃ (k q er : Nat) (vd : Value) (Z : List Int), k ≤ m ∧ i = .int .i64 (k : Int) ∧ Z.length = k ∧ Hid (RS w wr A c bs q er va vd L Z 0 0 0) ∧ Hid (∀ z, z ∈ Z → 0 ≤ z ∧ z ≤ 4611686018427387904) ∧ Hid (Rel (rmany rint k) bs q2 er2 Z q er)) (fun i _ => m + 1 - (intOf i).toNat)
    case atStart => exact ⟨0, q2, er2, _, [], Nat.zero_le _, rfl, rfl, HS3, Lib.hid (fun z hz => by cases hz), Lib.hid (rel_ret _)⟩
    case round =>
      obtain ⟨k, q, er, vd, Z, hk, rfl, hLk, HS, HZ, HR⟩ := hrel
      have HLK := Lib.hid hLk
      clear hLk
      have f2 : wr.cell? ⟨w.heap.size + 1, 2, none⟩ = some (.int .i64 (er : Int)) := HS.out.rd.box.cell 2
      by_cases hgo : k < m ∧ er = 0
      · obtain ⟨hlt, rfl⟩ := hgo
        have H1 := Lib.hid (int_any HS.out.rd)
        go_upto_region 16 with fail
        clear f2
        have hod := HS.out.drop
        obtain ⟨Ad, cd, rfl, -, -, -⟩ := own_parts hod
        have HSD : Hid (RS w wr.drew A c bs q 0 va (.slice Ad Z.length cd) L Z 0 0 0) := Lib.hid (HS.out.below (Below.refl _ _).drew)
        have H1 := Lib.hid (int_any HSD.out.rd)
        have hv : wr.drew.cell? ⟨w.heap.size + 1 + 1, 1, none⟩ = some (.slice Ad Z.length cd) := HSD.out.box.cell 1
        clear hod
        refine wp_region_last (S := fun w' => Hid (w'.cell? ⟨w.heap.size + 1 + 1, 1, none⟩ = some (.slice Ad Z.length cd))) 7 (by kernel_rfl) (Lib.hid hv) (fun hS => ?_)
        refine wpAnyX_take (i := 0) (v := ?_) rfl (by kernel_rfl) (by kernel_rfl) (by kernel_rfl) (by kernel_rfl) (fun _ _ _ h => h) (Or.inl ⟨by rfl, ?_⟩) hS ?_
        rotate_left
        · intro w hw
          go_simp
          try with_reducible rfl
        try simp only [Act.put, List.getElem_toArray, List.getElem_cons_succ, List.getElem_cons_zero, List.setIfInBounds_toArray, List.set_cons_zero, List.set_cons_succ]
        refine wpAnyX_take (i := 1) (v := ?_) rfl (by kernel_rfl) (by kernel_rfl) (by kernel_rfl) (by kernel_rfl) (fun _ _ _ h => h) (Or.inl ⟨by rfl, ?_⟩) hS ?_
        rotate_left
        · intro w hw
          have q := hw.out
          go_simp
          try with_reducible rfl
        try simp only [Act.put, List.getElem_toArray, List.getElem_cons_succ, List.getElem_cons_zero, List.setIfInBounds_toArray, List.set_cons_zero, List.set_cons_succ]
        refine wpAnyX_take (i := 2) (v := ?_) rfl (by kernel_rfl) (by kernel_rfl) (by kernel_rfl) (by kernel_rfl) (fun _ _ _ h => h) (Or.inl ⟨by rfl, ?_⟩) hS ?_
        rotate_left
        · intro w hw
          go_simp
          try with_reducible rfl
        try simp only [Act.put, List.getElem_toArray, List.getElem_cons_succ, List.getElem_cons_zero, List.setIfInBounds_toArray, List.set_cons_zero, List.set_cons_succ]
        refine wpAnyX_ready (rs := [3]) (by kernel_rfl) (by simp) ?_
        refine (AllReadyX.cons rfl (fun K hK => ?_) AllReadyX.nil)
        go_simp
        refine H1.out.mono ?_
        rintro e V1 ⟨z, rfl, lo1, hi1, hw⟩
        obtain ⟨q4, er4, ha, hkp, hr⟩ := hw
        have HS1 := Lib.hid (HSD.out.went ha hkp)
        have HR1 := Lib.hid hr
        have hv1 : V1.cell? ⟨w.heap.size + 1 + 1, 1, none⟩ = some (.slice Ad Z.length cd) := HS1.out.box.cell 1
        refine hK.out _ _ (Lib.hid hv1) (fun hS => ?_)
        clear hK K ha hkp hr hv H1
        try simp only [Act.put, List.getElem_toArray, List.getElem_cons_succ, List.getElem_cons_zero, List.setIfInBounds_toArray, List.set_cons_zero, List.set_cons_succ]
        obtain ⟨vd', VB, hrun, hc0, hz0, hsb, -⟩ := HS1.out.addNum z (by rw [HLK.out]; omega)
        have hv2 : (V1.alloc (.cells #[.int .i64 z] 3)).cell? ⟨w.heap.size + 1 + 1, 1, none⟩ = some (.slice Ad Z.length cd) := (HS1.out.box.alloc _).cell 1
        obtain ⟨M, hM⟩ : ∃ M, M = Z ++ [z] := ⟨_, rfl⟩
        rw [← hM] at hsb
        have hownb := hsb.drop
        obtain ⟨Av, cv, rfl, -, -, -⟩ := own_parts hownb
        have HM1 := Lib.hid hM
        have HRUN := Lib.hid hrun
        have HSB := Lib.hid hsb
        clear hM hownb hrun hsb
        refine wpAnyX_ready (rs := [4]) (by kernel_rfl) (by simp) ?_
        refine (AllReadyX.cons rfl (fun K hK => ?_) AllReadyX.nil)
        go_simp
        refine hK.out _ _ (Lib.hid hv2) (fun hS => ?_)
        clear hK K
        try simp only [Act.put, List.getElem_toArray, List.getElem_cons_succ, List.getElem_cons_zero, List.setIfInBounds_toArray, List.set_cons_zero, List.set_cons_succ]
        refine wpAnyX_ready (rs := [5]) (by kernel_rfl) (by simp) ?_
        refine (AllReadyX.cons rfl (fun K hK => ?_) AllReadyX.nil)
        refine held_append rfl _ _ 23 rfl rfl rfl HRUN.out ?_
        refine hK.out _ _ (Lib.hid hc0) (fun hS => ?_)
        clear hK K
        try simp only [Act.put, List.getElem_toArray, List.getElem_cons_succ, List.getElem_cons_zero, List.setIfInBounds_toArray, List.set_cons_zero, List.set_cons_succ]
        refine wpAnyX_take (i := 6) (v := ?_) rfl (by kernel_rfl) (by kernel_rfl) (by kernel_rfl) (by kernel_rfl) (fun _ _ _ h => h) (Or.inl ⟨by rfl, ?_⟩) hS ?_
        rotate_left
        · intro w hw
          go_simp
          try with_reducible rfl
        try simp only [Act.put, List.getElem_toArray, List.getElem_cons_succ, List.getElem_cons_zero, List.setIfInBounds_toArray, List.set_cons_zero, List.set_cons_succ]
        refine wpAnyX_ready (rs := [7]) (by kernel_rfl) (by simp) ?_
        refine AllReadyX.last rfl (fun K hK => ?_)
        go_simp
        refine hK.out _ _ ?_
        clear hK K hc0 hz0
        try simp only [Act.put, List.getElem_toArray, List.getElem_cons_succ, List.getElem_cons_zero, List.setIfInBounds_toArray, List.set_cons_zero, List.set_cons_succ]
        refine wpAnyX_done (by kernel_rfl) ?_ _
        go_wp2_with fail
        go_roundw
        case rel => exact ⟨k + 1, q4, er4, _, M, by omega, by go_num, by rw [HM1.out, List.length_append, HLK.out]; rfl, HSB, Lib.hid (by rw [HM1.out]; intro y hy; rcases List.mem_append.1 hy with hy | hy; exact HZ.out y hy; rw [List.mem_singleton.1 hy]; exact ⟨lo1, hi1⟩), Lib.hid (by rw [HM1.out]; exact HR.out.snoc HR1.out)⟩
        case measure => simp [intOf]; omega
      · have HX : Hid (Rel (rmany rint m) bs q2 er2 Z q er) := Lib.hid (by
          by_cases he : er = 0
          · rw [show m = k by omega]; exact HR.out
          · exact HR.out.stop he hk)
        have HLN2 : Hid (Z.length ≤ 100) := Lib.hid (by rw [HLK.out]; omega)
        by_cases hkn : k < m
        · have t1 : ((er : Int) == 0) = false := by rw [beq_eq_false_iff_ne]; omega
          clear hgo HR HLK
          go_wp2_with fail
          go_meet
          exact ⟨q, er, vd, Z, HS.out, HLN2.out, HZ.out, HX.out⟩
        · have hkn' : k = m := by omega
          subst hkn'
          clear hgo HR HLK hkn
          go_wp2_with fail
          go_meet
          exact ⟨q, er, vd, Z, HS.out, HLN2.out, HZ.out, HX.out⟩
  case rest =>
  obtain ⟨q3, er3, vd, Z, h1, h2, h4, h3⟩ := hcut
  generalize wc = W3 at h1 ⊢
  clear wc
  have HS4 := Lib.hid h1
  have HZN := Lib.hid h2
  have HZW := Lib.hid h4
  have HR4 := Lib.hid h3
  clear h1 h2 h3 h4 HS3
  have hoa := HS4.out.add.own
  obtain ⟨Aa, ca, rfl, hca, hma, hla⟩ := own_parts hoa
  have hod := HS4.out.drop
  obtain ⟨Ad, cd, rfl, hcd, hmd, hld⟩ := own_parts hod
  clear hoa hod hca hma hla hcd hmd hld
  have H5 := Lib.hid (int_any HS4.out.rd)
  go_wp2_with fail
  refine H5.out.mono ?_
  rintro e V5 ⟨z1, rfl, lo1, hi1, q5, er5, ha, hkp, hr⟩
  have HS5 := Lib.hid (HS4.out.went ha hkp)
  have HR5 := Lib.hid hr
  have p2 : V5.cell? ⟨w.heap.size + 1 + 1, 2, none⟩ = some (.int .i64 0) := HS5.out.box.cell 2
  have z2 : V5.frozen? ⟨w.heap.size + 1 + 1, 2, none⟩ = false := HS5.out.box.free 2
  clear ha hkp hr H5 HS4
  go_upto_region 18 with fail
  have HS6 : Hid (RS w (V5.setCell ⟨w.heap.size + 1 + 1, 2, none⟩ (.int .i64 z1)) A c bs q5 er5 (.slice Aa L.length ca) (.slice Ad Z.length cd) L Z z1 0 0) := Lib.hid (HS5.out.set 2 _ rfl)
  clear p2 z2 HS5
  generalize V5.setCell ⟨w.heap.size + 1 + 1, 2, none⟩ (.int .i64 z1) = V6 at *
  have H7 := Lib.hid (int_any HS6.out.rd)
  go_wp2_with fail
  refine H7.out.mono ?_
  rintro e V7 ⟨zl, rfl, lo2, hi2, q7, er7, ha, hkp, hr⟩
  have HS7 := Lib.hid (HS6.out.went ha hkp)
  have HR7 := Lib.hid hr
  have p2 : V7.cell? ⟨w.heap.size + 1 + 1, 3, none⟩ = some (.int .i64 0) := HS7.out.box.cell 3
  have z2 : V7.frozen? ⟨w.heap.size + 1 + 1, 3, none⟩ = false := HS7.out.box.free 3
  clear ha hkp hr H7 HS6
  go_upto_region 19 with fail
  have HS8 : Hid (RS w (V7.setCell ⟨w.heap.size + 1 + 1, 3, none⟩ (.int .i64 zl)) A c bs q7 er7 (.slice Aa L.length ca) (.slice Ad Z.length cd) L Z z1 zl 0) := Lib.hid (HS7.out.set 3 _ rfl)
  clear p2 z2 HS7
  generalize V7.setCell ⟨w.heap.size + 1 + 1, 3, none⟩ (.int .i64 zl) = V8 at *
  have H9 := Lib.hid (number_any HS8.out.rd)
  go_wp2_with fail
  refine H9.out.mono ?_
  rintro e V9 ⟨sq, rfl, hsq, -, q, er, ha, hkp, hr⟩
  have HS9 := Lib.hid (HS8.out.went ha hkp)
  have HR9 := Lib.hid hr
  have p2 : V9.cell? ⟨w.heap.size + 1 + 1, 4, none⟩ = some (.int .u64 ((0 : Nat) : Int)) := HS9.out.box.cell 4
  have z2 : V9.frozen? ⟨w.heap.size + 1 + 1, 4, none⟩ = false := HS9.out.box.free 4
  clear ha hkp hr H9 HS8
  go_upto_region 20 with fail
  have HS : Hid (RS w (V9.setCell ⟨w.heap.size + 1 + 1, 4, none⟩ (.int .u64 (sq : Int))) A c bs q er (.slice Aa L.length ca) (.slice Ad Z.length cd) L Z z1 zl sq) := Lib.hid (HS9.out.set 4 _ rfl)
  clear p2 z2 HS9
  generalize V9.setCell ⟨w.heap.size + 1 + 1, 4, none⟩ (.int .u64 (sq : Int)) = V at *
  have HREL : Hid (Rel redit bs 0 0 ⟨L.map D.ru, Z, z1, zl, sq⟩ q er) := Lib.hid (HR1.out.bd (HR2.out.bd (HR3.out.bd (HR4.out.bd (HR5.out.bd (HR7.out.bd (HR9.out.bd (rel_ret _))))))))
  clear HR1 HR2 HR3 HR4 HR5 HR7 HR9 hn hm
  have f2 : V.cell? ⟨w.heap.size + 1, 2, none⟩ = some (.int .i64 (er : Int)) := HS.out.rd.box.cell 2
  have f1 : V.cell? ⟨w.heap.size + 1, 1, none⟩ = some (.int .i64 (q : Int)) := HS.out.rd.box.cell 1
  have HRES := Lib.hid HS.out.res
  by_cases he : er = 0
  · subst he
    have HRE : Hid (redit bs = .ok (⟨L.map D.ru, Z, z1, zl, sq⟩, bs.drop q)) := Lib.hid (by
      rcases HREL.out with ⟨h, _⟩ | ⟨_, ⟨_, h⟩ | ⟨h, _⟩⟩
      · exact absurd rfl h
      · rw [List.drop_zero] at h; exact h
      · exact absurd rfl h)
    have hle := HS.out.rd.le
    clear HREL
    by_cases hq : q = bs.length
    · have t2 : ((q : Int) != (bs.length : Int)) = false := by rw [bne_eq_false_iff_eq, hq]
      have HDQ : Hid (bs.drop q = []) := Lib.hid (by rw [hq, List.drop_length])
      have HX := Lib.hid (ok_of HS.out.add HS.out.drop HZW.out ⟨lo1, hi1⟩ ⟨lo2, hi2⟩ hsq)
      have HG := Lib.hid (rright_any ⟨Aa, ca, L, Ad, cd, Z, z1, zl, sq⟩ V.heap.size V HX.out (Nat.le_refl _))
      have HBX := Lib.hid HS.out.box
      clear hq
      have k0 : V.cell? ⟨w.heap.size + 1 + 1, 0, none⟩ = some (.slice Aa L.length ca) := HBX.out.cell 0
      have k1 : V.cell? ⟨w.heap.size + 1 + 1, 1, none⟩ = some (.slice Ad Z.length cd) := HBX.out.cell 1
      have k2 : V.cell? ⟨w.heap.size + 1 + 1, 2, none⟩ = some (.int .i64 z1) := HBX.out.cell 2
      have k3 : V.cell? ⟨w.heap.size + 1 + 1, 3, none⟩ = some (.int .i64 zl) := HBX.out.cell 3
      have k4 : V.cell? ⟨w.heap.size + 1 + 1, 4, none⟩ = some (.int .u64 (sq : Int)) := HBX.out.cell 4
      go_wp2_with fail
      clear k0 k1 k2 k3 k4
      refine HG.out.mono ?_
      rintro e V2 ⟨rfl, hb2⟩
      have HRES2 := Lib.hid (HRES.out.below hb2 HRES.out.lt)
      have HBX2 := Lib.hid (HBX.out.below hb2 HBX.out.lt)
      have HS2 := Lib.hid (HS.out.below hb2)
      have HB2 := Lib.hid (HS.out.be.trans (hb2.mono HS.out.be.size))
      clear hb2 HRES HBX HX HG
      rcases hri : right (X.e ⟨Aa, ca, L, Ad, cd, Z, z1, zl, sq⟩)
      · have HT : Hid (readE bs = (2, noE)) := Lib.hid (by
          unfold readE
          rw [HRE.out]
          exact if_pos (.inr hri))
        clear hri
        go_wp2_with (refine wpList_store_row rfl _ _ _ rfl w.heap.size #[.slice none 0 0, .slice none 0 0, .int .i64 0, .int .i64 0, .int .u64 0] rfl rfl _ zeroEd.toArray HRES2.out (by kernel_rfl) rfl (by kernel_rfl) ?_)
        have hrz : Box (V2.setRow w.heap.size #[.slice none 0 0, .slice none 0 0, .int .i64 0, .int .i64 0, .int .u64 0]) w.heap.size 26 zeroEd := setRow_heap _ _ _ _ _ _ HRES2.out
        refine bodyPost_ret (results_box rfl Try.underlying26 (by kernel_rfl) _ rfl hrz) rfl ?_
        exact told_zero HT.out (below_setRow HB2.out (Nat.le_refl _) _)
      · have HT : Hid (readE bs = (0, X.e ⟨Aa, ca, L, Ad, cd, Z, z1, zl, sq⟩)) := Lib.hid (by
          unfold readE
          rw [HRE.out, HDQ.out]
          refine if_neg fun h => h.elim (fun h => h rfl) fun h => ?_
          have h2 : right (X.e ⟨Aa, ca, L, Ad, cd, Z, z1, zl, sq⟩) = false := h
          rw [hri] at h2; cases h2)
        clear hri
        go_wp2_with (first | (refine wpList_load_row rfl _ _ rfl (w.heap.size + 1 + 1) rfl _ #[.slice Aa L.length ca, .slice Ad Z.length cd, .int .i64 z1, .int .i64 zl, .int .u64 (sq : Int)] (0, 0) _ HBX2.out Try.underlying26 rfl (by kernel_rfl) ?_) | (refine wpList_store_row rfl _ _ _ rfl w.heap.size #[.slice Aa L.length ca, .slice Ad Z.length cd, .int .i64 z1, .int .i64 zl, .int .u64 (sq : Int)] rfl rfl _ zeroEd.toArray HRES2.out (by kernel_rfl) rfl (by kernel_rfl) ?_))
        have hrz : Box (V2.setRow w.heap.size #[.slice Aa L.length ca, .slice Ad Z.length cd, .int .i64 z1, .int .i64 zl, .int .u64 (sq : Int)]) w.heap.size 26 [.slice Aa L.length ca, .slice Ad Z.length cd, .int .i64 z1, .int .i64 zl, .int .u64 (sq : Int)] := setRow_heap _ _ _ _ _ _ HRES2.out
        refine bodyPost_ret (results_box rfl Try.underlying26 (by kernel_rfl) _ rfl hrz) rfl ?_
        rw [HT.out]
        have hk := keep_setRow V2 w.heap.size #[.slice Aa L.length ca, .slice Ad Z.length cd, .int .i64 z1, .int .i64 zl, .int .u64 (sq : Int)]
        exact ⟨⟨Aa, ca, L, Ad, cd, Z, z1, zl, sq⟩, rfl, rfl, ok_of (HS2.out.add.low hk fun k hk => by omega) (own_kept HS2.out.drop hk fun k hv hs => by have := (HS2.out.drop.lt k hv).1; omega) HZW.out ⟨lo1, hi1⟩ ⟨lo2, hi2⟩ hsq, below_setRow HB2.out (Nat.le_refl _) _⟩
    · have t2 : ((q : Int) != (bs.length : Int)) = true := by rw [bne_iff_ne]; omega
      have HT : Hid (readE bs = (2, noE)) := Lib.hid (by
        unfold readE
        rw [HRE.out]
        refine if_pos (.inl fun h => hq ?_)
        have := congrArg List.length h
        rw [List.length_drop, List.length_nil] at this
        omega)
      clear hq
      go_wp2_with (refine wpList_store_row rfl _ _ _ rfl w.heap.size #[.slice none 0 0, .slice none 0 0, .int .i64 0, .int .i64 0, .int .u64 0] rfl rfl _ zeroEd.toArray HRES.out (by kernel_rfl) rfl (by kernel_rfl) ?_)
      have hrz : Box (V.setRow w.heap.size #[.slice none 0 0, .slice none 0 0, .int .i64 0, .int .i64 0, .int .u64 0]) w.heap.size 26 zeroEd := setRow_heap _ _ _ _ _ _ HRES.out
      refine bodyPost_ret (results_box rfl Try.underlying26 (by kernel_rfl) _ rfl hrz) rfl ?_
      exact told_zero HT.out (below_setRow HS.out.be (Nat.le_refl _) _)
  · have t1 : ((er : Int) != 0) = true := by rw [bne_iff_ne]; omega
    have HT : Hid (readE bs = (er, noE)) := Lib.hid (by
      rcases HREL.out with ⟨h, _⟩ | ⟨_, ⟨h, _⟩ | ⟨_, h⟩⟩
      · exact absurd rfl h
      · exact absurd h he
      · rw [List.drop_zero] at h
        unfold readE
        rw [h])
    clear he
    go_upto_region 21 with fail
    have HRD : Box V.drew w.heap.size 26 zeroEd := HRES.out
    have hne : w.heap.size + 1 ≠ w.heap.size := by omega
    refine wp_region_held_drew (S := fun w' => Hid (w'.cell? ⟨w.heap.size + 1, 2, none⟩ = some (.int .i64 (er : Int)))) (by kernel_rfl) (Lib.hid f2) (fun hS => ?_)
    refine wpAnyH_take (i := 0) (v := ?_) rfl (by kernel_rfl) (by kernel_rfl) (by kernel_rfl) (fun _ _ _ h => h) (Or.inl ⟨by rfl, ?_⟩) hS ?_
    rotate_left
    · intro w hw
      go_simp
      try with_reducible rfl
    try simp only [Act.put, List.getElem_toArray, List.getElem_cons_succ, List.getElem_cons_zero, List.setIfInBounds_toArray, List.set_cons_zero, List.set_cons_succ]
    refine wpAnyH_take (i := 1) (v := ?_) rfl (by kernel_rfl) (by kernel_rfl) (by kernel_rfl) (fun _ _ _ h => h) (Or.inl ⟨by rfl, ?_⟩) hS ?_
    rotate_left
    · intro w hw
      go_simp
      try with_reducible rfl
    try simp only [Act.put, List.getElem_toArray, List.getElem_cons_succ, List.getElem_cons_zero, List.setIfInBounds_toArray, List.set_cons_zero, List.set_cons_succ]
    refine wpAnyH_take (i := 2) (v := ?_) rfl (by kernel_rfl) (by kernel_rfl) (by kernel_rfl) (fun _ _ _ h => h) (Or.inl ⟨by rfl, ?_⟩) hS ?_
    rotate_left
    · intro w hw
      go_simp
      try with_reducible rfl
    try simp only [Act.put, List.getElem_toArray, List.getElem_cons_succ, List.getElem_cons_zero, List.setIfInBounds_toArray, List.set_cons_zero, List.set_cons_succ]
    refine wpAnyH_take (i := 3) (v := ?_) rfl (by kernel_rfl) (by kernel_rfl) (by kernel_rfl) (fun _ _ _ h => h) (Or.inl ⟨by rfl, ?_⟩) hS ?_
    rotate_left
    · intro w hw
      go_simp
      try with_reducible rfl
    try simp only [Act.put, List.getElem_toArray, List.getElem_cons_succ, List.getElem_cons_zero, List.setIfInBounds_toArray, List.set_cons_zero, List.set_cons_succ]
    refine wpAnyH_take (i := 4) (v := ?_) rfl (by kernel_rfl) (by kernel_rfl) (by kernel_rfl) (fun _ _ _ h => h) (Or.inl ⟨by rfl, ?_⟩) hS ?_
    rotate_left
    · intro w hw
      have q := hw.out
      go_simp
      try with_reducible rfl
    try simp only [Act.put, List.getElem_toArray, List.getElem_cons_succ, List.getElem_cons_zero, List.setIfInBounds_toArray, List.set_cons_zero, List.set_cons_succ]
    refine wpAnyH_ready (rs := [5]) (by kernel_rfl) (by simp) ?_
    refine (AllReadyH.cons rfl (fun K hK => ?_) AllReadyH.nil)
    refine held_store rfl _ _ _ rfl w.heap.size #[.slice none 0 0, .slice none 0 0, .int .i64 0, .int .i64 0, .int .u64 0] rfl rfl _ zeroEd.toArray HRD (by kernel_rfl) rfl (by kernel_rfl) ?_
    refine hK.out _ _ (Lib.hid ((cell_setRow_other _ _ _ _ hne).trans f2)) (fun hS => ?_)
    clear hK K
    try simp only [Act.put, List.getElem_toArray, List.getElem_cons_succ, List.getElem_cons_zero, List.setIfInBounds_toArray, List.set_cons_zero, List.set_cons_succ]
    refine wpAnyH_take (i := 6) (v := ?_) rfl (by kernel_rfl) (by kernel_rfl) (by kernel_rfl) (fun _ _ _ h => h) (Or.inl ⟨by rfl, ?_⟩) hS ?_
    rotate_left
    · intro w hw
      go_simp
      try with_reducible rfl
    try simp only [Act.put, List.getElem_toArray, List.getElem_cons_succ, List.getElem_cons_zero, List.setIfInBounds_toArray, List.set_cons_zero, List.set_cons_succ]
    refine wpAnyH_done (by kernel_rfl) ?_ _
    go_wp2_with fail
    have hrz : Box (V.drew.setRow w.heap.size #[.slice none 0 0, .slice none 0 0, .int .i64 0, .int .i64 0, .int .u64 0]) w.heap.size 26 zeroEd := setRow_heap _ _ _ _ _ _ HRD
    refine bodyPost_ret (results_box rfl Try.underlying26 (by kernel_rfl) _ rfl hrz) rfl ?_
    exact told_zero HT.out (below_setRow HS.out.be.drew (Nat.le_refl _) _)
end Go.Proofs.Ythhmjjmjicmhdaa.Ed
