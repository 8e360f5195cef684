/- Package version's own functions Live and Apply, told for every input, with what their walks need. -/
import Derived.Test.YthhmjjmjicmhdaaVpa
import Derived.Test.YthhmjjmjicmhdaaVmm
import Derived.Test.YthhmjjmjicmhdaaVap
import Derived.Lib.MinMax
import Derived.Test.YthhmjjmjicmhdaaLast
/- Package version: Live. -/
namespace Go.Proofs.Ythhmjjmjicmhdaa.Ve
set_option linter.unusedVariables false
set_option linter.unusedSimpArgs false
open Go.RowKit Lift Ik Ed
theorem compact_up {S : List Int} (hs : S.Pairwise (· ≤ ·)) : ∀ m, m ≤ S.length → Asc (Lib.compactUpTo S.toArray m) ∧ ∀ z, z ∈ Lib.compactUpTo S.toArray m ↔ ∃ j, j < m ∧ S.toArray[j]! = z
  | 0, _ => ⟨List.Pairwise.nil, fun z => by simp [Lib.compactUpTo]⟩
  | m + 1, hm => by
    obtain ⟨h1, h2⟩ := compact_up hs m (by omega)
    have hle : ∀ i j, i ≤ j → j < S.length → S.toArray[i]! ≤ S.toArray[j]! := fun i j hij hj => by
      rw [getElem!_pos S.toArray i (by simp; omega), getElem!_pos S.toArray j (by simpa using hj)]
      rcases Nat.lt_or_ge i j with h3 | h3
      · exact List.pairwise_iff_getElem.1 hs i j (by omega) hj h3
      · obtain rfl : i = j := by omega
        exact Int.le_refl _
    rw [Lib.compactUpTo_succ]
    cases hk : Lib.keeps S.toArray m with
    | true =>
      rw [if_pos rfl]
      refine ⟨List.pairwise_append.2 ⟨h1, List.pairwise_singleton _ _, fun a ha b hb => ?_⟩, fun z => ?_⟩
      · obtain ⟨j, hj, rfl⟩ := (h2 a).1 ha
        have e : b = S.toArray[m]! := by simpa using hb
        subst e
        unfold Lib.keeps at hk
        rw [decide_eq_true_eq] at hk
        rcases hk with hk | hk
        · omega
        · have a1 := hle j (m - 1) (by omega) (by omega)
          have a2 := hle (m - 1) m (by omega) (by omega)
          omega
      · rw [List.mem_append, h2]
        constructor
        · rintro (⟨j, hj, rfl⟩ | h)
          · exact ⟨j, by omega, rfl⟩
          · exact ⟨m, by omega, (by simpa using h : z = S.toArray[m]!).symm⟩
        · rintro ⟨j, hj, rfl⟩
          rcases Nat.lt_or_ge j m with h | h
          · exact .inl ⟨j, h, rfl⟩
          · obtain rfl : j = m := by omega
            exact .inr (by simp)
    | false =>
      rw [if_neg (by simp), List.append_nil]
      refine ⟨h1, fun z => ?_⟩
      rw [h2]
      unfold Lib.keeps at hk
      rw [decide_eq_false_iff_not] at hk
      have hm0 : m ≠ 0 := fun h => hk (.inl h)
      have he : S.toArray[m]! = S.toArray[m - 1]! := by
        by_cases h : S.toArray[m]! = S.toArray[m - 1]!
        · exact h
        · exact absurd (.inr h) hk
      constructor
      · rintro ⟨j, hj, rfl⟩
        exact ⟨j, by omega, rfl⟩
      · rintro ⟨j, hj, rfl⟩
        rcases Nat.lt_or_ge j m with h | h
        · exact ⟨j, h, rfl⟩
        · obtain rfl : j = m := by omega
          exact ⟨j - 1, by omega, he.symm⟩
/-- Sorted, and each once: the document's list. -/
theorem compact_live (v : V) : Lib.compact (srt (fileL v)) = liveV v := by
  obtain ⟨h1, h2⟩ := compact_up (srt_up (fileL v)) (srt (fileL v)).length (Nat.le_refl _)
  refine liveV_iff h1 fun z => ?_
  show z ∈ Lib.compactUpTo (srt (fileL v)).toArray (srt (fileL v)).length ↔ _
  rw [h2, ← (srt_perm (fileL v)).mem_iff]
  constructor
  · rintro ⟨j, hj, rfl⟩
    rw [getElem!_pos _ j (by simpa using hj)]
    simp
  · intro h
    obtain ⟨j, hj, rfl⟩ := List.mem_iff_getElem.1 h
    exact ⟨j, hj, by rw [getElem!_pos _ j (by simpa using hj)]; simp⟩
/-- slices.Compact at a slice of the call's own. -/
theorem zcompact_own (v : Value) (zs : List Int) (base : Nat) (w : World) (h : w.ownsRow base 3 1 v zs.length (zs.map zi)) (hm : zs.length ≤ 1000000) :
    Calls Try.prog 67 #[v] w fun e w' => ∃ A c, e = .returned (.slice A (Lib.compact zs).length c) ∧ w'.ownsRow base 3 1 (.slice A (Lib.compact zs).length c) (Lib.compact zs).length ((Lib.compact zs).map zi) ∧ Below base w w' := by
  by_cases hv : v = .slice none 0 0
  · subst hv
    have h0 : zs = [] := by
      rcases h.2 with ⟨_, h0⟩ | ⟨g, cap, cur, hv, _⟩
      · exact List.eq_nil_of_length_eq_zero h0
      · cases hv
    subst h0
    refine (AnyG.slices_Compact_int_empty Try.icompD none 0 w).mono ?_
    rintro e w' ⟨rfl, rfl⟩
    exact ⟨none, 0, rfl, by simpa [Lib.compact, Lib.compactUpTo] using h, Below.refl _ _⟩
  · obtain ⟨g, cap, rfl, hb, hlt, hn, hcm, _, hH⟩ := Lib.holds_of_ownsRow h hv
    refine (AnyG.slices_Compact_int Try.icompD g 0 cap zs w hH (by omega) hn).mono ?_
    rintro e w' ⟨rfl, q, rfl⟩
    have hle := compact_len zs
    refine ⟨_, _, rfl, ?_, Lib.below_putRow (Below.refl _ _) hb⟩
    have h1 := Lib.ownsRow_putRow (q := q) (k := (Lib.compact zs).length) (ys := Lib.compact zs ++ List.replicate (zs.length - (Lib.compact zs).length) 0) h (by simp; omega) hle
    rw [List.take_left'] at h1
    · exact h1
    · rfl
set_option maxRecDepth 100000 in
set_option maxHeartbeats 3200000 in
theorem vlive_any (y : Y) (w : World) (hy : y.Ok w w.heap.size) (hfew : y.runs.length ≤ 900) :
    Calls Try.prog 31 #[y.v] w fun e w' => ∃ A c, e = .returned (.slice A (liveV y.t).length c) ∧ w'.ownsRow w.heap.size 3 1 (.slice A (liveV y.t).length c) (liveV y.t).length ((liveV y.t).map vi) ∧ Below w.heap.size w w' := by
  have hb0 := Joins.below_alloc1 w y.box
  have HX0 : Hid (Box (w.alloc y.box) w.heap.size 44 y.cells) := Lib.hid (Box.new w 44 y.cells)
  have HY0 := Lib.hid (hy.below hb0)
  have HB0 := Lib.hid hb0
  have HFEW := Lib.hid hfew
  have HFL : Hid (fileL y.t = y.runs.map (·.file) ++ (if y.log = 0 then [] else [y.log])) := Lib.hid (by
    unfold fileL Y.t
    simp only [List.map_map]
    rfl)
  have hlv := compact_live y.t
  obtain ⟨O, hO⟩ : ∃ O, O = liveV y.t := ⟨_, rfl⟩
  rw [← hO] at hlv ⊢
  have HLV := Lib.hid hlv
  clear hy hb0 hfew hlv hO
  go_enter Try.func31, Try.ntmps31
  go_upto_region 1 with fail
  have HGL : Hid (w.heap.size < (w.alloc y.box).heap.size) := Lib.hid HX0.out.lt
  generalize w.alloc (.cells #[.slice y.a y.runs.length y.c, .int .i64 y.next, .int .i64 y.log, .int .u64 (y.seq : Int)] 44) = w0 at *
  obtain ⟨g, hg⟩ : ∃ g, g = w.heap.size := ⟨_, rfl⟩
  have HGG := Lib.hid hg
  rw [← hg] at HX0 HGL ⊢
  clear hg
  obtain ⟨q0, q1, q2, q3⟩ := Ve.look HX0.out
  go_wp2_with fail
  refine (vlist_any y.a y.c w.heap.size y.runs w0 HY0.out.runs (by have := HFEW.out; omega) HB0.out.size).mono ?_
  rintro e w1 ⟨v, rfl, ho, hb1⟩
  have HX1 := Lib.hid (HX0.out.below hb1 HGL.out)
  have HB1 := Lib.hid (HB0.out.trans (hb1.mono HB0.out.size))
  have HO1 := Lib.hid (own_lower ho HB0.out.size)
  have HL1 : Hid ((y.runs.map (·.file)).length ≤ 900) := Lib.hid (by rw [List.length_map]; exact HFEW.out)
  clear q0 q1 q2 q3 hb1 ho
  obtain ⟨q0, q1, q2, q3⟩ := Ve.look HX1.out
  obtain ⟨Z, hZ⟩ : ∃ Z, Z = y.runs.map (·.file) := ⟨_, rfl⟩
  rw [← hZ] at HO1 HL1 HFL
  clear hZ HX0 HGL
  by_cases h0 : y.log = 0
  · have t0 : (y.log != 0) = false := by rw [h0]; rfl
    have HF : Hid (Z = fileL y.t) := Lib.hid (by rw [HFL.out, if_pos h0, List.append_nil])
    have HO2 := HO1
    have HB2 := HB1
    have HL2 : Hid (Z.length ≤ 1000) := Lib.hid (by have := HL1.out; omega)
    clear h0
    go_wp2_with fail
    refine (zsort_any _ Z w.heap.size _ HO2.out (by have := HL2.out; omega)).mono ?_
    rintro e w3 ⟨rfl, ho, hb3⟩
    have HB3 := Lib.hid (HB2.out.trans hb3)
    have HC := Lib.hid (zcompact_own _ (srt Z) w.heap.size w3 ho (by have := HL2.out; rw [srt_len]; omega))
    rw [HF.out, HLV.out] at HC
    clear ho hb3 HLV HFL HF
    go_wp2_with fail
    refine HC.out.mono ?_
    rintro e w4 ⟨A4, c4, rfl, ho4, hb4⟩
    have HO4 := Lib.hid ho4
    have HB4 := Lib.hid (HB3.out.trans hb4)
    clear ho4 hb4 HC
    go_wp2_with fail
    go_ret
    exact ⟨A4, c4, rfl, HO4.out, HB4.out⟩
  · have t0 : (y.log != 0) = true := by simpa using h0
    obtain ⟨v2, w2, hr2, ho2, hon⟩ := more_num y.log HO1.out (by have := HL1.out; omega) HB1.out.size
    obtain ⟨F, hF⟩ : ∃ F, F = Z ++ [y.log] := ⟨_, rfl⟩
    have HF : Hid (F = fileL y.t) := Lib.hid (by rw [HFL.out, if_neg h0, hF])
    have HL2 : Hid (F.length ≤ 1000) := Lib.hid (by have := HL1.out; rw [hF, List.length_append]; simp; omega)
    rw [← hF] at ho2
    have HR2 := Lib.hid hr2
    have HO2 : Hid (w2.ownsRow w.heap.size 3 1 v2 F.length (F.map zi)) := Lib.hid ho2
    have HB2 : Hid (Below w.heap.size w w2) := Lib.hid (HB1.out.trans (hon.below HO1.out HB1.out.size))
    clear h0 hr2 ho2 hon hF
    go_wp2_with (at_builtin; refine wpList_append_run rfl _ _ 23 rfl rfl rfl HR2.out ?_)
    refine (zsort_any _ F w.heap.size _ HO2.out (by have := HL2.out; omega)).mono ?_
    rintro e w3 ⟨rfl, ho, hb3⟩
    have HB3 := Lib.hid (HB2.out.trans hb3)
    have HC := Lib.hid (zcompact_own _ (srt F) w.heap.size w3 ho (by have := HL2.out; rw [srt_len]; omega))
    rw [HF.out, HLV.out] at HC
    clear ho hb3 HLV HFL HF
    go_wp2_with fail
    refine HC.out.mono ?_
    rintro e w4 ⟨A4, c4, rfl, ho4, hb4⟩
    have HO4 := Lib.hid ho4
    have HB4 := Lib.hid (HB3.out.trans hb4)
    clear ho4 hb4 HC
    go_wp2_with fail
    go_ret
    exact ⟨A4, c4, rfl, HO4.out, HB4.out⟩
end Go.Proofs.Ythhmjjmjicmhdaa.Ve

/- Package version: Apply, up to the new version: what it keeps, what its regions rest on. -/
namespace Go.Proofs.Ythhmjjmjicmhdaa.Ve
set_option linter.unusedVariables false
set_option linter.unusedSimpArgs false
open Go.RowKit Lift Ik Ed
/-- What Apply has: version and edit in their boxes, the result. -/
structure AP (w wr : World) (y : Y) (x : X) : Prop where
  bv : Box wr w.heap.size 44 y.cells
  bx : Box wr (w.heap.size + 1) 26 [.slice x.addA x.add.length x.addC, .slice x.dropA x.drop.length x.dropC, .int .i64 x.next, .int .i64 x.log, .int .u64 (x.seq : Int)]
  res : Box wr (w.heap.size + 1 + 1) 44 zeroV
  oy : y.Ok wr w.heap.size
  ox : x.Ok wr w.heap.size
  be : Below w.heap.size w wr
  size : w.heap.size + 3 ≤ wr.heap.size
theorem AP.keep {S : Nat → Prop} {w wr w' : World} {y : Y} {x : X} (h : AP w wr y x) (hk : Keep S wr w') (hS : ∀ k, S k → w.heap.size + 3 ≤ k) : AP w w' y x := by
  have hb : Below w.heap.size wr w' := hk.below h.be.size fun k hs => by have := hS k hs; omega
  exact ⟨h.bv.keep hk fun hs => by have := hS _ hs; omega, h.bx.keep hk fun hs => by have := hS _ hs; omega, h.res.keep hk fun hs => by have := hS _ hs; omega, h.oy.below hb, h.ox.below hb, h.be.trans hb, Nat.le_trans h.size hk.size⟩
theorem AP.below {w wr w' : World} {y : Y} {x : X} (h : AP w wr y x) (hb : Below wr.heap.size wr w') : AP w w' y x := h.keep (S := fun _ => False) (below_keep hb) fun _ hf => hf.elim
theorem AP.low {B : Nat} {w wr w' : World} {y : Y} {x : X} (h : AP w wr y x) (hb : Below B wr w') (hB : w.heap.size + 3 ≤ B) : AP w w' y x :=
  h.keep (S := fun k => B ≤ k) ⟨hb.os, hb.tape, hb.output, hb.size, fun k _ hn => hb.block k (by omega)⟩ fun k hk => Nat.le_trans hB hk
theorem AP.start {w : World} {y : Y} {x : X} (hy : y.Ok w w.heap.size) (hx : x.Ok w w.heap.size) :
    AP w (((w.alloc y.box).alloc (.cells #[.slice x.addA x.add.length x.addC, .slice x.dropA x.drop.length x.dropC, .int .i64 x.next, .int .i64 x.log, .int .u64 (x.seq : Int)] 26)).alloc (.cells zeroV.toArray 44)) y x := by
  have hb0 : Below w.heap.size w (((w.alloc y.box).alloc (.cells #[.slice x.addA x.add.length x.addC, .slice x.dropA x.drop.length x.dropC, .int .i64 x.next, .int .i64 x.log, .int .u64 (x.seq : Int)] 26)).alloc (.cells zeroV.toArray 44)) := Joins.below_alloc3 _ _ _ _
  obtain ⟨W1, hW1⟩ : ∃ W, W = w.alloc y.box := ⟨_, rfl⟩
  obtain ⟨W2, hW2⟩ : ∃ W, W = W1.alloc (.cells #[.slice x.addA x.add.length x.addC, .slice x.dropA x.drop.length x.dropC, .int .i64 x.next, .int .i64 x.log, .int .u64 (x.seq : Int)] 26) := ⟨_, rfl⟩
  rw [← hW1, ← hW2] at hb0 ⊢
  have s1 : W1.heap.size = w.heap.size + 1 := by rw [hW1]; simp
  have s2 : W2.heap.size = w.heap.size + 1 + 1 := by rw [hW2]; simp [s1]
  have a1 : Box W1 w.heap.size 44 y.cells := by rw [hW1]; exact Box.new w _ _
  have a2 : Box W2 (w.heap.size + 1) 26 [.slice x.addA x.add.length x.addC, .slice x.dropA x.drop.length x.dropC, .int .i64 x.next, .int .i64 x.log, .int .u64 (x.seq : Int)] := by rw [hW2, ← s1]; exact Box.new W1 _ _
  have b1 : Box W2 w.heap.size 44 y.cells := by rw [hW2]; exact a1.alloc _
  exact ⟨b1.alloc _, a2.alloc _, by rw [← s2]; exact Box.new W2 _ zeroV, hy.below hb0, hx.below hb0, hb0, by simp [s2]⟩
theorem told_none {w wr : World} {y : Y} {x : X} {er : Nat} {r : Nat × V} (h : AP w wr y x) (hr : r = (er, noV)) (cs : Array Value) : Told w r (.returned (.tuple #[ZV.v, .int .i64 (er : Int)])) (wr.setRow (w.heap.size + 1 + 1) cs) := by
  subst hr
  exact ⟨ZV, rfl, rfl, ZV_ok _ _, h.be.trans ((keep_setRow wr (w.heap.size + 1 + 1) cs).below h.be.size fun k hk => by omega)⟩
theorem edit_cells {w wr : World} {y : Y} {x : X} (h : AP w wr y x) : wr.cell? ⟨w.heap.size + 1, 0, none⟩ = some (.slice x.addA x.add.length x.addC) ∧ wr.cell? ⟨w.heap.size + 1, 1, none⟩ = some (.slice x.dropA x.drop.length x.dropC) ∧ wr.cell? ⟨w.heap.size + 1, 2, none⟩ = some (.int .i64 x.next) ∧
    wr.cell? ⟨w.heap.size + 1, 3, none⟩ = some (.int .i64 x.log) ∧ wr.cell? ⟨w.heap.size + 1, 4, none⟩ = some (.int .u64 (x.seq : Int)) := ⟨h.bx.cell 0, h.bx.cell 1, h.bx.cell 2, h.bx.cell 3, h.bx.cell 4⟩
/-- Runs behind a place. -/
theorem Runs.cut {w : World} {B c : Nat} {A : Option Addr} {L : List D} (h : Runs w B A c L) (k : Nat) (hk : k ≤ L.length) : Runs w B (A.map fun a => a.add (k * 6)) (c - k) (L.drop k) := by
  have hl := h.len
  refine ⟨?_, by rw [List.length_drop]; omega, Nat.le_trans (Nat.sub_le _ _) h.cap, fun d hd => h.ok d (List.mem_of_mem_drop hd)⟩
  rcases h.lies with h0 | ⟨ad, ha, hb, hc⟩
  · left
    have := congrArg List.length h0
    rw [cellsL_length] at this
    have hL : L = [] := List.eq_nil_of_length_eq_zero (by simp at this; omega)
    rw [hL]
    simp [cellsL]
  · right
    refine ⟨ad.add (k * 6), by rw [ha]; rfl, by rw [add_block]; exact hb, fun j u hj => ?_⟩
    rw [add_add]
    refine hc _ u ?_
    have e : cellsL L = cellsL (L.take k) ++ cellsL (L.drop k) := by rw [← cellsL_append, List.take_append_drop]
    have l1 : (cellsL (L.take k)).length = k * 6 := by rw [cellsL_length, List.length_take]; omega
    rw [e, List.getElem?_append_right (by omega), l1, Nat.add_sub_cancel_left, hj]
theorem Runs.none_cut {w : World} {B c : Nat} {A : Option Addr} {L : List D} {k : Nat} (h : Runs w B A c L) (hk : L.length ≤ k) : Runs w B A 0 (L.drop k) := by
  rw [List.drop_eq_nil_of_le hk]
  exact ⟨.inl rfl, Nat.le_refl _, by decide, fun d hd => by cases hd⟩
/-- What is kept, of versions and edits as they lie. -/
theorem kept_map (y : Y) (x : X) : (y.runs.filter fun d => !decide (d.file ∈ x.drop)).map D.ru = keptR y.t x.e := by
  unfold keptR Y.t
  rw [List.filter_map]
  rfl
theorem gone_find (y : Y) (x : X) : max 0 (pI (fun d => decide (d.file ∈ x.drop)) y.runs) = (fromR y.t x.e : Int) := by
  have e : y.t.runs.findIdx? (gone x.e) = y.runs.findIdx? fun d => decide (d.file ∈ x.drop) := by
    show (y.runs.map D.ru).findIdx? _ = _
    rw [List.findIdx?_map]
    rfl
  unfold pI fromR
  rw [e]
  cases y.runs.findIdx? (fun d => decide (d.file ∈ x.drop)) with
  | none => rfl
  | some i =>
    show max 0 (i : Int) = (i : Int)
    omega
theorem Runs.of_own {w : World} {base : Nat} {A : Option Addr} {c : Nat} {L : List D} (h : w.ownsRow base 41 6 (.slice A L.length c) L.length (cellsL L)) (hk : ∀ d, d ∈ L → d.Ok w (· < w.heap.size)) : Runs w w.heap.size A c L := by
  obtain ⟨A0, c0, e, hc, hm, hl⟩ := own_parts h
  injection e with e1 _ e3
  subst e1; subst e3
  exact ⟨hl, hc, hm, hk⟩
end Go.Proofs.Ythhmjjmjicmhdaa.Ve

/- A region of open order told by its states; what lies in memory while Apply's new version is built. -/
namespace Go.Proofs.Ythhmjjmjicmhdaa.Ve
set_option linter.unusedVariables false
set_option linter.unusedSimpArgs false
open Go.RowKit Lift Ik Ed
section
variable {P : Program} {ops : Array Oper} {Q : Exit → Act → World → Prop} {md : Region.Mode} {S : World → Prop} {x : Nat}
/-- Give the act a name. -/
theorem with_act {fuel : Nat} {listed : Array Bool} {a : Act} {w : World} (h : ∀ a0, a0 = a → wpAnyX P md ops Q S x fuel listed a0 w) : wpAnyX P md ops Q S x fuel listed a w := h a rfl
/-- Orders that meet again: an invariant for each set of operations that have come up. -/
theorem wpAnyX_states {σ : Type} (lst : σ → Array Bool) (rl : σ → List Nat) (V : σ → Prop) (I : σ → Act → World → Prop) (fin : σ → Bool) (rank : σ → Nat) (k : Nat)
    (hr : ∀ s, V s → Region.ready md ops (lst s) = rl s) (hne : ∀ s, V s → fin s = false → rl s ≠ []) (hrank : ∀ s, V s → rank s = 0 → fin s = true)
    (hstep : ∀ s, V s → fin s = false → ∀ i, i ∈ rl s → ∀ a w, I s a w → wpOp P ops Q i (fun a' w' => S w' ∧ ∃ s', V s' ∧ lst s' = (lst s).setIfInBounds i true ∧ rank s = rank s' + 1 ∧ I s' a' w') a w)
    (hfin : ∀ s, V s → fin s = true → ∀ fuel a w, I s a w → wpAnyX P md ops Q S x (fuel + k) (lst s) a w) :
    ∀ (n fuel : Nat) (s : σ) (a : Act) (w : World), rank s = n → V s → n + k ≤ fuel → I s a w → wpAnyX P md ops Q S x fuel (lst s) a w
  | n, fuel, s, a, w, hn, hV, hf, hI => by
    cases hfs : fin s with
    | true =>
      obtain ⟨f, rfl⟩ : ∃ f, fuel = f + k := ⟨fuel - k, by omega⟩
      exact hfin s hV hfs f a w hI
    | false =>
      cases n with
      | zero =>
        rw [hrank s hV hn] at hfs
        cases hfs
      | succ n =>
        obtain ⟨f, rfl⟩ : ∃ f, fuel = f + 1 := ⟨fuel - 1, by omega⟩
        refine ⟨fun h0 => absurd ((hr s hV).symm.trans h0) (hne s hV hfs), fun i hi => ?_⟩
        rw [hr s hV] at hi
        refine wpOp_mono (fun a' w' h => ?_) (hstep s hV hfs i hi a w hI)
        obtain ⟨hS, s', hV', hl, hrk, hI'⟩ := h
        refine ⟨.inr hS, ?_⟩
        rw [← hl]
        exact wpAnyX_states lst rl V I fin rank k hr hne hrank hstep hfin n f s' a' w' (by omega) hV' (by omega) hI'
/-- One operation of such a region, for the walk. -/
theorem state_step {i : Nat} {o : Oper} {K : Act → World → Prop} {a : Act} {w : World} (ho : ops[i]? = some o)
    (h : ∀ K' : Act → World → Prop, Shut (∀ a w, K a w → K' a w) → if Region.wanted o (yielded ops a.tmps) = true then Oper.wp P o a w K' Q else K' (a.put o.dst undef) w) : wpOp P ops Q i K a w :=
  wpOp_step ho h
end
section
variable {P : Program} {ops : Array Oper} {Q : Exit → Act → World → Prop} {md : Region.Mode} {S : World → Prop} {x : Nat}
theorem wpAnyX_lst {fuel : Nat} {l1 l2 : Array Bool} {a : Act} {w : World} (h : l1 = l2) (h2 : wpAnyX P md ops Q S x fuel l2 a w) : wpAnyX P md ops Q S x fuel l1 a w := h ▸ h2
theorem vheld_store {w : World} {o : Oper} {a : Act} {K' : Act → World → Prop} (hw : Region.wanted o (yielded ops a.tmps) = true) (ty : TypeId) (p q : Operand)
    (ho : o.op = .store ty p q) (g : Nat) (cells : Array Value) (hx : a.eval p = .pointer (some ⟨g, 0, none⟩)) (hy : a.eval q = .agg cells) (t : TypeId) (old : Array Value) (hg : w.heap[g]? = some (.cells old t (0, 0)))
    (hi : (P.info? ty).map (·.size) = some cells.size) (hold : old.size = cells.size) (h1 : cells.all (·.oneCell') = true) (h : K' (a.put o.dst undef) (w.setRow g cells)) :
    if Region.wanted o (yielded ops a.tmps) = true then Oper.wp P o a w K' Q else K' (a.put o.dst undef) w := by
  rw [if_pos hw]
  exact wp_store_row ty p q ho g cells hx hy t old hg hi hold h1 h
end
/-- What the loads of the region rest on. -/
def Sv (w : World) (y : Y) (x : X) (w' : World) : Prop := Box w' w.heap.size 44 y.cells ∧ Box w' (w.heap.size + 1) 26 [.slice x.addA x.add.length x.addC, .slice x.dropA x.drop.length x.dropC, .int .i64 x.next, .int .i64 x.log, .int .u64 (x.seq : Int)]
theorem sv_cells {w w' : World} {y : Y} {x : X} (h : Sv w y x w') : w'.cell? ⟨w.heap.size + 1, 0, none⟩ = some (.slice x.addA x.add.length x.addC) ∧ w'.cell? ⟨w.heap.size + 1, 2, none⟩ = some (.int .i64 x.next) ∧ w'.cell? ⟨w.heap.size + 1, 3, none⟩ = some (.int .i64 x.log) ∧ w'.cell? ⟨w.heap.size + 1, 4, none⟩ = some (.int .u64 (x.seq : Int)) ∧
    w'.cell? ⟨w.heap.size, 1, none⟩ = some (.int .i64 y.next) ∧ w'.cell? ⟨w.heap.size, 2, none⟩ = some (.int .i64 y.log) ∧ w'.cell? ⟨w.heap.size, 3, none⟩ = some (.int .u64 (y.seq : Int)) :=
  ⟨h.2.cell 0, h.2.cell 2, h.2.cell 3, h.2.cell 4, h.1.cell 1, h.1.cell 2, h.1.cell 3⟩
theorem okR_small {r : Ru} (h : okR r = true) : r.first.length ≤ 100000 ∧ r.last.length ≤ 100000 := by
  unfold okR at h
  simp only [Bool.and_eq_true, decide_eq_true_eq] at h
  omega
/-- How far the building of the new version is: the calls, the rows and the box that it takes. -/
structure Sx where
  p : Nat
  a : Bool
  b : Bool
  c : Bool
  d : Bool
def Sx.ok (s : Sx) : Prop := s.p ≤ 6 ∧ (3 ≤ s.p → s.a = true) ∧ (4 ≤ s.p → s.b = true) ∧ (5 ≤ s.p → s.c = true)
theorem Sx.mk_ok {p : Nat} {a b c d : Bool} (h1 : p ≤ 6) (h2 : 3 ≤ p → a = true) (h3 : 4 ≤ p → b = true) (h4 : 5 ≤ p → c = true) : Sx.ok ⟨p, a, b, c, d⟩ := ⟨h1, h2, h3, h4⟩
def Sx.lst (s : Sx) : Array Bool := #[true, true, true, true, decide (1 ≤ s.p), decide (2 ≤ s.p), true, true, true, true, s.a, decide (3 ≤ s.p), true, true, true, true, s.b, decide (4 ≤ s.p), true, true, true, true, s.c, decide (5 ≤ s.p), decide (6 ≤ s.p), s.d, false]
def Sx.rl (s : Sx) : List Nat := (if s.p = 0 then [4] else []) ++ ((if s.p = 1 then [5] else []) ++ ((if s.a = true then [] else [10]) ++ ((if s.p = 2 ∧ s.a = true then [11] else []) ++ ((if s.b = true then [] else [16]) ++ ((if s.p = 3 ∧ s.b = true then [17] else []) ++ ((if s.c = true then [] else [22]) ++ ((if s.p = 4 ∧ s.c = true then [23] else []) ++ ((if s.p = 5 then [24] else []) ++ ((if s.d = true then [] else [25]) ++ (if s.p = 6 ∧ s.d = true then [26] else []))))))))))
def Sx.fin (s : Sx) : Bool := decide (s.p = 6) && s.d
def Sx.rank (s : Sx) : Nat := (6 - s.p) + ((if s.a = true then 0 else 1) + ((if s.b = true then 0 else 1) + ((if s.c = true then 0 else 1) + (if s.d = true then 0 else 1))))
theorem if_mem {c : Prop} [Decidable c] {i k : Nat} : i ∈ (if c then [k] else []) ↔ c ∧ i = k := by
  by_cases h : c <;> simp [h]
theorem if_mem' {c : Prop} [Decidable c] {i k : Nat} : i ∈ (if c then [] else [k]) ↔ ¬ c ∧ i = k := by
  by_cases h : c <;> simp [h]
theorem Sx.rl_mem {s : Sx} {i : Nat} (h : i ∈ s.rl) : (s.p = 0 ∧ i = 4) ∨ (s.p = 1 ∧ i = 5) ∨ (¬ s.a = true ∧ i = 10) ∨ ((s.p = 2 ∧ s.a = true) ∧ i = 11) ∨ (¬ s.b = true ∧ i = 16) ∨ ((s.p = 3 ∧ s.b = true) ∧ i = 17) ∨ (¬ s.c = true ∧ i = 22) ∨ ((s.p = 4 ∧ s.c = true) ∧ i = 23) ∨ (s.p = 5 ∧ i = 24) ∨ (¬ s.d = true ∧ i = 25) ∨ ((s.p = 6 ∧ s.d = true) ∧ i = 26) := by
  unfold Sx.rl at h
  simpa only [List.mem_append, if_mem, if_mem'] using h
theorem Sx.rank0 {s : Sx} (h : s.ok) (h0 : s.rank = 0) : s.fin = true := by
  obtain ⟨h1, _⟩ := h
  unfold Sx.rank at h0
  unfold Sx.fin
  have e1 : s.p = 6 := by omega
  have e2 : s.d = true := by
    cases hd : s.d with
    | true => rfl
    | false => rw [hd] at h0; simp at h0
  rw [e1, e2]
  rfl
theorem Sx.rl_ne {s : Sx} (h : s.ok) (hf : s.fin = false) : s.rl ≠ [] := by
  obtain ⟨p, a, b, c, d⟩ := s
  obtain ⟨h1, h2, h3, h4⟩ := h
  simp only at h1 h2 h3 h4
  intro h0
  unfold Sx.rl at h0
  unfold Sx.fin at hf
  simp only [List.append_eq_nil_iff] at h0
  obtain ⟨g0, g1, g2, g3, g4, g5, g6, g7, g8, g9, g10⟩ := h0
  have e0 : p ≠ 0 := fun e => by rw [if_pos e] at g0; cases g0
  have e1 : p ≠ 1 := fun e => by rw [if_pos e] at g1; cases g1
  have e5 : p ≠ 5 := fun e => by rw [if_pos e] at g8; cases g8
  have ea : a = true := by cases a with
    | true => rfl
    | false => simp at g2
  have eb : b = true := by cases b with
    | true => rfl
    | false => simp at g4
  have ec : c = true := by cases c with
    | true => rfl
    | false => simp at g6
  have ed : d = true := by cases d with
    | true => rfl
    | false => simp at g9
  have e2 : p ≠ 2 := fun e => by rw [if_pos ⟨e, ea⟩] at g3; cases g3
  have e3 : p ≠ 3 := fun e => by rw [if_pos ⟨e, eb⟩] at g5; cases g5
  have e4 : p ≠ 4 := fun e => by rw [if_pos ⟨e, ec⟩] at g7; cases g7
  have e6 : p = 6 := by omega
  subst e6; subst ed
  cases hf
/-- A row of two, or a box, in a block of the call's own. -/
def Bx (w : World) (base : Nat) (T : TypeId) (us : List Value) (v : Value) : Prop := ∃ g, v = .slice (some ⟨g, 0, none⟩) 2 2 ∧ base ≤ g ∧ Box w g T us
def Px (w : World) (base : Nat) (T : TypeId) (us : List Value) (v : Value) : Prop := ∃ g, v = .pointer (some ⟨g, 0, none⟩) ∧ base ≤ g ∧ Box w g T us
theorem Bx.keep {S : Nat → Prop} {w w' : World} {base : Nat} {T : TypeId} {us : List Value} {v : Value} (h : Bx w base T us v) (hk : Keep S w w') (hS : ∀ g us, Box w g T us → ¬ S g) : Bx w' base T us v := by
  obtain ⟨g, h1, h2, h3⟩ := h
  exact ⟨g, h1, h2, h3.keep hk (hS g us h3)⟩
theorem Px.keep {S : Nat → Prop} {w w' : World} {base : Nat} {T : TypeId} {us : List Value} {v : Value} (h : Px w base T us v) (hk : Keep S w w') (hS : ∀ g us, Box w g T us → ¬ S g) : Px w' base T us v := by
  obtain ⟨g, h1, h2, h3⟩ := h
  exact ⟨g, h1, h2, h3.keep hk (hS g us h3)⟩
/-- What does not depend on how far the calls are. -/
structure RB (w : World) (y : Y) (x : X) (b base : Nat) (KL : List D) (s : Sx) (v72 v78 v84 v9 : Value) (wr : World) : Prop where
  ap : AP w wr y x
  fn : Of wr (· < base) b x.drop
  ks : ∀ d, d ∈ KL → d.Ok wr (· < base)
  sz : base ≤ wr.heap.size
  lo : w.heap.size + 3 ≤ base
  ra : s.a = true → Bx wr base 3 [.int .i64 x.next, .int .i64 y.next] v72
  rb : s.b = true → Bx wr base 3 [.int .i64 x.log, .int .i64 y.log] v78
  rc : s.c = true → Bx wr base 24 [.int .u64 (x.seq : Int), .int .u64 (y.seq : Int)] v84
  rd : s.d = true → Px wr base 44 zeroV v9
theorem RB.keep {S : Nat → Prop} {w wr w' : World} {y : Y} {x : X} {b base : Nat} {KL : List D} {s : Sx} {v72 v78 v84 v9 : Value} (h : RB w y x b base KL s v72 v78 v84 v9 wr) (hk : Keep S wr w') (h1 : ∀ k, S k → base ≤ k) (h2 : ∀ g T us, Box wr g T us → T ≠ 41 → ¬ S g) :
    RB w y x b base KL s v72 v78 v84 v9 w' := by
  have hold : ∀ k, k < base → w'.heap[k]? = wr.heap[k]? := fun k hlt => hk.block k (Nat.lt_of_lt_of_le hlt h.sz) fun hs => by have := h1 k hs; omega
  exact ⟨h.ap.keep hk fun k hs => Nat.le_trans h.lo (h1 k hs), h.fn.later hold fun _ hq => hq, fun d hd => (h.ks d hd).later hold fun _ hq => hq, Nat.le_trans h.sz hk.size, h.lo,
    fun hs => (h.ra hs).keep hk fun g us hb => h2 g _ us hb (by decide), fun hs => (h.rb hs).keep hk fun g us hb => h2 g _ us hb (by decide), fun hs => (h.rc hs).keep hk fun g us hb => h2 g _ us hb (by decide), fun hs => (h.rd hs).keep hk fun g us hb => h2 g _ us hb (by decide)⟩
theorem RB.below {w wr w' : World} {y : Y} {x : X} {b base : Nat} {KL : List D} {s : Sx} {v72 v78 v84 v9 : Value} (h : RB w y x b base KL s v72 v78 v84 v9 wr) (hb : Below wr.heap.size wr w') : RB w y x b base KL s v72 v78 v84 v9 w' :=
  h.keep (S := fun _ => False) (below_keep hb) (fun _ hf => hf.elim) fun _ _ _ _ _ hf => hf.elim
theorem RB.at_p {w wr : World} {y : Y} {x : X} {b base : Nat} {KL : List D} {s : Sx} {v72 v78 v84 v9 : Value} (h : RB w y x b base KL s v72 v78 v84 v9 wr) (p : Nat) : RB w y x b base KL ⟨p, s.a, s.b, s.c, s.d⟩ v72 v78 v84 v9 wr :=
  ⟨h.ap, h.fn, h.ks, h.sz, h.lo, h.ra, h.rb, h.rc, h.rd⟩
/-- How far the calls are. -/
structure RC (y : Y) (x : X) (base : Nat) (kv : Value) (KL N : List D) (p : Nat) (v66 v67 v73 v79 v85 v86 : Value) (wr : World) : Prop where
  kv : p = 0 → wr.ownsRow base 41 6 kv KL.length (cellsL KL)
  ins : p = 1 → wr.ownsRow base 41 6 v66 N.length (cellsL N)
  cop : 2 ≤ p → ∃ C : List D, C.map D.ru = N.map D.ru ∧ Ac base wr v67 C
  e73 : 3 ≤ p → v73 = .int .i64 (orI x.next y.next)
  e79 : 4 ≤ p → v79 = .int .i64 (orI x.log y.log)
  e85 : 5 ≤ p → v85 = .int .u64 (orN x.seq y.seq : Nat)
  e86 : p = 6 → v86 = .agg #[v67, v73, v79, v85]
theorem RC.below {y : Y} {x : X} {base : Nat} {kv : Value} {KL N : List D} {p : Nat} {v66 v67 v73 v79 v85 v86 : Value} {wr w' : World} (h : RC y x base kv KL N p v66 v67 v73 v79 v85 v86 wr) (hb : Below wr.heap.size wr w') : RC y x base kv KL N p v66 v67 v73 v79 v85 v86 w' :=
  ⟨fun hp => own_later (h.kv hp) hb, fun hp => own_later (h.ins hp) hb, fun hp => by
    obtain ⟨C, h1, h2⟩ := h.cop hp
    exact ⟨C, h1, h2.below hb⟩, h.e73, h.e79, h.e85, h.e86⟩
theorem zok_of {B : Nat} {w : World} {A : Option Addr} {c : Nat} {C : List D} {nx lg : Int} {sq : Nat} (h : Ac B w (.slice A C.length c) C) (h1 : (Lit.int .i64 nx).wf = true) (h2 : (Lit.int .i64 lg).wf = true) (h3 : sq < 18446744073709551616) : (⟨A, c, C, nx, lg, sq⟩ : Y).Ok w w.heap.size := by
  obtain ⟨_, _, e1, hc1, hm1, hl1⟩ := own_parts h.own
  injection e1 with ea _ ec
  subst ea; subst ec
  exact ⟨⟨hl1, hc1, hm1, fun d hd => (h.ok d hd).later (fun _ _ => rfl) fun k hf => hf.2.1⟩, h1, h2, h3⟩
/-- The row of two, the box: they are laid. -/
theorem bx_new {w : World} {base : Nat} (T : TypeId) (u1 u2 : Value) (h : base ≤ w.heap.size) : Bx (w.alloc (.cells #[u1, u2] T)) base T [u1, u2] (.slice (some ⟨w.heap.size, 0, none⟩) 2 2) := ⟨w.heap.size, rfl, h, Box.new w T [u1, u2]⟩
theorem px_new {w : World} {base : Nat} (h : base ≤ w.heap.size) : Px (w.alloc (.cells zeroV.toArray 44)) base 44 zeroV (.pointer (some ⟨w.heap.size, 0, none⟩)) := ⟨w.heap.size, rfl, h, Box.new w _ zeroV⟩
end Go.Proofs.Ythhmjjmjicmhdaa.Ve

/- Package version: Apply. -/
namespace Go.Proofs.Ythhmjjmjicmhdaa.Ve
set_option linter.unusedVariables false
set_option linter.unusedSimpArgs false
open Go.RowKit Lift Ik Ed
set_option maxRecDepth 100000 in
set_option maxHeartbeats 25600000 in
theorem vapply_any (y : Y) (x : X) (w : World) (hy : y.Ok w w.heap.size) (hx : x.Ok w w.heap.size) : Calls Try.prog 24 #[y.v, x.v] w (Told w (applyV y.t x.e)) := by
  have HA0 := Lib.hid (AP.start hy hx)
  have hn1 := i64_of hy.wn
  have hn2 := i64_of hy.wl
  have hn3 := hy.sq
  have hn4 := i64_of hx.wn
  have hn5 := i64_of hx.wl
  have hn6 := hx.sq
  have hb7 := Nat.le_trans hy.runs.len hy.runs.cap
  have hb8 := Nat.le_trans hx.add.len hx.add.cap
  have hb9 := Nat.le_trans hx.dc hx.dm
  have HYW := Lib.hid (show (Lit.int .i64 y.next).wf = true ∧ (Lit.int .i64 y.log).wf = true ∧ y.seq < 18446744073709551616 from ⟨hy.wn, hy.wl, hy.sq⟩)
  have HXW := Lib.hid (show (Lit.int .i64 x.next).wf = true ∧ (Lit.int .i64 x.log).wf = true ∧ x.seq < 18446744073709551616 from ⟨hx.wn, hx.wl, hx.sq⟩)
  unfold maxLen at hb7 hb8 hb9
  clear hy hx
  go_enter Try.func24, Try.ntmps24
  go_upto_region 1 with fail
  generalize (((w.alloc (.cells #[.slice y.a y.runs.length y.c, .int .i64 y.next, .int .i64 y.log, .int .u64 (y.seq : Int)] 44)).alloc (.cells #[.slice x.addA x.add.length x.addC, .slice x.dropA x.drop.length x.dropC, .int .i64 x.next, .int .i64 x.log, .int .u64 (x.seq : Int)] 26)).alloc (.cells #[.slice none 0 0, .int .i64 0, .int .i64 0, .int .u64 0] 44)) = W0 at *
  have HRV := Lib.hid (vright_any y w.heap.size W0 HA0.out.oy HA0.out.be.size)
  have HBV0 := Lib.hid HA0.out.bv
  obtain ⟨b1, hb1⟩ : ∃ b, b = rightV y.t := ⟨_, rfl⟩
  rw [← hb1] at HRV
  have HB1 := Lib.hid hb1
  clear hb1
  go_wp2_with ((with_reducible change wpList _ _ _ (_ :: _) _ _); refine wpList_load_row rfl _ _ rfl w.heap.size rfl _ y.cells.toArray (0, 0) _ HBV0.out Try.underlying44 rfl (by kernel_rfl) ?_)
  refine HRV.out.mono ?_
  rintro e W1 ⟨rfl, hw1⟩
  have HA1 := Lib.hid (HA0.out.below hw1)
  clear hw1 HRV HA0 HBV0
  rcases b1
  · have HT : Hid (applyV y.t x.e = (1, noV)) := Lib.hid (apply_arg (.inl HB1.out.symm))
    have HZ := Lib.hid HA1.out.res
    go_wp2_with ((with_reducible change wpList _ _ _ (_ :: _) _ _); refine wpList_store_row rfl _ _ _ rfl (w.heap.size + 1 + 1) #[.slice none 0 0, .int .i64 0, .int .i64 0, .int .u64 0] rfl rfl _ zeroV.toArray HZ.out (by kernel_rfl) rfl (by kernel_rfl) ?_)
    have hrz : Box (W1.setRow (w.heap.size + 1 + 1) #[.slice none 0 0, .int .i64 0, .int .i64 0, .int .u64 0]) (w.heap.size + 1 + 1) 44 zeroV := setRow_heap _ _ _ _ _ _ HZ.out
    refine bodyPost_ret (results_box rfl Try.underlying44 (by kernel_rfl) _ rfl hrz) rfl ?_
    exact told_none HA1.out HT.out _
  have HRE := Lib.hid (oright_any x w.heap.size W1 HA1.out.ox HA1.out.be.size)
  obtain ⟨b2, hb2⟩ : ∃ b, b = right x.e := ⟨_, rfl⟩
  rw [← hb2] at HRE
  have HB2 := Lib.hid hb2
  clear hb2
  obtain ⟨k0, k1, k2, k3, k4⟩ := edit_cells HA1.out
  go_wp2_with fail
  refine HRE.out.mono ?_
  rintro e W2 ⟨rfl, hw2⟩
  have HA2 := Lib.hid (HA1.out.below hw2)
  clear hw2 HRE HA1 k0 k1 k2 k3 k4
  rcases b2
  · have HT : Hid (applyV y.t x.e = (1, noV)) := Lib.hid (apply_arg (.inr HB2.out.symm))
    have HZ := Lib.hid HA2.out.res
    go_wp2_with ((with_reducible change wpList _ _ _ (_ :: _) _ _); refine wpList_store_row rfl _ _ _ rfl (w.heap.size + 1 + 1) #[.slice none 0 0, .int .i64 0, .int .i64 0, .int .u64 0] rfl rfl _ zeroV.toArray HZ.out (by kernel_rfl) rfl (by kernel_rfl) ?_)
    have hrz : Box (W2.setRow (w.heap.size + 1 + 1) #[.slice none 0 0, .int .i64 0, .int .i64 0, .int .u64 0]) (w.heap.size + 1 + 1) 44 zeroV := setRow_heap _ _ _ _ _ _ HZ.out
    refine bodyPost_ret (results_box rfl Try.underlying44 (by kernel_rfl) _ rfl hrz) rfl ?_
    exact told_none HA2.out HT.out _
  have hlY : y.t.runs.length = y.runs.length := by unfold Y.t; simp
  have hlA : x.e.add.length = x.add.length := by unfold X.e; simp
  have hY := rightV_parts HB1.out.symm
  have hX := right_drop HB2.out.symm
  have fY : y.runs.length ≤ 1000 := by rw [← hlY]; exact hY.1
  have fA : x.add.length ≤ 100 := by rw [← hlA]; exact hX.2.1
  have fD : x.drop.length ≤ 100 := hX.2.2
  clear hY hX
  -- the function dropped, the copy of the runs, what is kept of them
  obtain ⟨k0, k1, k2, k3, k4⟩ := edit_cells HA2.out
  obtain ⟨q0, q1, q2, q3⟩ := Ve.look HA2.out.bv
  go_wp2_with fail
  refine (vof_any x.dropA x.drop.length x.dropC W2).mono ?_
  rintro e W3 ⟨rfl, hw3⟩
  have hb3 : Below W2.heap.size W2 W3 := by rw [hw3]; exact Joins.below_alloc1 _ _
  have HOF3 : Hid (Of W3 (· < W3.heap.size) W2.heap.size x.drop) := Lib.hid (by rw [hw3]; exact of_new (HA2.out.ox.dl.up HA2.out.be.size))
  have HA3 := Lib.hid (HA2.out.below hb3)
  obtain ⟨b, hb⟩ : ∃ b, b = W2.heap.size := ⟨_, rfl⟩
  rw [← hb] at HOF3 ⊢
  clear hw3 hb3 hb HA2 k0 k1 k2 k3 k4 q0 q1 q2 q3
  obtain ⟨k0, k1, k2, k3, k4⟩ := edit_cells HA3.out
  obtain ⟨q0, q1, q2, q3⟩ := Ve.look HA3.out.bv
  go_wp2_with fail
  refine (vclone_any y.a y.c y.runs W3 (HA3.out.oy.runs.lies.up HA3.out.be.size) fY).mono ?_
  rintro e W4 ⟨cv, rfl, ho4, hb4⟩
  obtain ⟨base, hbase⟩ : ∃ base, base = W3.heap.size := ⟨_, rfl⟩
  have HLO : Hid (w.heap.size + 3 ≤ base) := Lib.hid (by rw [hbase]; exact HA3.out.size)
  have HSZ4 : Hid (base ≤ W4.heap.size) := Lib.hid (by rw [hbase]; exact hb4.size)
  have HA4 := Lib.hid (HA3.out.below hb4)
  have HOF4 : Hid (Of W4 (· < base) b x.drop) := Lib.hid (by rw [hbase]; exact HOF3.out.later hb4.block fun k hk => hk)
  rw [← hbase] at ho4
  have HDEL := Lib.hid (vdel_any cv y.runs base b x.drop W4 ho4 (fun d hd => (HA4.out.oy.runs.ok d hd).later (fun _ _ => rfl) fun k hk => by have := HLO.out; omega) HSZ4.out HOF4.out (by omega) fY)
  clear ho4 hb4 hbase HA3 HOF3 k0 k1 k2 k3 k4 q0 q1 q2 q3
  obtain ⟨k0, k1, k2, k3, k4⟩ := edit_cells HA4.out
  obtain ⟨q0, q1, q2, q3⟩ := Ve.look HA4.out.bv
  obtain ⟨KL, hKL⟩ : ∃ KL, KL = y.runs.filter fun d => !decide (d.file ∈ x.drop) := ⟨_, rfl⟩
  rw [← hKL] at HDEL
  have HKR : Hid (KL.map D.ru = keptR y.t x.e) := Lib.hid (by rw [hKL]; exact kept_map y x)
  have HKM : Hid (∀ d, d ∈ KL → d ∈ y.runs) := Lib.hid fun d hd => by rw [hKL] at hd; exact (List.mem_filter.1 hd).1
  have fK : KL.length ≤ 1000 := by
    rw [hKL]
    exact Nat.le_trans (List.length_filter_le _ _) fY
  clear hKL
  go_wp2_with fail
  refine HDEL.out.mono ?_
  rintro e W5 ⟨kv, rfl, ho5, hb5⟩
  have HA5 := Lib.hid (HA4.out.low hb5 HLO.out)
  have HSZ5 : Hid (base ≤ W5.heap.size) := Lib.hid (Nat.le_trans HSZ4.out hb5.size)
  have HOF5 : Hid (Of W5 (· < base) b x.drop) := Lib.hid (HOF4.out.later hb5.block fun k hk => hk)
  have HKV5 := Lib.hid ho5
  obtain ⟨kA, kc, hkv, hkc, hkm, -⟩ := own_parts ho5
  subst hkv
  clear ho5 hb5 HDEL HA4 HOF4 HSZ4 k0 k1 k2 k3 k4 q0 q1 q2 q3
  obtain ⟨k0, k1, k2, k3, k4⟩ := edit_cells HA5.out
  obtain ⟨q0, q1, q2, q3⟩ := Ve.look HA5.out.bv
  unfold maxLen at hkm
  have HKL : Hid ((keptR y.t x.e).length = KL.length) := Lib.hid (by rw [← HKR.out, List.length_map])
  by_cases h8 : y.runs.length < KL.length + x.drop.length
  · have t8 : decide ((y.runs.length : Int) < (KL.length : Int) + (x.drop.length : Int)) = true := decide_eq_true (by omega)
    have HT : Hid (applyV y.t x.e = (8, noV)) := Lib.hid (papply_none HB1.out.symm HB2.out.symm (by rw [hlY, HKL.out]; exact h8))
    clear h8
    have HZ := Lib.hid HA5.out.res
    go_wp2_with ((with_reducible change wpList _ _ _ (_ :: _) _ _); refine wpList_store_row rfl _ _ _ rfl (w.heap.size + 1 + 1) #[.slice none 0 0, .int .i64 0, .int .i64 0, .int .u64 0] rfl rfl _ zeroV.toArray HZ.out (by kernel_rfl) rfl (by kernel_rfl) ?_)
    have hrz : Box (W5.setRow (w.heap.size + 1 + 1) #[.slice none 0 0, .int .i64 0, .int .i64 0, .int .u64 0]) (w.heap.size + 1 + 1) 44 zeroV := setRow_heap _ _ _ _ _ _ HZ.out
    refine bodyPost_ret (results_box rfl Try.underlying44 (by kernel_rfl) _ rfl hrz) rfl ?_
    exact told_none HA5.out HT.out _
  have t8 : decide ((y.runs.length : Int) < (KL.length : Int) + (x.drop.length : Int)) = false := decide_eq_false (by omega)
  obtain ⟨hT, hF1, hF2⟩ := papply_some HB1.out.symm HB2.out.symm (by rw [hlY, HKL.out]; exact h8)
  have HT := Lib.hid hT
  have HF1 : Hid (fromR y.t x.e + x.drop.length ≤ y.runs.length) := Lib.hid (by rw [← hlY]; exact hF1)
  have HF2 : Hid (fromR y.t x.e ≤ KL.length) := Lib.hid (by rw [← HKL.out]; exact hF2)
  clear hT hF1 hF2 h8
  go_wp2_with fail
  refine (vlist_any x.addA x.addC w.heap.size x.add W5 HA5.out.ox.add (by omega) HA5.out.be.size).mono ?_
  rintro e W6 ⟨fv, rfl, ho6, hb6⟩
  obtain ⟨gA, gc, hfv, hfc, hfm, hfl⟩ := own_parts ho6
  subst hfv
  obtain ⟨FL, hFL⟩ : ∃ FL, FL = x.add.map (·.file) := ⟨_, rfl⟩
  rw [← hFL] at hfl hfc ho6 ⊢
  have HFL : Hid (FL = x.e.add.map (·.file)) := Lib.hid (by rw [hFL]; unfold X.e; simp [Function.comp_def, D.ru])
  have HFN : Hid (FL.length ≤ 1000) := Lib.hid (by rw [hFL, List.length_map]; omega)
  have HA6 := Lib.hid (HA5.out.below hb6)
  have HSZ6 : Hid (base ≤ W6.heap.size) := Lib.hid (Nat.le_trans HSZ5.out hb6.size)
  have HOF6 : Hid (Of W6 (· < base) b x.drop) := Lib.hid (HOF5.out.later (fun k hk => hb6.block k (Nat.lt_of_lt_of_le hk HSZ5.out)) fun k hk => hk)
  have HKV6 := Lib.hid (own_later HKV5.out hb6)
  have HFV6 := Lib.hid hfl
  clear ho6 hb6 hfl hFL HA5 HSZ5 HOF5 HKV5 k0 k1 k2 k3 k4 q0 q1 q2 q3 t8
  go_wp2_with fail
  refine (vof_any gA FL.length gc W6).mono ?_
  rintro e W7 ⟨rfl, hw7⟩
  have hb7' : Below W6.heap.size W6 W7 := by rw [hw7]; exact Joins.below_alloc1 _ _
  have HOF7 : Hid (Of W7 (· < W7.heap.size) W6.heap.size FL) := Lib.hid (by rw [hw7]; exact of_new HFV6.out)
  have HA7 := Lib.hid (HA6.out.below hb7')
  have HSZ7 : Hid (base ≤ W7.heap.size) := Lib.hid (Nat.le_trans HSZ6.out hb7'.size)
  have HOD7 : Hid (Of W7 (· < base) b x.drop) := Lib.hid (HOF6.out.later (fun k hk => hb7'.block k (Nat.lt_of_lt_of_le hk HSZ6.out)) fun k hk => hk)
  have HKV7 := Lib.hid (own_later HKV6.out hb7')
  obtain ⟨b2, hb2⟩ : ∃ b2, b2 = W6.heap.size := ⟨_, rfl⟩
  rw [← hb2] at HOF7 ⊢
  have HKS7 : Hid (∀ d, d ∈ KL → d.Ok W7 (· < base)) := Lib.hid fun d hd => (HA7.out.oy.runs.ok d (HKM.out d hd)).later (fun _ _ => rfl) fun k hk => by have := HLO.out; omega
  have HANY := Lib.hid (vany_any kA kc W7.heap.size KL b2 FL W7 (Runs.of_own HKV7.out fun d hd => (HKS7.out d hd).later (fun _ _ => rfl) fun k hk => Nat.lt_of_lt_of_le hk HSZ7.out) (Nat.le_refl _) HOF7.out (by have := HFN.out; omega))
  obtain ⟨b9, hb9⟩ : ∃ b9, b9 = KL.any fun d => decide (d.file ∈ FL) := ⟨_, rfl⟩
  rw [← hb9] at HANY
  have HB9 : Hid (b9 = (keptR y.t x.e).any fun r => decide (r.file ∈ x.e.add.map (·.file))) := Lib.hid (by
    rw [hb9, ← HKR.out, HFL.out, List.any_map]
    rfl)
  clear hw7 hb7' hb2 hb9 HFL HFV6 HA6 HSZ6 HOF6 HKV6 HOF7
  go_wp2_with fail
  refine HANY.out.mono ?_
  rintro e W8 ⟨rfl, hb8'⟩
  have HA8 := Lib.hid (HA7.out.below hb8')
  have HSZ8 : Hid (base ≤ W8.heap.size) := Lib.hid (Nat.le_trans HSZ7.out hb8'.size)
  have HOF8 : Hid (Of W8 (· < base) b x.drop) := Lib.hid (HOD7.out.later (fun k hk => hb8'.block k (Nat.lt_of_lt_of_le hk HSZ7.out)) fun k hk => hk)
  have HKV8 := Lib.hid (own_later HKV7.out hb8')
  have HKS8 : Hid (∀ d, d ∈ KL → d.Ok W8 (· < base)) := Lib.hid fun d hd => (HKS7.out d hd).later (fun k hk => hb8'.block k (Nat.lt_of_lt_of_le hk HSZ7.out)) fun _ h => h
  clear hb8' HANY HA7 HSZ7 HOD7 HKV7 HKS7
  obtain ⟨k0, k1, k2, k3, k4⟩ := edit_cells HA8.out
  obtain ⟨q0, q1, q2, q3⟩ := Ve.look HA8.out.bv
  cases b9 with
  | true =>
    have HT9 : Hid (applyV y.t x.e = (9, noV)) := Lib.hid (by rw [HT.out, if_pos HB9.out.symm])
    have HZ := Lib.hid HA8.out.res
    go_wp2_with ((with_reducible change wpList _ _ _ (_ :: _) _ _); refine wpList_store_row rfl _ _ _ rfl (w.heap.size + 1 + 1) #[.slice none 0 0, .int .i64 0, .int .i64 0, .int .u64 0] rfl rfl _ zeroV.toArray HZ.out (by kernel_rfl) rfl (by kernel_rfl) ?_)
    have hrz : Box (W8.setRow (w.heap.size + 1 + 1) #[.slice none 0 0, .int .i64 0, .int .i64 0, .int .u64 0]) (w.heap.size + 1 + 1) 44 zeroV := setRow_heap _ _ _ _ _ _ HZ.out
    refine bodyPost_ret (results_box rfl Try.underlying44 (by kernel_rfl) _ rfl hrz) rfl ?_
    exact told_none HA8.out HT9.out _
  | false =>
    have HN9 : Hid (¬ ((keptR y.t x.e).any fun r => decide (r.file ∈ x.e.add.map (·.file))) = true) := Lib.hid (by rw [← HB9.out]; simp)
    by_cases h3 : 1000 < KL.length + x.add.length
    · have t3 : decide ((1000 : Int) < (KL.length : Int) + (x.add.length : Int)) = true := decide_eq_true (by omega)
      have HT3 : Hid (applyV y.t x.e = (3, noV)) := Lib.hid (by rw [HT.out, if_neg HN9.out, if_pos (by rw [HKL.out, hlA]; exact h3)])
      clear h3
      have HZ := Lib.hid HA8.out.res
      go_wp2_with ((with_reducible change wpList _ _ _ (_ :: _) _ _); refine wpList_store_row rfl _ _ _ rfl (w.heap.size + 1 + 1) #[.slice none 0 0, .int .i64 0, .int .i64 0, .int .u64 0] rfl rfl _ zeroV.toArray HZ.out (by kernel_rfl) rfl (by kernel_rfl) ?_)
      have hrz : Box (W8.setRow (w.heap.size + 1 + 1) #[.slice none 0 0, .int .i64 0, .int .i64 0, .int .u64 0]) (w.heap.size + 1 + 1) 44 zeroV := setRow_heap _ _ _ _ _ _ HZ.out
      refine bodyPost_ret (results_box rfl Try.underlying44 (by kernel_rfl) _ rfl hrz) rfl ?_
      exact told_none HA8.out HT3.out _
    have t3 : decide ((1000 : Int) < (KL.length : Int) + (x.add.length : Int)) = false := decide_eq_false (by omega)
    have hT := HT.out
    rw [if_neg HN9.out, if_neg (by rw [HKL.out, hlA]; exact h3)] at hT
    have HT2 := Lib.hid hT
    have f3 : KL.length + x.add.length ≤ 1000 := by omega
    clear hT HT HN9 HB9 h3
    have HFI := Lib.hid (vfind_any y.a y.c w.heap.size y.runs b x.drop W8 HA8.out.oy.runs HA8.out.be.size (HOF8.out.later (fun _ _ => rfl) fun k hk => Nat.lt_of_lt_of_le hk HSZ8.out) (by omega))
    have HMX := Lib.hid (gone_find y x)
    obtain ⟨z0, hz0⟩ : ∃ z0, z0 = pI (fun d => decide (d.file ∈ x.drop)) y.runs := ⟨_, rfl⟩
    rw [← hz0] at HFI HMX
    obtain ⟨i, hi⟩ : ∃ i, i = fromR y.t x.e := ⟨_, rfl⟩
    rw [← hi] at HMX HF1 HF2
    have HI := Lib.hid hi
    clear hz0 hi
    go_wp2_with fail
    refine HFI.out.mono ?_
    rintro e W9 ⟨rfl, hb9'⟩
    have HA9 := Lib.hid (HA8.out.below hb9')
    have HSZ9 : Hid (base ≤ W9.heap.size) := Lib.hid (Nat.le_trans HSZ8.out hb9'.size)
    have HOF9 : Hid (Of W9 (· < base) b x.drop) := Lib.hid (HOF8.out.later (fun k hk => hb9'.block k (Nat.lt_of_lt_of_le hk HSZ8.out)) fun k hk => hk)
    have HKV9 := Lib.hid (own_later HKV8.out hb9')
    have HKS9 : Hid (∀ d, d ∈ KL → d.Ok W9 (· < base)) := Lib.hid fun d hd => (HKS8.out d hd).later (fun k hk => hb9'.block k (Nat.lt_of_lt_of_le hk HSZ8.out)) fun _ h => h
    have hmx := HMX.out
    clear hb9' HFI HA8 HSZ8 HOF8 HKV8 HKS8 k0 k1 k2 k3 k4 q0 q1 q2 q3 t3
    go_upto_region 12 with fail
    have HSM : Hid (∀ d, d ∈ KL.take i ++ (x.add ++ KL.drop i) → d.first.length ≤ 100000 ∧ d.last.length ≤ 100000) := Lib.hid fun d hd => by
      have h1 : ∀ d, d ∈ y.runs → okR d.ru = true := fun d hd => by
        have h := (rightV_parts HB1.out.symm).2.2.2.2.2.1 d.ru (List.mem_map_of_mem hd)
        unfold okV at h
        rw [Bool.and_eq_true] at h
        exact h.1
      have h2 : ∀ d, d ∈ x.add → okR d.ru = true := fun d hd => by
        have h := HB2.out.symm
        unfold right at h
        simp only [Bool.and_eq_true, List.all_eq_true] at h
        exact h.2.2.2.2.2.2.2.1 d.ru (List.mem_map_of_mem hd)
      rcases List.mem_append.1 hd with hd | hd
      · exact okR_small (h1 d (HKM.out d (List.mem_of_mem_take hd)))
      · rcases List.mem_append.1 hd with hd | hd
        · exact okR_small (h2 d hd)
        · exact okR_small (h1 d (HKM.out d (List.mem_of_mem_drop hd)))
    obtain ⟨N, hN⟩ : ∃ N, N = KL.take i ++ (x.add ++ KL.drop i) := ⟨_, rfl⟩
    have HN := Lib.hid hN
    have HNL : Hid (N.length ≤ 1000) := Lib.hid (by rw [hN]; simp only [List.length_append, List.length_take, List.length_drop]; have := HF2.out; omega)
    have HNM : Hid (∀ d, d ∈ N → d ∈ KL ∨ d ∈ x.add) := Lib.hid fun d hd => by
      rw [hN] at hd
      rcases List.mem_append.1 hd with hd | hd
      · exact .inl (List.mem_of_mem_take hd)
      · rcases List.mem_append.1 hd with hd | hd
        · exact .inr hd
        · exact .inl (List.mem_of_mem_drop hd)
    rw [← hN] at HSM
    clear hN hmx
    have HI2 := HF2.out
    have HRB : Hid (RB w y x b base KL ⟨0, false, false, false, false⟩ undef undef undef undef W9.drew) := Lib.hid ⟨HA9.out.below (Below.refl _ _).drew, HOF9.out, (fun d hd => (HKS9.out d hd).later (fun _ _ => rfl) fun _ h => h), HSZ9.out, HLO.out, (by intro h; cases h), (by intro h; cases h), (by intro h; cases h), (by intro h; cases h)⟩
    have HRC : Hid (RC y x base (.slice kA KL.length kc) KL N 0 undef undef undef undef undef undef W9.drew) := Lib.hid ⟨fun _ => HKV9.out, (by intro h; cases h), (by intro h; omega), (by intro h; omega), (by intro h; omega), (by intro h; omega), (by intro h; cases h)⟩
    have HSV : Hid (Sv w y x W9.drew) := Lib.hid ⟨HA9.out.bv, HA9.out.bx⟩
    clear HA9 HOF9 HKS9 HSZ9 HKV9 HMX
    go_cut [9] (fun v wx => ∃ (g : Nat) (A7 : Option Addr) (c7 : Nat) (C : List D), v = .pointer (some ⟨g, 0, none⟩) ∧ Hid (base ≤ g) ∧ Hid (Box wx g 44 (⟨A7, c7, C, orI x.next y.next, orI x.log y.log, orN x.seq y.seq⟩ : Y).cells) ∧ Hid (AP w wx y x) ∧ Hid (Of wx (· < base) b x.drop) ∧ Hid (Ac base wx (.slice A7 C.length c7) C) ∧ Hid (base ≤ wx.heap.size) ∧ Hid (C.map D.ru = N.map D.ru))
    case first =>
      refine wp_region_last (S := fun w' => Hid (Sv w y x w')) 26 (by kernel_rfl) (HSV) (fun hS => ?_)
      refine wpAnyX_take (i := 0) (v := ?_) rfl (by kernel_rfl) (by kernel_rfl) (by kernel_rfl) (by kernel_rfl) (fun _ _ _ h => h) (Or.inl ⟨by rfl, ?_⟩) hS ?_
      rotate_left
      · intro wi hw
        go_simp
        try with_reducible rfl
      try simp only [Act.put, List.getElem_toArray, List.getElem_cons_succ, List.getElem_cons_zero, List.setIfInBounds_toArray, List.set_cons_zero, List.set_cons_succ]
      refine wpAnyX_take (i := 1) (v := ?_) rfl (by kernel_rfl) (by kernel_rfl) (by kernel_rfl) (by kernel_rfl) (fun _ _ _ h => h) (Or.inl ⟨by rfl, ?_⟩) hS ?_
      rotate_left
      · intro wi hw
        go_simp
        try with_reducible rfl
      try simp only [Act.put, List.getElem_toArray, List.getElem_cons_succ, List.getElem_cons_zero, List.setIfInBounds_toArray, List.set_cons_zero, List.set_cons_succ]
      refine wpAnyX_take (i := 2) (v := ?_) rfl (by kernel_rfl) (by kernel_rfl) (by kernel_rfl) (by kernel_rfl) (fun _ _ _ h => h) (Or.inl ⟨by rfl, ?_⟩) hS ?_
      rotate_left
      · intro wi hw
        go_simp
        try with_reducible rfl
      try simp only [Act.put, List.getElem_toArray, List.getElem_cons_succ, List.getElem_cons_zero, List.setIfInBounds_toArray, List.set_cons_zero, List.set_cons_succ]
      refine wpAnyX_take (i := 3) (v := ?_) rfl (by kernel_rfl) (by kernel_rfl) (by kernel_rfl) (by kernel_rfl) (fun _ _ _ h => h) (Or.inl ⟨by rfl, ?_⟩) hS ?_
      rotate_left
      · intro wi hw
        obtain ⟨k0, k2, k3, k4, q1, q2, q3⟩ := sv_cells hw.out
        go_simp
        try with_reducible rfl
      try simp only [Act.put, List.getElem_toArray, List.getElem_cons_succ, List.getElem_cons_zero, List.setIfInBounds_toArray, List.set_cons_zero, List.set_cons_succ]
      refine wpAnyX_take (i := 6) (v := ?_) rfl (by kernel_rfl) (by kernel_rfl) (by kernel_rfl) (by kernel_rfl) (fun _ _ _ h => h) (Or.inl ⟨by rfl, ?_⟩) hS ?_
      rotate_left
      · intro wi hw
        go_simp
        try with_reducible rfl
      try simp only [Act.put, List.getElem_toArray, List.getElem_cons_succ, List.getElem_cons_zero, List.setIfInBounds_toArray, List.set_cons_zero, List.set_cons_succ]
      refine wpAnyX_take (i := 7) (v := ?_) rfl (by kernel_rfl) (by kernel_rfl) (by kernel_rfl) (by kernel_rfl) (fun _ _ _ h => h) (Or.inl ⟨by rfl, ?_⟩) hS ?_
      rotate_left
      · intro wi hw
        obtain ⟨k0, k2, k3, k4, q1, q2, q3⟩ := sv_cells hw.out
        go_simp
        try with_reducible rfl
      try simp only [Act.put, List.getElem_toArray, List.getElem_cons_succ, List.getElem_cons_zero, List.setIfInBounds_toArray, List.set_cons_zero, List.set_cons_succ]
      refine wpAnyX_take (i := 8) (v := ?_) rfl (by kernel_rfl) (by kernel_rfl) (by kernel_rfl) (by kernel_rfl) (fun _ _ _ h => h) (Or.inl ⟨by rfl, ?_⟩) hS ?_
      rotate_left
      · intro wi hw
        go_simp
        try with_reducible rfl
      try simp only [Act.put, List.getElem_toArray, List.getElem_cons_succ, List.getElem_cons_zero, List.setIfInBounds_toArray, List.set_cons_zero, List.set_cons_succ]
      refine wpAnyX_take (i := 9) (v := ?_) rfl (by kernel_rfl) (by kernel_rfl) (by kernel_rfl) (by kernel_rfl) (fun _ _ _ h => h) (Or.inl ⟨by rfl, ?_⟩) hS ?_
      rotate_left
      · intro wi hw
        obtain ⟨k0, k2, k3, k4, q1, q2, q3⟩ := sv_cells hw.out
        go_simp
        try with_reducible rfl
      try simp only [Act.put, List.getElem_toArray, List.getElem_cons_succ, List.getElem_cons_zero, List.setIfInBounds_toArray, List.set_cons_zero, List.set_cons_succ]
      refine wpAnyX_take (i := 12) (v := ?_) rfl (by kernel_rfl) (by kernel_rfl) (by kernel_rfl) (by kernel_rfl) (fun _ _ _ h => h) (Or.inl ⟨by rfl, ?_⟩) hS ?_
      rotate_left
      · intro wi hw
        go_simp
        try with_reducible rfl
      try simp only [Act.put, List.getElem_toArray, List.getElem_cons_succ, List.getElem_cons_zero, List.setIfInBounds_toArray, List.set_cons_zero, List.set_cons_succ]
      refine wpAnyX_take (i := 13) (v := ?_) rfl (by kernel_rfl) (by kernel_rfl) (by kernel_rfl) (by kernel_rfl) (fun _ _ _ h => h) (Or.inl ⟨by rfl, ?_⟩) hS ?_
      rotate_left
      · intro wi hw
        obtain ⟨k0, k2, k3, k4, q1, q2, q3⟩ := sv_cells hw.out
        go_simp
        try with_reducible rfl
      try simp only [Act.put, List.getElem_toArray, List.getElem_cons_succ, List.getElem_cons_zero, List.setIfInBounds_toArray, List.set_cons_zero, List.set_cons_succ]
      refine wpAnyX_take (i := 14) (v := ?_) rfl (by kernel_rfl) (by kernel_rfl) (by kernel_rfl) (by kernel_rfl) (fun _ _ _ h => h) (Or.inl ⟨by rfl, ?_⟩) hS ?_
      rotate_left
      · intro wi hw
        go_simp
        try with_reducible rfl
      try simp only [Act.put, List.getElem_toArray, List.getElem_cons_succ, List.getElem_cons_zero, List.setIfInBounds_toArray, List.set_cons_zero, List.set_cons_succ]
      refine wpAnyX_take (i := 15) (v := ?_) rfl (by kernel_rfl) (by kernel_rfl) (by kernel_rfl) (by kernel_rfl) (fun _ _ _ h => h) (Or.inl ⟨by rfl, ?_⟩) hS ?_
      rotate_left
      · intro wi hw
        obtain ⟨k0, k2, k3, k4, q1, q2, q3⟩ := sv_cells hw.out
        go_simp
        try with_reducible rfl
      try simp only [Act.put, List.getElem_toArray, List.getElem_cons_succ, List.getElem_cons_zero, List.setIfInBounds_toArray, List.set_cons_zero, List.set_cons_succ]
      refine wpAnyX_take (i := 18) (v := ?_) rfl (by kernel_rfl) (by kernel_rfl) (by kernel_rfl) (by kernel_rfl) (fun _ _ _ h => h) (Or.inl ⟨by rfl, ?_⟩) hS ?_
      rotate_left
      · intro wi hw
        go_simp
        try with_reducible rfl
      try simp only [Act.put, List.getElem_toArray, List.getElem_cons_succ, List.getElem_cons_zero, List.setIfInBounds_toArray, List.set_cons_zero, List.set_cons_succ]
      refine wpAnyX_take (i := 19) (v := ?_) rfl (by kernel_rfl) (by kernel_rfl) (by kernel_rfl) (by kernel_rfl) (fun _ _ _ h => h) (Or.inl ⟨by rfl, ?_⟩) hS ?_
      rotate_left
      · intro wi hw
        obtain ⟨k0, k2, k3, k4, q1, q2, q3⟩ := sv_cells hw.out
        go_simp
        try with_reducible rfl
      try simp only [Act.put, List.getElem_toArray, List.getElem_cons_succ, List.getElem_cons_zero, List.setIfInBounds_toArray, List.set_cons_zero, List.set_cons_succ]
      refine wpAnyX_take (i := 20) (v := ?_) rfl (by kernel_rfl) (by kernel_rfl) (by kernel_rfl) (by kernel_rfl) (fun _ _ _ h => h) (Or.inl ⟨by rfl, ?_⟩) hS ?_
      rotate_left
      · intro wi hw
        go_simp
        try with_reducible rfl
      try simp only [Act.put, List.getElem_toArray, List.getElem_cons_succ, List.getElem_cons_zero, List.setIfInBounds_toArray, List.set_cons_zero, List.set_cons_succ]
      refine wpAnyX_take (i := 21) (v := ?_) rfl (by kernel_rfl) (by kernel_rfl) (by kernel_rfl) (by kernel_rfl) (fun _ _ _ h => h) (Or.inl ⟨by rfl, ?_⟩) hS ?_
      rotate_left
      · intro wi hw
        obtain ⟨k0, k2, k3, k4, q1, q2, q3⟩ := sv_cells hw.out
        go_simp
        try with_reducible rfl
      try simp only [Act.put, List.getElem_toArray, List.getElem_cons_succ, List.getElem_cons_zero, List.setIfInBounds_toArray, List.set_cons_zero, List.set_cons_succ]
      refine with_act (fun a0 ha => ?_)
      refine wpAnyX_lst (l2 := Sx.lst ⟨0, false, false, false, false⟩) (by kernel_rfl) ?_
      refine wpAnyX_states Sx.lst Sx.rl Sx.ok (fun s a wr => ∃ v66 v67 v73 v79 v85 v86 v72 v78 v84 v9, a = ((((((((((a0.put (some 66) v66).put (some 67) v67).put (some 73) v73).put (some 79) v79).put (some 85) v85).put (some 86) v86).put (some 72) v72).put (some 78) v78).put (some 84) v84).put (some 9) v9) ∧ Hid (RB w y x b base KL s v72 v78 v84 v9 wr) ∧ Hid (RC y x base (.slice kA KL.length kc) KL N s.p v66 v67 v73 v79 v85 v86 wr)) Sx.fin Sx.rank 1 ?hr (fun s hs hf => Sx.rl_ne hs hf) (fun s hs h0 => Sx.rank0 hs h0) ?hstep ?hfin 10 _ ⟨0, false, false, false, false⟩ a0 _ rfl ⟨by decide, by decide, by decide, by decide⟩ (by decide) ⟨undef, undef, undef, undef, undef, undef, undef, undef, undef, undef, ?hact, HRB, HRC⟩
      case hact =>
        subst ha
        simp only [Act.put, List.setIfInBounds_toArray, List.set_cons_zero, List.set_cons_succ]
      case hr =>
        rintro ⟨p, fa, fb, fc, fd⟩ ⟨h1, h2, h3, h4⟩
        simp only at h1 h2 h3 h4
        rcases p with _ | _ | _ | _ | _ | _ | _ | p
        all_goals first | (exfalso; omega) | skip
        all_goals cases fa <;> cases fb <;> cases fc <;> cases fd <;> first | exact absurd (h2 (by decide)) (by decide) | exact absurd (h3 (by decide)) (by decide) | exact absurd (h4 (by decide)) (by decide) | kernel_rfl
      case hstep =>
        intro s hV hf i' hi' a wr hI
        obtain ⟨v66, v67, v73, v79, v85, v86, v72, v78, v84, v9, rfl, hB, hC⟩ := hI
        have hm := Sx.rl_mem hi'
        obtain ⟨p, fa, fb, fc, fd⟩ := s
        obtain ⟨h1, h2, h3, h4⟩ := hV
        simp only at hm h1 h2 h3 h4 hB hC hf
        clear hi'
        subst ha
        rcases hm with ⟨hp, hi⟩ | ⟨hp, hi⟩ | ⟨hp, hi⟩ | ⟨hp, hi⟩ | ⟨hp, hi⟩ | ⟨hp, hi⟩ | ⟨hp, hi⟩ | ⟨hp, hi⟩ | ⟨hp, hi⟩ | ⟨hp, hi⟩ | ⟨hp, hi⟩
        all_goals subst hi
        · subst hp
          refine state_step rfl (fun K' hK => ?_)
          try simp only [Act.put, List.getElem_toArray, List.getElem_cons_succ, List.getElem_cons_zero, List.setIfInBounds_toArray, List.set_cons_zero, List.set_cons_succ]
          go_simp
          refine (vins_any (M := x.add) (i := i) (hC.out.kv rfl) ((hB.out.ap.ox.add.lies).up (Nat.le_trans (by omega) hB.out.lo)) hB.out.sz HI2 f3).mono ?_
          rintro e w1 ⟨v', rfl, ho, hk⟩
          rw [← HN.out] at ho
          have hRB1 := hB.out.keep hk (fun k hs => ((hC.out.kv rfl).lt k hs).1) fun g T us hb hT => own_apart (hC.out.kv rfl) hb hT
          have HRB' : Hid (RB w y x b base KL ⟨1, fa, fb, fc, fd⟩ (v72) (v78) (v84) (v9) _) := Lib.hid (hRB1.at_p 1)
          refine hK.out _ _ ⟨Lib.hid ⟨HRB'.out.ap.bv, HRB'.out.ap.bx⟩, ⟨1, fa, fb, fc, fd⟩, Sx.mk_ok (by omega) (fun h => by omega) (fun h => by omega) (fun h => by omega), rfl, by simp only [Sx.rank, if_true, if_false, Bool.false_eq_true]; omega, v', v67, v73, v79, v85, v86, v72, v78, v84, v9, ?_, HRB', Lib.hid (⟨fun h => absurd h (by show ¬ (1 = 0); omega), fun _ => ho, fun h => absurd h (by show ¬ (2 ≤ 1); omega), fun h => absurd h (by show ¬ (3 ≤ 1); omega), fun h => absurd h (by show ¬ (4 ≤ 1); omega), fun h => absurd h (by show ¬ (5 ≤ 1); omega), fun h => absurd h (by show ¬ (1 = 6); omega)⟩)⟩
          simp only [Act.put, List.setIfInBounds_toArray, List.set_cons_zero, List.set_cons_succ]
        · subst hp
          obtain ⟨A6, c6, rfl, -, -, -⟩ := own_parts (hC.out.ins rfl)
          refine state_step rfl (fun K' hK => ?_)
          try simp only [Act.put, List.getElem_toArray, List.getElem_cons_succ, List.getElem_cons_zero, List.setIfInBounds_toArray, List.set_cons_zero, List.set_cons_succ]
          go_simp
          refine (vcopy_any A6 c6 wr.heap.size N wr (Runs.of_own (hC.out.ins rfl) fun d hd => (HNM.out d hd).elim (fun h => (hB.out.ks d h).later (fun _ _ => rfl) fun k hk => Nat.lt_of_lt_of_le hk hB.out.sz) fun h => (hB.out.ap.ox.add.ok d h).later (fun _ _ => rfl) fun k hk => Nat.lt_of_lt_of_le hk hB.out.ap.be.size) HNL.out (Nat.le_refl _) HSM.out).mono ?_
          rintro e w1 ⟨v', C, rfl, hCm, hac, hb1⟩
          have hRB1 := hB.out.below hb1
          have HRB' : Hid (RB w y x b base KL ⟨2, fa, fb, fc, fd⟩ (v72) (v78) (v84) (v9) _) := Lib.hid (hRB1.at_p 2)
          refine hK.out _ _ ⟨Lib.hid ⟨HRB'.out.ap.bv, HRB'.out.ap.bx⟩, ⟨2, fa, fb, fc, fd⟩, Sx.mk_ok (by omega) (fun h => by omega) (fun h => by omega) (fun h => by omega), rfl, by simp only [Sx.rank, if_true, if_false, Bool.false_eq_true]; omega, .slice A6 N.length c6, v', v73, v79, v85, v86, v72, v78, v84, v9, ?_, HRB', Lib.hid (⟨fun h => absurd h (by show ¬ (2 = 0); omega), fun h => absurd h (by show ¬ (2 = 1); omega), fun _ => ⟨C, hCm, ac_low hB.out.sz hac⟩, fun h => absurd h (by show ¬ (3 ≤ 2); omega), fun h => absurd h (by show ¬ (4 ≤ 2); omega), fun h => absurd h (by show ¬ (5 ≤ 2); omega), fun h => absurd h (by show ¬ (2 = 6); omega)⟩)⟩
          simp only [Act.put, List.setIfInBounds_toArray, List.set_cons_zero, List.set_cons_succ]
        · have hfl : fa = false := by simpa using hp
          subst hfl
          refine state_step rfl (fun K' hK => ?_)
          try simp only [Act.put, List.getElem_toArray, List.getElem_cons_succ, List.getElem_cons_zero, List.setIfInBounds_toArray, List.set_cons_zero, List.set_cons_succ]
          go_simp
          have hba := Joins.below_alloc1 wr (.cells #[.int .i64 x.next, .int .i64 y.next] 3)
          have hRB1 := hB.out.below hba
          have hRC1 := hC.out.below hba
          have HRB' : Hid (RB w y x b base KL ⟨p, true, fb, fc, fd⟩ (.slice (some ⟨wr.heap.size, 0, none⟩) 2 2) (v78) (v84) (v9) _) := Lib.hid (⟨hRB1.ap, hRB1.fn, hRB1.ks, hRB1.sz, hRB1.lo, fun _ => bx_new 3 (.int .i64 x.next) (.int .i64 y.next) hB.out.sz, hRB1.rb, hRB1.rc, hRB1.rd⟩)
          refine hK.out _ _ ⟨Lib.hid ⟨HRB'.out.ap.bv, HRB'.out.ap.bx⟩, ⟨p, true, fb, fc, fd⟩, Sx.mk_ok h1 (fun _ => rfl) (h3) (h4), rfl, by simp only [Sx.rank, if_true, if_false, Bool.false_eq_true]; omega, v66, v67, v73, v79, v85, v86, .slice (some ⟨wr.heap.size, 0, none⟩) 2 2, v78, v84, v9, ?_, HRB', Lib.hid (hRC1)⟩
          simp only [Act.put, List.setIfInBounds_toArray, List.set_cons_zero, List.set_cons_succ]
        · obtain ⟨hp0, hp1⟩ := hp
          subst hp0
          have ha := hp1
          obtain ⟨g, rfl, hg, hbx⟩ := hB.out.ra hp1
          refine state_step rfl (fun K' hK => ?_)
          try simp only [Act.put, List.getElem_toArray, List.getElem_cons_succ, List.getElem_cons_zero, List.setIfInBounds_toArray, List.set_cons_zero, List.set_cons_succ]
          go_simp
          refine (vor_any g x.next y.next wr (hbx.cell 0) (hbx.cell 1)).mono ?_
          rintro e w1 ⟨rfl, rfl⟩
          have HRB' : Hid (RB w y x b base KL ⟨3, fa, fb, fc, fd⟩ (.slice (some ⟨g, 0, none⟩) 2 2) (v78) (v84) (v9) _) := Lib.hid (hB.out.at_p 3)
          refine hK.out _ _ ⟨Lib.hid ⟨HRB'.out.ap.bv, HRB'.out.ap.bx⟩, ⟨3, fa, fb, fc, fd⟩, Sx.mk_ok (by omega) (fun _ => ha) (fun h => by omega) (fun h => by omega), rfl, by simp only [Sx.rank, if_true, if_false, Bool.false_eq_true]; omega, v66, v67, .int .i64 (orI x.next y.next), v79, v85, v86, .slice (some ⟨g, 0, none⟩) 2 2, v78, v84, v9, ?_, HRB', Lib.hid (⟨fun h => absurd h (by show ¬ (3 = 0); omega), fun h => absurd h (by show ¬ (3 = 1); omega), fun _ => hC.out.cop (by omega), fun _ => rfl, fun h => absurd h (by show ¬ (4 ≤ 3); omega), fun h => absurd h (by show ¬ (5 ≤ 3); omega), fun h => absurd h (by show ¬ (3 = 6); omega)⟩)⟩
          simp only [Act.put, List.setIfInBounds_toArray, List.set_cons_zero, List.set_cons_succ]
        · have hfl : fb = false := by simpa using hp
          subst hfl
          refine state_step rfl (fun K' hK => ?_)
          try simp only [Act.put, List.getElem_toArray, List.getElem_cons_succ, List.getElem_cons_zero, List.setIfInBounds_toArray, List.set_cons_zero, List.set_cons_succ]
          go_simp
          have hba := Joins.below_alloc1 wr (.cells #[.int .i64 x.log, .int .i64 y.log] 3)
          have hRB1 := hB.out.below hba
          have hRC1 := hC.out.below hba
          have HRB' : Hid (RB w y x b base KL ⟨p, fa, true, fc, fd⟩ (v72) (.slice (some ⟨wr.heap.size, 0, none⟩) 2 2) (v84) (v9) _) := Lib.hid (⟨hRB1.ap, hRB1.fn, hRB1.ks, hRB1.sz, hRB1.lo, hRB1.ra, fun _ => bx_new 3 (.int .i64 x.log) (.int .i64 y.log) hB.out.sz, hRB1.rc, hRB1.rd⟩)
          refine hK.out _ _ ⟨Lib.hid ⟨HRB'.out.ap.bv, HRB'.out.ap.bx⟩, ⟨p, fa, true, fc, fd⟩, Sx.mk_ok h1 (h2) (fun _ => rfl) (h4), rfl, by simp only [Sx.rank, if_true, if_false, Bool.false_eq_true]; omega, v66, v67, v73, v79, v85, v86, v72, .slice (some ⟨wr.heap.size, 0, none⟩) 2 2, v84, v9, ?_, HRB', Lib.hid (hRC1)⟩
          simp only [Act.put, List.setIfInBounds_toArray, List.set_cons_zero, List.set_cons_succ]
        · obtain ⟨hp0, hp1⟩ := hp
          subst hp0
          have ha := h2 (by omega)
          have hb := hp1
          obtain ⟨g, rfl, hg, hbx⟩ := hB.out.rb hp1
          refine state_step rfl (fun K' hK => ?_)
          try simp only [Act.put, List.getElem_toArray, List.getElem_cons_succ, List.getElem_cons_zero, List.setIfInBounds_toArray, List.set_cons_zero, List.set_cons_succ]
          go_simp
          refine (vor_any g x.log y.log wr (hbx.cell 0) (hbx.cell 1)).mono ?_
          rintro e w1 ⟨rfl, rfl⟩
          have HRB' : Hid (RB w y x b base KL ⟨4, fa, fb, fc, fd⟩ (v72) (.slice (some ⟨g, 0, none⟩) 2 2) (v84) (v9) _) := Lib.hid (hB.out.at_p 4)
          refine hK.out _ _ ⟨Lib.hid ⟨HRB'.out.ap.bv, HRB'.out.ap.bx⟩, ⟨4, fa, fb, fc, fd⟩, Sx.mk_ok (by omega) (fun _ => ha) (fun _ => hb) (fun h => by omega), rfl, by simp only [Sx.rank, if_true, if_false, Bool.false_eq_true]; omega, v66, v67, v73, .int .i64 (orI x.log y.log), v85, v86, v72, .slice (some ⟨g, 0, none⟩) 2 2, v84, v9, ?_, HRB', Lib.hid (⟨fun h => absurd h (by show ¬ (4 = 0); omega), fun h => absurd h (by show ¬ (4 = 1); omega), fun _ => hC.out.cop (by omega), fun _ => hC.out.e73 (by omega), fun _ => rfl, fun h => absurd h (by show ¬ (5 ≤ 4); omega), fun h => absurd h (by show ¬ (4 = 6); omega)⟩)⟩
          simp only [Act.put, List.setIfInBounds_toArray, List.set_cons_zero, List.set_cons_succ]
        · have hfl : fc = false := by simpa using hp
          subst hfl
          refine state_step rfl (fun K' hK => ?_)
          try simp only [Act.put, List.getElem_toArray, List.getElem_cons_succ, List.getElem_cons_zero, List.setIfInBounds_toArray, List.set_cons_zero, List.set_cons_succ]
          go_simp
          have hba := Joins.below_alloc1 wr (.cells #[.int .u64 (x.seq : Int), .int .u64 (y.seq : Int)] 24)
          have hRB1 := hB.out.below hba
          have hRC1 := hC.out.below hba
          have HRB' : Hid (RB w y x b base KL ⟨p, fa, fb, true, fd⟩ (v72) (v78) (.slice (some ⟨wr.heap.size, 0, none⟩) 2 2) (v9) _) := Lib.hid (⟨hRB1.ap, hRB1.fn, hRB1.ks, hRB1.sz, hRB1.lo, hRB1.ra, hRB1.rb, fun _ => bx_new 24 (.int .u64 (x.seq : Int)) (.int .u64 (y.seq : Int)) hB.out.sz, hRB1.rd⟩)
          refine hK.out _ _ ⟨Lib.hid ⟨HRB'.out.ap.bv, HRB'.out.ap.bx⟩, ⟨p, fa, fb, true, fd⟩, Sx.mk_ok h1 (h2) (h3) (fun _ => rfl), rfl, by simp only [Sx.rank, if_true, if_false, Bool.false_eq_true]; omega, v66, v67, v73, v79, v85, v86, v72, v78, .slice (some ⟨wr.heap.size, 0, none⟩) 2 2, v9, ?_, HRB', Lib.hid (hRC1)⟩
          simp only [Act.put, List.setIfInBounds_toArray, List.set_cons_zero, List.set_cons_succ]
        · obtain ⟨hp0, hp1⟩ := hp
          subst hp0
          have ha := h2 (by omega)
          have hb := h3 (by omega)
          have hc := hp1
          obtain ⟨g, rfl, hg, hbx⟩ := hB.out.rc hp1
          refine state_step rfl (fun K' hK => ?_)
          try simp only [Act.put, List.getElem_toArray, List.getElem_cons_succ, List.getElem_cons_zero, List.setIfInBounds_toArray, List.set_cons_zero, List.set_cons_succ]
          go_simp
          refine (vorn_any g x.seq y.seq wr (hbx.cell 0) (hbx.cell 1)).mono ?_
          rintro e w1 ⟨rfl, rfl⟩
          have HRB' : Hid (RB w y x b base KL ⟨5, fa, fb, fc, fd⟩ (v72) (v78) (.slice (some ⟨g, 0, none⟩) 2 2) (v9) _) := Lib.hid (hB.out.at_p 5)
          refine hK.out _ _ ⟨Lib.hid ⟨HRB'.out.ap.bv, HRB'.out.ap.bx⟩, ⟨5, fa, fb, fc, fd⟩, Sx.mk_ok (by omega) (fun _ => ha) (fun _ => hb) (fun _ => hc), rfl, by simp only [Sx.rank, if_true, if_false, Bool.false_eq_true]; omega, v66, v67, v73, v79, .int .u64 (orN x.seq y.seq : Nat), v86, v72, v78, .slice (some ⟨g, 0, none⟩) 2 2, v9, ?_, HRB', Lib.hid (⟨fun h => absurd h (by show ¬ (5 = 0); omega), fun h => absurd h (by show ¬ (5 = 1); omega), fun _ => hC.out.cop (by omega), fun _ => hC.out.e73 (by omega), fun _ => hC.out.e79 (by omega), fun _ => rfl, fun h => absurd h (by show ¬ (5 = 6); omega)⟩)⟩
          simp only [Act.put, List.setIfInBounds_toArray, List.set_cons_zero, List.set_cons_succ]
        · subst hp
          have ha := h2 (by omega)
          have hb := h3 (by omega)
          have hc := h4 (by omega)
          obtain ⟨C, hCm, hac⟩ := hC.out.cop (by omega)
          obtain ⟨A7, c7, rfl, hc7, hm7, -⟩ := own_parts hac.own
          obtain rfl := hC.out.e73 (by omega)
          obtain rfl := hC.out.e79 (by omega)
          obtain rfl := hC.out.e85 (by omega)
          refine state_step rfl (fun K' hK => ?_)
          try simp only [Act.put, List.getElem_toArray, List.getElem_cons_succ, List.getElem_cons_zero, List.setIfInBounds_toArray, List.set_cons_zero, List.set_cons_succ]
          go_simp
          have HRB' : Hid (RB w y x b base KL ⟨6, fa, fb, fc, fd⟩ (v72) (v78) (v84) (v9) _) := Lib.hid (hB.out.at_p 6)
          refine hK.out _ _ ⟨Lib.hid ⟨HRB'.out.ap.bv, HRB'.out.ap.bx⟩, ⟨6, fa, fb, fc, fd⟩, Sx.mk_ok (by omega) (fun _ => ha) (fun _ => hb) (fun _ => hc), rfl, by simp only [Sx.rank, if_true, if_false, Bool.false_eq_true]; omega, v66, .slice A7 C.length c7, .int .i64 (orI x.next y.next), .int .i64 (orI x.log y.log), .int .u64 (orN x.seq y.seq : Nat), .agg #[.slice A7 C.length c7, .int .i64 (orI x.next y.next), .int .i64 (orI x.log y.log), .int .u64 (orN x.seq y.seq : Nat)], v72, v78, v84, v9, ?_, HRB', Lib.hid (⟨fun h => absurd h (by show ¬ (6 = 0); omega), fun h => absurd h (by show ¬ (6 = 1); omega), fun _ => hC.out.cop (by omega), fun _ => hC.out.e73 (by omega), fun _ => hC.out.e79 (by omega), fun _ => hC.out.e85 (by omega), fun _ => rfl⟩)⟩
          simp only [Act.put, List.setIfInBounds_toArray, List.set_cons_zero, List.set_cons_succ]
        · have hfl : fd = false := by simpa using hp
          subst hfl
          refine state_step rfl (fun K' hK => ?_)
          try simp only [Act.put, List.getElem_toArray, List.getElem_cons_succ, List.getElem_cons_zero, List.setIfInBounds_toArray, List.set_cons_zero, List.set_cons_succ]
          go_simp
          have hba := Joins.below_alloc1 wr (.cells zeroV.toArray 44)
          have hRB1 := hB.out.below hba
          have hRC1 := hC.out.below hba
          have HRB' : Hid (RB w y x b base KL ⟨p, fa, fb, fc, true⟩ (v72) (v78) (v84) (.pointer (some ⟨wr.heap.size, 0, none⟩)) _) := Lib.hid (⟨hRB1.ap, hRB1.fn, hRB1.ks, hRB1.sz, hRB1.lo, hRB1.ra, hRB1.rb, hRB1.rc, fun _ => px_new hB.out.sz⟩)
          refine hK.out _ _ ⟨Lib.hid ⟨HRB'.out.ap.bv, HRB'.out.ap.bx⟩, ⟨p, fa, fb, fc, true⟩, Sx.mk_ok h1 h2 h3 h4, rfl, by simp only [Sx.rank, if_true, if_false, Bool.false_eq_true]; omega, v66, v67, v73, v79, v85, v86, v72, v78, v84, .pointer (some ⟨wr.heap.size, 0, none⟩), ?_, HRB', Lib.hid (hRC1)⟩
          simp only [Act.put, List.setIfInBounds_toArray, List.set_cons_zero, List.set_cons_succ]
        · obtain ⟨hp0, hp1⟩ := hp
          subst hp0
          subst hp1
          simp [Sx.fin] at hf
      case hfin =>
        intro s hV hf fuel a wr hI
        obtain ⟨v66, v67, v73, v79, v85, v86, v72, v78, v84, v9, rfl, hB, hC⟩ := hI
        obtain ⟨p, fa, fb, fc, fd⟩ := s
        obtain ⟨h1, h2, h3, h4⟩ := hV
        simp only [Sx.fin, Bool.and_eq_true, decide_eq_true_eq] at hf
        obtain ⟨hp0, hp1⟩ := hf
        simp only at h1 h2 h3 h4 hB hC
        subst hp0
        subst hp1
        obtain rfl := h2 (by omega)
        obtain rfl := h3 (by omega)
        obtain rfl := h4 (by omega)
        subst ha
        obtain ⟨C, hCm, hac⟩ := hC.out.cop (by omega)
        obtain ⟨A7, c7, rfl, hc7, hm7, -⟩ := own_parts hac.own
        obtain rfl := hC.out.e73 (by omega)
        obtain rfl := hC.out.e79 (by omega)
        obtain rfl := hC.out.e85 (by omega)
        obtain rfl := hC.out.e86 rfl
        obtain ⟨g, rfl, hg, hbx⟩ := hB.out.rd rfl
        try simp only [Act.put, List.getElem_toArray, List.getElem_cons_succ, List.getElem_cons_zero, List.setIfInBounds_toArray, List.set_cons_zero, List.set_cons_succ]
        refine wpAnyX_ready (rs := [26]) (by kernel_rfl) (by simp) ?_
        refine AllReadyX.last rfl (fun K hK => ?_)
        refine vheld_store rfl _ _ _ rfl g #[.slice A7 C.length c7, .int .i64 (orI x.next y.next), .int .i64 (orI x.log y.log), .int .u64 ((orN x.seq y.seq : Nat) : Int)] rfl rfl _ zeroV.toArray hbx (by kernel_rfl) rfl (by kernel_rfl) ?_
        refine hK.out _ _ ?_
        clear hK
        try simp only [Act.put, List.getElem_toArray, List.getElem_cons_succ, List.getElem_cons_zero, List.setIfInBounds_toArray, List.set_cons_zero, List.set_cons_succ]
        refine wpAnyX_done (by kernel_rfl) ?_ _
        have hk10 := keep_setRow wr g #[.slice A7 C.length c7, .int .i64 (orI x.next y.next), .int .i64 (orI x.log y.log), .int .u64 ((orN x.seq y.seq : Nat) : Int)]
        have HZ10 : Hid (Box (wr.setRow g #[.slice A7 C.length c7, .int .i64 (orI x.next y.next), .int .i64 (orI x.log y.log), .int .u64 ((orN x.seq y.seq : Nat) : Int)]) g 44 (⟨A7, c7, C, orI x.next y.next, orI x.log y.log, orN x.seq y.seq⟩ : Y).cells) := Lib.hid (setRow_heap _ _ _ _ _ _ hbx)
        have HA10 := Lib.hid (hB.out.ap.keep hk10 fun k hk => by have := hB.out.lo; omega)
        have HOF10 : Hid (Of (wr.setRow g #[.slice A7 C.length c7, .int .i64 (orI x.next y.next), .int .i64 (orI x.log y.log), .int .u64 ((orN x.seq y.seq : Nat) : Int)]) (· < base) b x.drop) := Lib.hid (hB.out.fn.later (fun k hk => hk10.block k (Nat.lt_of_lt_of_le hk hB.out.sz) (by omega)) fun _ h => h)
        have HAC10 := Lib.hid (hac.keep hk10 (fun k hv hs => own_apart hac.own hbx (by decide) (hs ▸ hv)) fun k hf hs => fresh_ne hbx (by decide) hf hs)
        have HSZ10 : Hid (base ≤ (wr.setRow g #[.slice A7 C.length c7, .int .i64 (orI x.next y.next), .int .i64 (orI x.log y.log), .int .u64 ((orN x.seq y.seq : Nat) : Int)]).heap.size) := Lib.hid (Nat.le_trans hB.out.sz hk10.size)
        try go_wp2_with fail
        go_meet
        exact ⟨g, A7, c7, C, rfl, Lib.hid hg, HZ10, HA10, HOF10, HAC10, HSZ10, Lib.hid hCm⟩
    case rest =>
      obtain ⟨g, A7, c7, C, rfl, HGB, HZ10, HA10, HOF10, HAC10, HSZ10, HCM⟩ := hcut
      have HWN := Lib.hid (orI_wf HXW.out.1 HYW.out.1)
      have HWL := Lib.hid (orI_wf HXW.out.2.1 HYW.out.2.1)
      have HWS : Hid (orN x.seq y.seq < 18446744073709551616) := Lib.hid (by unfold orN; split; exact HYW.out.2.2; exact HXW.out.2.2)
      have HNEW : Hid ((⟨A7, c7, C, orI x.next y.next, orI x.log y.log, orN x.seq y.seq⟩ : Y).t = newV y.t x.e) := Lib.hid (by
        have e : C.map D.ru = (keptR y.t x.e).take (fromR y.t x.e) ++ (x.e.add ++ (keptR y.t x.e).drop (fromR y.t x.e)) := by
          rw [HCM.out, HN.out, ← HKR.out, ← HI.out, List.map_append, List.map_append, List.map_take, List.map_drop]
          rfl
        show V.mk (C.map D.ru) _ _ _ = V.mk ((keptR y.t x.e).take (fromR y.t x.e) ++ (x.e.add ++ (keptR y.t x.e).drop (fromR y.t x.e))) _ _ _
        rw [e]
        rfl)
      have HCL : Hid (C.length ≤ 1000) := Lib.hid (by
        have := congrArg List.length HCM.out
        rw [List.length_map, List.length_map] at this
        rw [this]
        exact HNL.out)
      clear HRB HRC HSV HSM HN HNL HNM HCM
      generalize wc = W10 at *
      obtain ⟨nx, hnx⟩ : ∃ nx, nx = orI x.next y.next := ⟨_, rfl⟩
      obtain ⟨lg, hlg⟩ : ∃ lg, lg = orI x.log y.log := ⟨_, rfl⟩
      obtain ⟨sq, hsq⟩ : ∃ sq, sq = orN x.seq y.seq := ⟨_, rfl⟩
      have hT := HT2.out
      change applyV y.t x.e = if (y.t.runs.drop (fromR y.t x.e + x.e.drop.length)).any (gone x.e) = true ∨ (orI x.next y.next < y.next ∨ orI x.log y.log < y.log ∨ orN x.seq y.seq < y.seq) ∨ rightV (newV y.t x.e) = false then (10, noV) else (0, newV y.t x.e) at hT
      rw [← hnx] at hT HZ10 HWN HNEW
      rw [← hlg] at hT HZ10 HWL HNEW
      rw [← hsq] at hT HZ10 HWS HNEW
      have HT3 := Lib.hid hT
      have bnx := i64_of HWN.out
      have blg := i64_of HWL.out
      have bsq := HWS.out
      clear hT HT2 hnx hlg hsq
      obtain ⟨k, hk⟩ : ∃ k, k = i + x.drop.length := ⟨_, rfl⟩
      have HKK := Lib.hid hk
      have hw1 : IntKind.i64.wrap ((i : Int) + (x.drop.length : Int)) = (k : Int) := by rw [IntKind.wrap_i64]; omega
      have hkl : k ≤ y.runs.length := by rw [hk]; exact HF1.out
      have hkl2 : (k : Int) ≤ (y.runs.length : Int) := by omega
      have HR10 := Lib.hid (vany_any (y.a.map fun a => a.add (k * 6)) (y.c - k) w.heap.size (y.runs.drop k) b x.drop W10 (Runs.cut HA10.out.oy.runs k hkl) HA10.out.be.size (HOF10.out.later (fun _ _ => rfl) fun j hj => Nat.lt_of_lt_of_le hj HSZ10.out) (by omega))
      have HR10' : y.runs.length ≤ k → Hid _ := fun hyk => Lib.hid (vany_any y.a 0 w.heap.size (y.runs.drop k) b x.drop W10 (Runs.none_cut HA10.out.oy.runs hyk) HA10.out.be.size (HOF10.out.later (fun _ _ => rfl) fun j hj => Nat.lt_of_lt_of_le hj HSZ10.out) (by omega))
      obtain ⟨b13, hb13⟩ : ∃ b13, b13 = (y.runs.drop k).any fun d => decide (d.file ∈ x.drop) := ⟨_, rfl⟩
      rw [List.length_drop, ← hb13] at HR10
      rw [List.length_drop, ← hb13] at HR10'
      have HB13 : Hid (b13 = (y.t.runs.drop (fromR y.t x.e + x.e.drop.length)).any (gone x.e)) := Lib.hid (by
        rw [hb13, hk, HI.out]
        show _ = ((y.runs.map D.ru).drop _).any _
        rw [← List.map_drop, List.any_map]
        rfl)
      have hylc : y.runs.length ≤ y.c := HA10.out.oy.runs.len
      have hycm : y.c ≤ 9223372036854775807 := by have := HA10.out.oy.runs.cap; unfold maxLen at this; omega
      clear hk hb13
      obtain ⟨k0, k1, k2, k3, k4⟩ := edit_cells HA10.out
      obtain ⟨q0, q1, q2, q3⟩ := Ve.look HA10.out.bv
      go_upto_region 13 with fail
      go_cut [10] (fun v wx => v = .bool (!b13) ∧ Below W10.heap.size W10 wx)
      case first =>
        by_cases hcc : y.c = k
        · have HYK : Hid (y.runs.length ≤ k) := Lib.hid (by omega)
          go_wp2_with fail
          refine (HR10' HYK.out).out.mono ?_
          rintro e W11 ⟨rfl, hb11⟩
          have H11 := Lib.hid hb11
          clear hb11
          go_wp2_with fail
          go_meet
          exact ⟨rfl, H11.out⟩
        · go_wp2_with fail
          refine HR10.out.mono ?_
          rintro e W11 ⟨rfl, hb11⟩
          have H11 := Lib.hid hb11
          clear hb11
          go_wp2_with fail
          go_meet
          exact ⟨rfl, H11.out⟩
      case rest =>
        obtain ⟨rfl, hb11⟩ := hcut
        have HA11 := Lib.hid (HA10.out.below hb11)
        have HZ11 := Lib.hid (HZ10.out.below hb11 HZ10.out.lt)
        have HAC11 := Lib.hid (HAC10.out.below hb11)
        clear hb11 HR10 HR10' HA10 HZ10 HAC10 HOF10 HSZ10 k0 k1 k2 k3 k4 q0 q1 q2 q3 hw1 hkl hkl2 hylc hycm HKK
        generalize wc = W11 at *
        obtain ⟨q0, q1, q2, q3⟩ := Ve.look HA11.out.bv
        obtain ⟨z0, z1, z2, z3⟩ := Ve.look HZ11.out
        simp only at z0 z1 z2 z3
        obtain ⟨c1, hc1⟩ : ∃ c1, c1 = decide (nx < y.next) := ⟨_, rfl⟩
        obtain ⟨c2, hc2⟩ : ∃ c2, c2 = decide (lg < y.log) := ⟨_, rfl⟩
        obtain ⟨c3, hc3⟩ : ∃ c3, c3 = decide (sq < y.seq) := ⟨_, rfl⟩
        have t1 := hc1.symm
        have t2 := hc2.symm
        have t3 := hc3.symm
        have t3' : decide ((sq : Int) < (y.seq : Int)) = c3 := by rw [hc3, decide_eq_decide]; omega
        have HC1 := Lib.hid hc1
        have HC2 := Lib.hid hc2
        have HC3 := Lib.hid hc3
        clear hc1 hc2 hc3
        have HRZ := Lib.hid (vright_any (⟨A7, c7, C, nx, lg, sq⟩ : Y) W11.heap.size W11 (zok_of HAC11.out HWN.out HWL.out HWS.out) (Nat.le_refl _))
        obtain ⟨b14, hb14⟩ : ∃ b14, b14 = rightV (⟨A7, c7, C, nx, lg, sq⟩ : Y).t := ⟨_, rfl⟩
        rw [← hb14] at HRZ
        rw [HNEW.out] at hb14
        have HB14 := Lib.hid hb14
        clear hb14
        go_upto_region 14 with fail
        go_cut [125] (fun v wx => v = .bool (b13 || (c1 || (c2 || (c3 || !b14)))) ∧ Below W11.heap.size W11 wx)
        case first =>
          clear HT3 HB13 HC1 HC2 HC3 HB14 HNEW HWN HWL HWS HA11 HZ11 HAC11
          rcases b13 with _ | _
          rotate_left
          · go_wp2_with fail
            go_meet
            exact ⟨rfl, Below.refl _ _⟩
          rcases c1 with _ | _
          rotate_left
          · go_wp2_with fail
            go_meet
            exact ⟨rfl, Below.refl _ _⟩
          rcases c2 with _ | _
          rotate_left
          · go_wp2_with fail
            go_meet
            exact ⟨rfl, Below.refl _ _⟩
          rcases c3 with _ | _
          rotate_left
          · go_wp2_with fail
            go_meet
            exact ⟨rfl, Below.refl _ _⟩
          go_wp2_with fail
          refine HRZ.out.mono ?_
          rintro e W12 ⟨rfl, hb12⟩
          have H12 := Lib.hid hb12
          clear hb12
          go_wp2_with fail
          go_meet
          exact ⟨rfl, H12.out⟩
        case rest =>
          obtain ⟨rfl, hb12⟩ := hcut
          have HA12 := Lib.hid (HA11.out.below hb12)
          have HZ12 := Lib.hid (HZ11.out.below hb12 HZ11.out.lt)
          have HAC12 := Lib.hid (HAC11.out.below hb12)
          clear hb12 HRZ HA11 HZ11 HAC11 q0 q1 q2 q3 z0 z1 z2 z3 t1 t2 t3 t3'
          rcases hbb : (b13 || (c1 || (c2 || (c3 || !b14)))) with _ | _
          · have HT4 : Hid (applyV y.t x.e = (0, newV y.t x.e)) := Lib.hid (by
              rw [HT3.out, if_neg]
              simp only [Bool.or_eq_false_iff] at hbb
              obtain ⟨g0, g1, g2, g3, g4⟩ := hbb
              rw [HB13.out] at g0
              rw [HC1.out] at g1
              rw [HC2.out] at g2
              rw [HC3.out] at g3
              rintro (h | (h | h | h) | h)
              · rw [g0] at h; cases h
              · exact absurd h (of_decide_eq_false g1)
              · exact absurd h (of_decide_eq_false g2)
              · exact absurd h (of_decide_eq_false g3)
              · rw [← HB14.out] at h
                rw [h] at g4
                cases g4)
            have HR12 := Lib.hid HA12.out.res
            clear hbb
            go_upto_region 16 with fail
            go_step
            refine wpList_load_row rfl _ _ rfl g rfl _ #[.slice A7 C.length c7, .int .i64 nx, .int .i64 lg, .int .u64 (sq : Int)] (0, 0) _ HZ12.out Try.underlying44 rfl (by kernel_rfl) ?_
            refine wpList_store_row rfl _ _ _ rfl (w.heap.size + 1 + 1) #[.slice A7 C.length c7, .int .i64 nx, .int .i64 lg, .int .u64 (sq : Int)] rfl rfl _ zeroV.toArray HR12.out (by kernel_rfl) rfl (by kernel_rfl) ?_
            repeat go_step
            have hrz : Box (wc.setRow (w.heap.size + 1 + 1) #[.slice A7 C.length c7, .int .i64 nx, .int .i64 lg, .int .u64 (sq : Int)]) (w.heap.size + 1 + 1) 44 (⟨A7, c7, C, nx, lg, sq⟩ : Y).cells := setRow_heap _ _ _ _ _ _ HR12.out
            refine bodyPost_ret (results_box rfl Try.underlying44 (by kernel_rfl) _ rfl hrz) rfl ?_
            have hk12 := keep_setRow wc (w.heap.size + 1 + 1) #[.slice A7 C.length c7, .int .i64 nx, .int .i64 lg, .int .u64 (sq : Int)]
            rw [HT4.out]
            exact ⟨(⟨A7, c7, C, nx, lg, sq⟩ : Y), rfl, HNEW.out, zok_of (HAC12.out.low hk12 fun j hj => by have := HLO.out; omega) HWN.out HWL.out HWS.out, HA12.out.be.trans (hk12.below HA12.out.be.size fun j hj => by omega)⟩
          · have HT4 : Hid (applyV y.t x.e = (10, noV)) := Lib.hid (by
              rw [HT3.out, if_pos]
              simp only [Bool.or_eq_true] at hbb
              rcases hbb with h | h | h | h | h
              · exact .inl (by rw [← HB13.out]; exact h)
              · exact .inr (.inl (.inl (of_decide_eq_true (HC1.out.symm.trans h))))
              · exact .inr (.inl (.inr (.inl (of_decide_eq_true (HC2.out.symm.trans h)))))
              · exact .inr (.inl (.inr (.inr (of_decide_eq_true (HC3.out.symm.trans h)))))
              · refine .inr (.inr ?_)
                rw [← HB14.out]
                simpa using h)
            clear hbb
            have HZ := Lib.hid HA12.out.res
            go_upto_region 15 with fail
            go_step
            go_step
            go_step
            go_step
            refine wpList_store_row rfl _ _ _ rfl (w.heap.size + 1 + 1) #[.slice none 0 0, .int .i64 0, .int .i64 0, .int .u64 0] rfl rfl _ zeroV.toArray HZ.out (by kernel_rfl) rfl (by kernel_rfl) ?_
            repeat go_step
            have hrz : Box (wc.setRow (w.heap.size + 1 + 1) #[.slice none 0 0, .int .i64 0, .int .i64 0, .int .u64 0]) (w.heap.size + 1 + 1) 44 zeroV := setRow_heap _ _ _ _ _ _ HZ.out
            refine bodyPost_ret (results_box rfl Try.underlying44 (by kernel_rfl) _ rfl hrz) rfl ?_
            exact told_none HA12.out HT4.out _
end Go.Proofs.Ythhmjjmjicmhdaa.Ve
