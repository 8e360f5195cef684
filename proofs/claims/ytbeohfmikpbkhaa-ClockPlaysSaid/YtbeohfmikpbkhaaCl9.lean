/- The document's cache: List. -/
import Derived.Test.YtbeohfmikpbkhaaCl8
namespace Go.Proofs.Ytbeohfmikpbkhaa.Ck
set_option linter.unusedVariables false
set_option linter.unusedSimpArgs false
open Go.RowKit Lift Ik
/-- Pairs of ints as they lie. -/
def pairs (l : List (Int × Int)) : List Value := l.flatMap fun p => [.int .i64 p.1, .int .i64 p.2]
theorem pairs_append (l m : List (Int × Int)) : pairs (l ++ m) = pairs l ++ pairs m := by simp [pairs]
section
variable {w w' : World} {g room : Nat} {Z : Nat → Prop}
/-- One pair onto a slice of the call's own. -/
theorem append_pair {w : World} {base n : Nat} {v : Value} {xs : List Value} (x y : Int) (hown : w.ownsRow base 51 2 v n xs) (hn : n ≤ 100000) (hbase : base ≤ w.heap.size) :
    ∃ A c w', Sem.run Try.prog (Builtin.append_ #[62, 62] 62 #[v, .slice (some ⟨w.heap.size, 0, none⟩) 1 1]) (w.alloc (.cells #[.int .i64 x, .int .i64 y] 51)) = .ok (.slice A (n + 1) c) w' ∧ w'.ownsRow base 51 2 (.slice A (n + 1) c) (n + 1) (xs ++ [.int .i64 x, .int .i64 y]) ∧ Below base w w' := by
  have hb := Joins.below_alloc1 w (.cells #[.int .i64 x, .int .i64 y] 51)
  have hl : Lies (w.alloc (.cells #[.int .i64 x, .int .i64 y] 51)) (w.heap.size + 1) (some ⟨w.heap.size, 0, none⟩) [.int .i64 x, .int .i64 y] :=
    lies_block (cs := #[.int .i64 x, .int .i64 y]) (heap_alloc_new w _) (Nat.lt_succ_self _)
  obtain ⟨v', w', h1, h2, h3, _⟩ := run_append_lies (P := Try.prog) (m := 1) (c := 1) 62 62 51 (.agg #[.int .i64 0, .int .i64 0]) 2 16 Try.underlying62 (by kernel_rfl) rfl (by decide)
    (fun u hu => by simp at hu; rcases hu with rfl | rfl <;> rfl) (own_later hown hb) hl rfl (by unfold maxLen; omega) (by omega) (Nat.le_trans hbase hb.size)
  obtain ⟨A, c, rfl, -, -, -⟩ := own_parts h2
  exact ⟨A, c, w', h1, h2, (hb.mono hbase).trans h3⟩
set_option maxRecDepth 100000 in
set_option maxHeartbeats 1600000 in
theorem rlist_any {r : R} (h : RC w g Z room r) :
    Calls Try.prog (32) #[.pointer (some ⟨g, 0, none⟩)] w fun e w' => ∃ A c, e = .returned (.slice A r.1.length c) ∧ w'.ownsRow w.heap.size 51 2 (.slice A r.1.length c) r.1.length (pairs (ids r.1)) ∧ Below w.heap.size w w' := by
  obtain ⟨L, A, c, hl, he⟩ := h
  obtain ⟨f0, f1, f2⟩ := hl.facts
  have hmany := hl.many
  have HE := Lib.hid he
  have HL := Lib.hid hl
  clear hl he
  go_enter (Try.func32), (Try.ntmps32)
  go_wp2_with fail
  go_loopw [3, 4] (fun s i wr => ∃ (j : Nat) (B : Option Addr) (d : Nat), j ≤ L.length ∧ s = .slice B j d ∧ i = .int .i64 (j : Int) ∧ Hid (Below w.heap.size w wr) ∧ Hid (wr.ownsRow w.heap.size 51 2 (.slice B j d) j (pairs (ids (L.map (·.s)) |>.take j)))) (fun _ i _ => L.length + 1 - (intOf i).toNat)
  case atStart => exact ⟨0, none, 0, Nat.zero_le _, rfl, rfl, Lib.hid (Below.refl _ _), Lib.hid (World.ownsRow_nil _ _ _ _)⟩
  case round =>
    obtain ⟨j, B, n0, hj, rfl, rfl, hb, ho⟩ := hrel
    have HLR := Lib.hid (HL.out.same (w' := wr) (fun k hk => hb.out.block k (HL.out.lt k hk)) hb.out.size)
    have f1 := HLR.out.facts.2.1
    by_cases hlt : j < L.length
    · obtain ⟨d, hd⟩ : ∃ d, L[j]? = some d := ⟨_, List.getElem?_eq_getElem hlt⟩
      obtain ⟨b, hA, -⟩ := HLR.out.place hd
      subst hA
      have HD := Lib.hid hd
      clear hd
      go_upto_region 5 with fail
      refine wp_region_held_drew (S := fun w' => Hid (Below w.heap.size w w')) (by kernel_rfl) (Lib.hid hb.out.drew) (fun hS => ?_)

      refine wpAnyH_take (i := 0) (v := ?_) rfl (by kernel_rfl) (by kernel_rfl) (by kernel_rfl) (fun _ _ _ h => h) (Or.inl ⟨by rfl, ?_⟩) hS ?_
      rotate_left
      · intro v hw
        go_simp
        try with_reducible rfl
      try simp only [Act.put, List.getElem_toArray, List.getElem_cons_succ, List.getElem_cons_zero, List.setIfInBounds_toArray, List.set_cons_zero, List.set_cons_succ]

      refine wpAnyH_take (i := 1) (v := ?_) rfl (by kernel_rfl) (by kernel_rfl) (by kernel_rfl) (fun _ _ _ h => h) (Or.inl ⟨by rfl, ?_⟩) hS ?_
      rotate_left
      · intro v hw
        go_simp
        try with_reducible rfl
      try simp only [Act.put, List.getElem_toArray, List.getElem_cons_succ, List.getElem_cons_zero, List.setIfInBounds_toArray, List.set_cons_zero, List.set_cons_succ]

      refine wpAnyH_take (i := 2) (v := ?_) rfl (by kernel_rfl) (by kernel_rfl) (by kernel_rfl) (fun _ _ _ h => h) (Or.inl ⟨by rfl, ?_⟩) hS ?_
      rotate_left
      · intro v hw
        go_simp
        try with_reducible rfl
      try simp only [Act.put, List.getElem_toArray, List.getElem_cons_succ, List.getElem_cons_zero, List.setIfInBounds_toArray, List.set_cons_zero, List.set_cons_succ]

      refine wpAnyH_take (i := 3) (v := ?_) rfl (by kernel_rfl) (by kernel_rfl) (by kernel_rfl) (fun _ _ _ h => h) (Or.inl ⟨by rfl, ?_⟩) hS ?_
      rotate_left
      · intro v hw
        go_simp
        try with_reducible rfl
      try simp only [Act.put, List.getElem_toArray, List.getElem_cons_succ, List.getElem_cons_zero, List.setIfInBounds_toArray, List.set_cons_zero, List.set_cons_succ]

      refine wpAnyH_take (i := 4) (v := ?_) rfl (by kernel_rfl) (by kernel_rfl) (by kernel_rfl) (fun _ _ _ h => h) (Or.inl ⟨by rfl, ?_⟩) hS ?_
      rotate_left
      · intro v hw
        have hlw := HL.out.same (w' := v) (fun k hk => hw.out.block k (HL.out.lt k hk)) hw.out.size
        have b1 := hlw.facts.2.1
        clear hlw
        go_simp
        try with_reducible rfl
      try simp only [Act.put, List.getElem_toArray, List.getElem_cons_succ, List.getElem_cons_zero, List.setIfInBounds_toArray, List.set_cons_zero, List.set_cons_succ]

      refine wpAnyH_take (i := 5) (v := ?_) rfl (by kernel_rfl) (by kernel_rfl) (by kernel_rfl) (fun _ _ _ h => h) (Or.inl ⟨by rfl, ?_⟩) hS ?_
      rotate_left
      · intro v hw
        go_simp
        try with_reducible rfl
      try simp only [Act.put, List.getElem_toArray, List.getElem_cons_succ, List.getElem_cons_zero, List.setIfInBounds_toArray, List.set_cons_zero, List.set_cons_succ]

      refine wpAnyH_take (i := 6) (v := ?_) rfl (by kernel_rfl) (by kernel_rfl) (by kernel_rfl) (fun _ _ _ h => h) (Or.inl ⟨by rfl, ?_⟩) hS ?_
      rotate_left
      · intro v hw
        go_simp
        try with_reducible rfl
      try simp only [Act.put, List.getElem_toArray, List.getElem_cons_succ, List.getElem_cons_zero, List.setIfInBounds_toArray, List.set_cons_zero, List.set_cons_succ]

      refine wpAnyH_take (i := 7) (v := ?_) rfl (by kernel_rfl) (by kernel_rfl) (by kernel_rfl) (fun _ _ _ h => h) (Or.inl ⟨by rfl, ?_⟩) hS ?_
      rotate_left
      · intro v hw
        go_simp
        try with_reducible rfl
      try simp only [Act.put, List.getElem_toArray, List.getElem_cons_succ, List.getElem_cons_zero, List.setIfInBounds_toArray, List.set_cons_zero, List.set_cons_succ]

      refine wpAnyH_take (i := 8) (v := ?_) rfl (by kernel_rfl) (by kernel_rfl) (by kernel_rfl) (fun _ _ _ h => h) (Or.inl ⟨by rfl, ?_⟩) hS ?_
      rotate_left
      · intro v hw
        obtain ⟨b9, hA9, q0, q1, -⟩ := (HL.out.same (w' := v) (fun k hk => hw.out.block k (HL.out.lt k hk)) hw.out.size).place HD.out
        injection hA9 with hA9
        injection hA9 with hA9
        subst hA9
        go_simp
        try with_reducible rfl
      try simp only [Act.put, List.getElem_toArray, List.getElem_cons_succ, List.getElem_cons_zero, List.setIfInBounds_toArray, List.set_cons_zero, List.set_cons_succ]

      refine wpAnyH_take (i := 9) (v := ?_) rfl (by kernel_rfl) (by kernel_rfl) (by kernel_rfl) (fun _ _ _ h => h) (Or.inl ⟨by rfl, ?_⟩) hS ?_
      rotate_left
      · intro v hw
        go_simp
        try with_reducible rfl
      try simp only [Act.put, List.getElem_toArray, List.getElem_cons_succ, List.getElem_cons_zero, List.setIfInBounds_toArray, List.set_cons_zero, List.set_cons_succ]

      refine wpAnyH_take (i := 10) (v := ?_) rfl (by kernel_rfl) (by kernel_rfl) (by kernel_rfl) (fun _ _ _ h => h) (Or.inl ⟨by rfl, ?_⟩) hS ?_
      rotate_left
      · intro v hw
        go_simp
        try with_reducible rfl
      try simp only [Act.put, List.getElem_toArray, List.getElem_cons_succ, List.getElem_cons_zero, List.setIfInBounds_toArray, List.set_cons_zero, List.set_cons_succ]

      refine wpAnyH_take (i := 11) (v := ?_) rfl (by kernel_rfl) (by kernel_rfl) (by kernel_rfl) (fun _ _ _ h => h) (Or.inl ⟨by rfl, ?_⟩) hS ?_
      rotate_left
      · intro v hw
        go_simp
        try with_reducible rfl
      try simp only [Act.put, List.getElem_toArray, List.getElem_cons_succ, List.getElem_cons_zero, List.setIfInBounds_toArray, List.set_cons_zero, List.set_cons_succ]

      refine wpAnyH_take (i := 12) (v := ?_) rfl (by kernel_rfl) (by kernel_rfl) (by kernel_rfl) (fun _ _ _ h => h) (Or.inl ⟨by rfl, ?_⟩) hS ?_
      rotate_left
      · intro v hw
        have hlw := HL.out.same (w' := v) (fun k hk => hw.out.block k (HL.out.lt k hk)) hw.out.size
        have b1 := hlw.facts.2.1
        clear hlw
        go_simp
        try with_reducible rfl
      try simp only [Act.put, List.getElem_toArray, List.getElem_cons_succ, List.getElem_cons_zero, List.setIfInBounds_toArray, List.set_cons_zero, List.set_cons_succ]

      refine wpAnyH_take (i := 13) (v := ?_) rfl (by kernel_rfl) (by kernel_rfl) (by kernel_rfl) (fun _ _ _ h => h) (Or.inl ⟨by rfl, ?_⟩) hS ?_
      rotate_left
      · intro v hw
        go_simp
        try with_reducible rfl
      try simp only [Act.put, List.getElem_toArray, List.getElem_cons_succ, List.getElem_cons_zero, List.setIfInBounds_toArray, List.set_cons_zero, List.set_cons_succ]

      refine wpAnyH_take (i := 14) (v := ?_) rfl (by kernel_rfl) (by kernel_rfl) (by kernel_rfl) (fun _ _ _ h => h) (Or.inl ⟨by rfl, ?_⟩) hS ?_
      rotate_left
      · intro v hw
        go_simp
        try with_reducible rfl
      try simp only [Act.put, List.getElem_toArray, List.getElem_cons_succ, List.getElem_cons_zero, List.setIfInBounds_toArray, List.set_cons_zero, List.set_cons_succ]

      refine wpAnyH_take (i := 15) (v := ?_) rfl (by kernel_rfl) (by kernel_rfl) (by kernel_rfl) (fun _ _ _ h => h) (Or.inl ⟨by rfl, ?_⟩) hS ?_
      rotate_left
      · intro v hw
        go_simp
        try with_reducible rfl
      try simp only [Act.put, List.getElem_toArray, List.getElem_cons_succ, List.getElem_cons_zero, List.setIfInBounds_toArray, List.set_cons_zero, List.set_cons_succ]

      refine wpAnyH_take (i := 16) (v := ?_) rfl (by kernel_rfl) (by kernel_rfl) (by kernel_rfl) (fun _ _ _ h => h) (Or.inl ⟨by rfl, ?_⟩) hS ?_
      rotate_left
      · intro v hw
        obtain ⟨b9, hA9, q0, q1, -⟩ := (HL.out.same (w' := v) (fun k hk => hw.out.block k (HL.out.lt k hk)) hw.out.size).place HD.out
        injection hA9 with hA9
        injection hA9 with hA9
        subst hA9
        go_simp
        try with_reducible rfl
      try simp only [Act.put, List.getElem_toArray, List.getElem_cons_succ, List.getElem_cons_zero, List.setIfInBounds_toArray, List.set_cons_zero, List.set_cons_succ]

      refine wpAnyH_take (i := 17) (v := ?_) rfl (by kernel_rfl) (by kernel_rfl) (by kernel_rfl) (fun _ _ _ h => h) (Or.inl ⟨by rfl, ?_⟩) hS ?_
      rotate_left
      · intro v hw
        go_simp
        try with_reducible rfl
      try simp only [Act.put, List.getElem_toArray, List.getElem_cons_succ, List.getElem_cons_zero, List.setIfInBounds_toArray, List.set_cons_zero, List.set_cons_succ]
      have HB7 : Hid (Below wr.heap.size wr wr.drew) := Lib.hid (Below.refl _ _).drew
      generalize wr.drew = W7 at hS HB7 ⊢
      have HW7 := Lib.hid (hb.out.trans (HB7.out.mono hb.out.size))
      have ho7 := own_later ho.out HB7.out
      obtain ⟨A2, c2, W2, hr2, ho2, hb2⟩ := append_pair d.s.file d.s.off ho7 (by omega) HW7.out.size
      have HR2 := Lib.hid hr2
      have HO2 := Lib.hid ho2
      have HB2 := Lib.hid (HW7.out.trans hb2)
      have HAL : Hid (Below w.heap.size w (W7.alloc (.cells #[.int .i64 d.s.file, .int .i64 d.s.off] 51))) := Lib.hid (HW7.out.trans ((Joins.below_alloc1 W7 _).mono HW7.out.size))
      clear ho7 hr2 ho2 hb2
      refine wpAnyH_ready (rs := [18]) (by kernel_rfl) (by simp) ?_
      refine AllReadyH.cons rfl (fun K hK => ?_) AllReadyH.nil
      go_simp
      refine hK.out _ _ HAL (fun hS => ?_)
      clear hK K
      try simp only [Act.put, List.getElem_toArray, List.getElem_cons_succ, List.getElem_cons_zero, List.setIfInBounds_toArray, List.set_cons_zero, List.set_cons_succ]
      refine wpAnyH_ready (rs := [19]) (by kernel_rfl) (by simp) ?_
      refine AllReadyH.cons rfl (fun K hK => ?_) AllReadyH.nil
      refine held_append rfl _ _ 62 rfl rfl rfl HR2.out ?_
      refine hK.out _ _ HB2 (fun hS => ?_)
      clear hK K
      try simp only [Act.put, List.getElem_toArray, List.getElem_cons_succ, List.getElem_cons_zero, List.setIfInBounds_toArray, List.set_cons_zero, List.set_cons_succ]
      refine wpAnyH_take (i := 20) (v := ?_) rfl (by kernel_rfl) (by kernel_rfl) (by kernel_rfl) (fun _ _ _ h => h) (Or.inl ⟨by rfl, ?_⟩) hS ?_
      rotate_left
      · intro v hw
        go_simp
        try with_reducible rfl
      try simp only [Act.put, List.getElem_toArray, List.getElem_cons_succ, List.getElem_cons_zero, List.setIfInBounds_toArray, List.set_cons_zero, List.set_cons_succ]
      refine wpAnyH_done (by kernel_rfl) ?_ _
      go_wp2_with fail
      go_roundw
      case rel => exact ⟨j + 1, A2, c2, by omega, by go_num, by go_num, HB2, Lib.hid (by
        have e : (ids (L.map (·.s))).take (j + 1) = (ids (L.map (·.s))).take j ++ [(d.s.file, d.s.off)] := by
          rw [List.take_add_one]
          congr 1
          unfold ids
          rw [List.getElem?_map, List.getElem?_map, HD.out]; rfl
        rw [e, pairs_append]
        exact HO2.out)⟩
      case measure => simp [intOf]; omega
    · obtain rfl : j = L.length := by omega
      go_wp2_with fail
      go_ret
      have e : r.1.length = L.length := by rw [← HE.out, List.length_map]
      have e2 : (ids (L.map (·.s))).take L.length = ids r.1 := by
        rw [← HE.out]
        refine List.take_of_length_le ?_
        unfold ids
        rw [List.length_map, List.length_map]; exact Nat.le_refl _
      have ho := ho.out
      rw [e2] at ho
      rw [e]
      exact ⟨B, n0, rfl, ho, hb.out⟩
end
end Go.Proofs.Ytbeohfmikpbkhaa.Ck
