/- The document's cache: a slot goes (out). -/
import Derived.Test.YtbeohfmikpbkhaaCl6
import Derived.Deep.DeepCutAuto
namespace Go.Proofs.Ytbeohfmikpbkhaa.Ck
set_option linter.unusedVariables false
set_option linter.unusedSimpArgs false
open Go.RowKit Lift Ik
section
variable {w w' : World} {g room : Nat} {Z : Nat → Prop}
theorem map_erase (L : List D) (i : Nat) : (L.eraseIdx i).map (·.s) = (L.map (·.s)).eraseIdx i := by
  induction L generalizing i with
  | nil => simp
  | cons d L ih => cases i with
    | zero => rfl
    | succ i => simp [ih]
set_option maxRecDepth 100000 in
set_option maxHeartbeats 1600000 in
theorem rout_any {r : R} {i : Nat} (h : RC w g Z room r) (hi : i < r.1.length) :
    Calls Try.prog (28) #[.pointer (some ⟨g, 0, none⟩), .int .i64 (i : Int)] w fun e w' => e = .returned (.tuple #[]) ∧ CWent w g Z room (out r i) w' := by
  obtain ⟨L, A, c, hl, he⟩ := h
  obtain ⟨hand, hhand⟩ : ∃ hand, hand = r.2 := ⟨_, rfl⟩
  rw [← hhand] at hl
  have hmany := hl.many
  have hat := hl.at_
  have hiL : i < L.length := by rw [← he, List.length_map] at hi; exact hi
  have hcc : L.length ≤ c ∧ c ≤ maxLen := by
    obtain ⟨_, _, hv, h1, h2, _⟩ := own_parts hl.own
    injection hv with _ _ hv
    subst hv
    exact ⟨h1, h2⟩
  obtain ⟨A2, hA2, hs2⟩ := drop_at5 A L.length c (i + 1) (by omega) hcc.1 hcc.2
  have hs1 := upto_at5 A L.length c i (by omega) hcc.1 hcc.2
  have hpc : ((i + 1 : Nat) : Int) = (i : Int) + 1 := by omega
  rw [hpc] at hs2
  have hwr : IntKind.i64.wrap ((i : Int) + 1) = (i : Int) + 1 := by rw [IntKind.wrap_i64]; omega
  obtain ⟨A1, c1, V1, A4, c4, V4, hr1, hr4, ho4, hb1, hb4⟩ := cut_rows (c := c) (c2 := c - (i + 1)) (V := w.drew) hiL hmany (Lies.of_own hl.own) (fun h0 => hA2 h0) (Below.refl _ _).drew
  have hlen : (L.eraseIdx i).length = L.length - 1 := by rw [List.length_eraseIdx, if_pos hiL]
  have hnew := hl.renew hb4 ho4 hlen.symm (by omega) (fun d hd => (hl.ok d (List.mem_of_mem_eraseIdx hd)).later (fun k hk => hb4.block k (hl.lt k hk.1)) fun k hk => .inl ⟨hk.1, hk.2.1⟩)
  have hbx4 := hl.box.below hb4 (hl.lt g hl.sg)
  have HL := Lib.hid hl
  have HR1 := Lib.hid hr1
  have HR4 := Lib.hid hr4
  have HB1 := Lib.hid hb1
  have HB4 := Lib.hid hb4
  have HN := Lib.hid hnew
  have HX4 := Lib.hid hbx4
  have HE := Lib.hid he
  have HHA := Lib.hid hhand
  obtain ⟨n1, hn1⟩ : ∃ n1, n1 = L.length - 1 := ⟨_, rfl⟩
  rw [← hn1] at HR4 HN
  have HN1 := Lib.hid hn1
  have hn1b : n1 ≤ 1000 := by omega
  have HLEN := Lib.hid hlen
  have HI := Lib.hid hiL
  clear hl he hhand hr1 hr4 ho4 hb1 hb4 hnew hbx4 hA2 hlen hn1
  go_enter (Try.func28), (Try.ntmps28)
  go_wp2_with fail
  refine wp_region_last (S := fun w' => Hid (Below w.heap.size w w')) 18 (by kernel_rfl) (Lib.hid (Below.refl _ _).drew) (fun hS => ?_)
  refine wpAnyX_take (i := 0) (v := ?_) rfl (by kernel_rfl) (by kernel_rfl) (by kernel_rfl) (by kernel_rfl) (fun _ _ _ h => h) (Or.inl ⟨by rfl, ?_⟩) hS ?_
  rotate_left
  · intro w hw
    go_simp
    try with_reducible rfl
  try simp only [Act.put, List.getElem_toArray, List.getElem_cons_succ, List.getElem_cons_zero, List.setIfInBounds_toArray, List.set_cons_zero, List.set_cons_succ]
  refine wpAnyX_take (i := 1) (v := ?_) rfl (by kernel_rfl) (by kernel_rfl) (by kernel_rfl) (by kernel_rfl) (fun _ _ _ h => h) (Or.inl ⟨by rfl, ?_⟩) hS ?_
  rotate_left
  · intro w hw
    go_simp
    try with_reducible rfl
  try simp only [Act.put, List.getElem_toArray, List.getElem_cons_succ, List.getElem_cons_zero, List.setIfInBounds_toArray, List.set_cons_zero, List.set_cons_succ]
  refine wpAnyX_take (i := 2) (v := ?_) rfl (by kernel_rfl) (by kernel_rfl) (by kernel_rfl) (by kernel_rfl) (fun _ _ _ h => h) (Or.inl ⟨by rfl, ?_⟩) hS ?_
  rotate_left
  · intro w hw
    go_simp
    try with_reducible rfl
  try simp only [Act.put, List.getElem_toArray, List.getElem_cons_succ, List.getElem_cons_zero, List.setIfInBounds_toArray, List.set_cons_zero, List.set_cons_succ]
  refine wpAnyX_take (i := 3) (v := ?_) rfl (by kernel_rfl) (by kernel_rfl) (by kernel_rfl) (by kernel_rfl) (fun _ _ _ h => h) (Or.inl ⟨by rfl, ?_⟩) hS ?_
  rotate_left
  · intro w hw
    go_simp
    try with_reducible rfl
  try simp only [Act.put, List.getElem_toArray, List.getElem_cons_succ, List.getElem_cons_zero, List.setIfInBounds_toArray, List.set_cons_zero, List.set_cons_succ]
  refine wpAnyX_take (i := 4) (v := ?_) rfl (by kernel_rfl) (by kernel_rfl) (by kernel_rfl) (by kernel_rfl) (fun _ _ _ h => h) (Or.inl ⟨by rfl, ?_⟩) hS ?_
  rotate_left
  · intro w hw
    have hbx := HL.out.box.below hw.out (HL.out.lt g HL.out.sg)
    have b0 := hbx.cell 1
    simp only [List.getElem?_cons_succ, List.getElem?_cons_zero] at b0
    clear hbx
    go_simp
    try with_reducible rfl
  try simp only [Act.put, List.getElem_toArray, List.getElem_cons_succ, List.getElem_cons_zero, List.setIfInBounds_toArray, List.set_cons_zero, List.set_cons_succ]
  refine wpAnyX_take (i := 5) (v := ?_) rfl (by kernel_rfl) (by kernel_rfl) (by kernel_rfl) (by kernel_rfl) (fun _ _ _ h => h) (Or.inl ⟨by rfl, ?_⟩) hS ?_
  rotate_left
  · intro w hw
    go_simp
    try with_reducible rfl
  try simp only [Act.put, List.getElem_toArray, List.getElem_cons_succ, List.getElem_cons_zero, List.setIfInBounds_toArray, List.set_cons_zero, List.set_cons_succ]
  refine wpAnyX_take (i := 6) (v := ?_) rfl (by kernel_rfl) (by kernel_rfl) (by kernel_rfl) (by kernel_rfl) (fun _ _ _ h => h) (Or.inl ⟨by rfl, ?_⟩) hS ?_
  rotate_left
  · intro w hw
    go_simp
    try with_reducible rfl
  try simp only [Act.put, List.getElem_toArray, List.getElem_cons_succ, List.getElem_cons_zero, List.setIfInBounds_toArray, List.set_cons_zero, List.set_cons_succ]
  refine wpAnyX_take (i := 8) (v := ?_) rfl (by kernel_rfl) (by kernel_rfl) (by kernel_rfl) (by kernel_rfl) (fun _ _ _ h => h) (Or.inl ⟨by rfl, ?_⟩) hS ?_
  rotate_left
  · intro w hw
    go_simp
    try with_reducible rfl
  try simp only [Act.put, List.getElem_toArray, List.getElem_cons_succ, List.getElem_cons_zero, List.setIfInBounds_toArray, List.set_cons_zero, List.set_cons_succ]
  refine wpAnyX_take (i := 9) (v := ?_) rfl (by kernel_rfl) (by kernel_rfl) (by kernel_rfl) (by kernel_rfl) (fun _ _ _ h => h) (Or.inl ⟨by rfl, ?_⟩) hS ?_
  rotate_left
  · intro w hw
    go_simp
    try with_reducible rfl
  try simp only [Act.put, List.getElem_toArray, List.getElem_cons_succ, List.getElem_cons_zero, List.setIfInBounds_toArray, List.set_cons_zero, List.set_cons_succ]
  refine wpAnyX_take (i := 10) (v := ?_) rfl (by kernel_rfl) (by kernel_rfl) (by kernel_rfl) (by kernel_rfl) (fun _ _ _ h => h) (Or.inl ⟨by rfl, ?_⟩) hS ?_
  rotate_left
  · intro w hw
    go_simp
    try with_reducible rfl
  try simp only [Act.put, List.getElem_toArray, List.getElem_cons_succ, List.getElem_cons_zero, List.setIfInBounds_toArray, List.set_cons_zero, List.set_cons_succ]
  refine wpAnyX_take (i := 11) (v := ?_) rfl (by kernel_rfl) (by kernel_rfl) (by kernel_rfl) (by kernel_rfl) (fun _ _ _ h => h) (Or.inl ⟨by rfl, ?_⟩) hS ?_
  rotate_left
  · intro w hw
    have hbx := HL.out.box.below hw.out (HL.out.lt g HL.out.sg)
    have b0 := hbx.cell 1
    simp only [List.getElem?_cons_succ, List.getElem?_cons_zero] at b0
    clear hbx
    go_simp
    try with_reducible rfl
  try simp only [Act.put, List.getElem_toArray, List.getElem_cons_succ, List.getElem_cons_zero, List.setIfInBounds_toArray, List.set_cons_zero, List.set_cons_succ]
  refine wpAnyX_take (i := 12) (v := ?_) rfl (by kernel_rfl) (by kernel_rfl) (by kernel_rfl) (by kernel_rfl) (fun _ _ _ h => h) (Or.inl ⟨by rfl, ?_⟩) hS ?_
  rotate_left
  · intro w hw
    go_simp
    try with_reducible rfl
  try simp only [Act.put, List.getElem_toArray, List.getElem_cons_succ, List.getElem_cons_zero, List.setIfInBounds_toArray, List.set_cons_zero, List.set_cons_succ]
  refine wpAnyX_take (i := 13) (v := ?_) rfl (by kernel_rfl) (by kernel_rfl) (by kernel_rfl) (by kernel_rfl) (fun _ _ _ h => h) (Or.inl ⟨by rfl, ?_⟩) hS ?_
  rotate_left
  · intro w hw
    go_simp
    try with_reducible rfl
  try simp only [Act.put, List.getElem_toArray, List.getElem_cons_succ, List.getElem_cons_zero, List.setIfInBounds_toArray, List.set_cons_zero, List.set_cons_succ]
  refine wpAnyX_take (i := 14) (v := ?_) rfl (by kernel_rfl) (by kernel_rfl) (by kernel_rfl) (by kernel_rfl) (fun _ _ _ h => h) (Or.inl ⟨by rfl, ?_⟩) hS ?_
  rotate_left
  · intro w hw
    go_simp
    try with_reducible rfl
  try simp only [Act.put, List.getElem_toArray, List.getElem_cons_succ, List.getElem_cons_zero, List.setIfInBounds_toArray, List.set_cons_zero, List.set_cons_succ]
  refine wpAnyX_ready (rs := [7]) (by kernel_rfl) (by simp) ?_
  refine (AllReadyX.cons rfl (fun K hK => ?_) AllReadyX.nil)
  refine held_append rfl _ _ 48 rfl rfl rfl HR1.out ?_
  refine hK.out _ _ HB1 (fun hS => ?_)
  clear hK K
  try simp only [Act.put, List.getElem_toArray, List.getElem_cons_succ, List.getElem_cons_zero, List.setIfInBounds_toArray, List.set_cons_zero, List.set_cons_succ]
  refine wpAnyX_ready (rs := [15]) (by kernel_rfl) (by simp) ?_
  refine (AllReadyX.cons rfl (fun K hK => ?_) AllReadyX.nil)
  refine held_append rfl _ _ 48 rfl rfl rfl HR4.out ?_
  refine hK.out _ _ HB4 (fun hS => ?_)
  clear hK K
  try simp only [Act.put, List.getElem_toArray, List.getElem_cons_succ, List.getElem_cons_zero, List.setIfInBounds_toArray, List.set_cons_zero, List.set_cons_succ]
  refine wpAnyX_ready (rs := [16]) (by kernel_rfl) (by simp) ?_
  refine (AllReadyX.cons rfl (fun K hK => ?_) AllReadyX.nil)
  go_simp
  refine hK.out _ _ HB4 (fun hS => ?_)
  clear hK K
  try simp only [Act.put, List.getElem_toArray, List.getElem_cons_succ, List.getElem_cons_zero, List.setIfInBounds_toArray, List.set_cons_zero, List.set_cons_succ]
  refine wpAnyX_take (i := 17) (v := ?_) rfl (by kernel_rfl) (by kernel_rfl) (by kernel_rfl) (by kernel_rfl) (fun _ _ _ h => h) (Or.inl ⟨by rfl, ?_⟩) hS ?_
  rotate_left
  · intro w hw
    go_simp
    try with_reducible rfl
  try simp only [Act.put, List.getElem_toArray, List.getElem_cons_succ, List.getElem_cons_zero, List.setIfInBounds_toArray, List.set_cons_zero, List.set_cons_succ]
  refine wpAnyX_ready (rs := [18]) (by kernel_rfl) (by simp) ?_
  refine AllReadyX.last rfl (fun K hK => ?_)
  have p0 := HX4.out.cell 1
  have z0 := HX4.out.free 1
  simp only [List.getElem?_cons_succ, List.getElem?_cons_zero] at p0
  go_simp
  refine hK.out _ _ ?_
  clear hK K p0 z0
  try simp only [Act.put, List.getElem_toArray, List.getElem_cons_succ, List.getElem_cons_zero, List.setIfInBounds_toArray, List.set_cons_zero, List.set_cons_succ]
  refine wpAnyX_done (by kernel_rfl) ?_ _
  have HN5 := Lib.hid HN.out.1
  have HK5 := Lib.hid HN.out.2
  have q1 := HN5.out.facts.2.1
  have q2 := HN5.out.facts.2.2
  rw [HLEN.out, ← HN1.out] at q1
  have z2 := HN5.out.box.free 2
  have HMAP : Hid ((L.eraseIdx i).map (·.s) = r.1.eraseIdx i) := Lib.hid (by rw [map_erase, HE.out])
  have HLN : Hid ((r.1.eraseIdx i).length = n1) := Lib.hid (by rw [← HMAP.out, List.length_map, HLEN.out, HN1.out])
  clear hs1 hs2 hpc hwr
  by_cases h1 : i < hand
  · obtain ⟨m, rfl⟩ : ∃ m, hand = m + 1 := ⟨hand - 1, by omega⟩
    have HS6 := Lib.hid (HN5.out.setHand (m := m) (by omega))
    have p1 := HS6.out.1.facts.2.1
    have p2 := HS6.out.1.facts.2.2
    rw [HLEN.out, ← HN1.out] at p1
    have y2 := HS6.out.1.box.free 2
    have d1 : decide ((i : Int) < (m : Int) + 1) = true := decide_eq_true (by omega)
    have d3 : decide ((m : Int) + 1 ≤ (i : Int)) = false := decide_eq_false (by omega)
    by_cases h2 : n1 ≤ m
    · have d2 : decide (n1 ≤ m) = true := decide_eq_true h2
      have HOUT : Hid (out r i = (r.1.eraseIdx i, 0)) := Lib.hid (by unfold out; simp only; rw [← HHA.out, HLN.out, if_pos h1, if_pos (by omega)])
      clear h1 h2
      go_wp2_with fail
      go_quiet (fail)
      go_wp2_with fail
      go_returns
      refine ⟨rfl, ?_⟩
      rw [HOUT.out]
      have HD := (HS6.out.1.drawn nq).setHand (m := 0) (by omega)
      exact ⟨_, ⟨_, _, _, HD.1, HMAP.out⟩, ((HK5.out.trans HS6.out.2 (fun k hk h4 => h4.elim id fun h5 => absurd hk (Nat.not_lt_of_le h5.1))).trans (T := fun _ => False) (below_keep (Joins.below_draws _ _ nq)) (fun _ _ h => h.elim)).trans HD.2 (fun k hk h4 => h4.elim id fun h5 => absurd hk (Nat.not_lt_of_le h5.1)), fun k hk => hk.imp id fun h => h.1⟩
    · have d2 : decide (n1 ≤ m) = false := decide_eq_false h2
      have HOUT : Hid (out r i = (r.1.eraseIdx i, m)) := Lib.hid (by unfold out; simp only; rw [← HHA.out, HLN.out, if_pos h1, if_neg (by omega)]; rfl)
      clear h1 h2
      go_wp2_with fail
      go_quiet (fail)
      go_wp2_with fail
      go_returns
      refine ⟨rfl, ?_⟩
      rw [HOUT.out]
      refine CWent.post ?_ (Joins.below_draws _ _ _)
      exact ⟨_, ⟨_, _, _, HS6.out.1, HMAP.out⟩, HK5.out.trans HS6.out.2 (fun k hk h4 => h4.elim id fun h5 => absurd hk (Nat.not_lt_of_le h5.1)), fun k hk => hk.imp id fun h => h.1⟩
  · have d1 : decide (i < hand) = false := decide_eq_false h1
    by_cases h2 : n1 ≤ hand
    · have d2 : decide (n1 ≤ hand) = true := decide_eq_true h2
      have HOUT : Hid (out r i = (r.1.eraseIdx i, 0)) := Lib.hid (by unfold out; simp only; rw [← HHA.out, HLN.out, if_neg h1, if_pos (by omega)])
      clear h1 h2
      go_wp2_with fail
      go_quiet (fail)
      go_wp2_with fail
      go_returns
      refine ⟨rfl, ?_⟩
      rw [HOUT.out]
      have HD := (HN5.out.drawn nq).setHand (m := 0) (by omega)
      exact ⟨_, ⟨_, _, _, HD.1, HMAP.out⟩, (HK5.out.trans (T := fun _ => False) (below_keep (Joins.below_draws _ _ nq)) (fun _ _ h => h.elim)).trans HD.2 (fun k hk h4 => h4.elim id fun h5 => absurd hk (Nat.not_lt_of_le h5.1)), fun k hk => hk.imp id fun h => h.1⟩
    · have d2 : decide (n1 ≤ hand) = false := decide_eq_false h2
      have HOUT : Hid (out r i = (r.1.eraseIdx i, hand)) := Lib.hid (by unfold out; simp only; rw [← HHA.out, HLN.out, if_neg h1, if_neg (by omega)])
      clear h1 h2
      go_wp2_with fail
      go_quiet (fail)
      go_wp2_with fail
      go_returns
      refine ⟨rfl, ?_⟩
      rw [HOUT.out]
      refine CWent.post ?_ (Joins.below_draws _ _ _)
      exact ⟨_, ⟨_, _, _, HN5.out, HMAP.out⟩, HK5.out, fun k hk => hk.imp id fun h => h.1⟩
end
end Go.Proofs.Ytbeohfmikpbkhaa.Ck
