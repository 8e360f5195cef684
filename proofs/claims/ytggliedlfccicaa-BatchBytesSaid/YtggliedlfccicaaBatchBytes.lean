/- Proved: for any batch, BatchBytes of butterylaw5 answers true (Check, Bytes and Size of package batch agree with the definition for arbitrary batches, and Read inverts Bytes), and its argument reads as before. Conditions: none beyond what the given row states. -/
import Derived.Test.YtggliedlfccicaaBlaw5
import Derived.Test.YtggliedlfccicaaBenc4
import Derived.Test.YtggliedlfccicaaBrd6
import Derived.Test.YtggliedlfccicaaBsame
namespace Go.Proofs.Ytggliedlfccicaa.batchBytes
set_option linter.unusedVariables false
set_option linter.unusedSimpArgs false
open Go.ChangeShapes Go.WideShapes Go.ChangeAt Go.RowKit Lift Bt Ik Vn

theorem own : ownKnob Try.prog.godebug = none := by kernel_rfl

theorem bytesE_three (s : Nat) (l : List O) : bytesE s l = 0 ∨ bytesE s l = 1 ∨ bytesE s l = 3 := by
  have h1 : chkO l = 0 ∨ chkO l = 1 ∨ chkO l = 3 := by unfold chkO; split; simp; split <;> simp
  unfold bytesE
  rcases h1 with h1 | h1 | h1
  · rw [h1]; by_cases hf : fits s l.length = true <;> simp [hf]
  · rw [h1]; simp
  · rw [h1]; simp
theorem bytesB_byte {s : Nat} {L : List D} {w : World} {R : Nat → Prop} (h : ∀ d, d ∈ L → d.Ok w R) : ∀ x, x ∈ bytesB s (opsO L) → x < 256 := by
  intro x hx
  unfold bytesB at hx
  split at hx
  · rename_i he
    have hc : chkO (opsO L) = 0 := by unfold bytesE at he; split at he; contradiction; rename_i hn; simpa using hn
    have hall := (chk_parts hc).2.2
    unfold encB at hx
    rcases List.mem_append.1 hx with hx | hx
    · rcases List.mem_append.1 hx with hx | hx
      · exact low_byte _ _ x hx
      · exact low_byte _ _ x hx
    · obtain ⟨o, ho, hx⟩ := List.mem_flatMap.1 hx
      obtain ⟨d, hd, rfl⟩ := List.mem_map.1 ho
      have hk := h d hd
      obtain ⟨h1, h2, h3, h4⟩ := ok_parts (List.all_eq_true.1 hall _ ho)
      have tx : ∀ t : List Nat, t.length ≤ 4096 → (∀ y, y ∈ t → y < 256) → ∀ y, y ∈ text t → y < 256 := by
        intro t ht hb y hy
        rcases List.mem_append.1 hy with hy | hy
        · exact enc_byte t.length (by omega) y hy
        · exact hb y hy
      unfold encO at hx
      rcases List.mem_cons.1 hx with rfl | hx
      · rcases h4 with ⟨h4, _⟩ | h4 <;> rw [h4] <;> decide
      · rcases List.mem_append.1 hx with hx | hx
        · exact tx d.key (Nat.le_trans h2 (by decide)) hk.k8 x hx
        · split at hx
          · exact tx d.val h3 hk.v8 x hx
          · simp at hx
  · simp at hx
theorem bytesB_len (s : Nat) (L : List D) : (bytesB s (opsO L)).length ≤ 500000 := by
  unfold bytesB
  split
  · rename_i he
    have hc : chkO (opsO L) = 0 := by unfold bytesE at he; split at he; contradiction; rename_i hn; simpa using hn
    rw [← chk_o] at hc
    obtain ⟨_, n2, hok⟩ := chk_zero hc
    have := body_len hok
    unfold bodyL at this
    unfold encB
    rw [List.length_append, List.length_append, low_length, low_length]
    omega
  · simp

set_option maxHeartbeats 400000 in
theorem walk_out (s : Nat) (A : Option Addr) (c : Nat) (L : List D) (w : World) (hO : Ops w w.heap.size A c L) (h : bigB L = true) : Calls Try.prog 3 #[.agg #[.int .u64 (s : Int), .slice A L.length c]] w (Yes w) := by
  have HO := Lib.hid hO
  clear hO
  have hb0 := Joins.below_alloc1 w (.cells #[.int .u64 (s : Int), .slice A L.length c] 25)
  have b0 := Box.new w 25 [.int .u64 (s : Int), .slice A L.length c]
  have hz0 : (w.alloc (.cells #[.int .u64 (s : Int), .slice A L.length c] 25)).heap.size = w.heap.size + 1 := by simp
  go_enter Try.func3, Try.ntmps3
  go_wp2_with fail
  generalize w.alloc (.cells #[.int .u64 (s : Int), .slice A L.length c] 25) = w0 at hb0 b0 hz0 ⊢
  refine (alive_any _).mono ?_; rintro e W1 ⟨rfl, hb1⟩
  have HB1 := Lib.hid (hb0.trans (hb1.mono hb0.size))
  have b1 := b0.below hb1 (by omega)
  have HX := Lib.hid fun w' (hb : Below W1.heap.size W1 w') => b1.below hb (by have := hb1.size; omega)
  obtain ⟨p0, p1, _, _⟩ := b1.facts2
  clear hb0 b0 hz0 hb1 b1
  go_wp2_with fail
  refine (big_any A c _ L W1 (HO.out.next HB1.out)).mono ?_; rintro e w' ⟨rfl, rfl⟩
  go_wp2_with fail
  go_ret
  exact ⟨rfl, HB1.out⟩

set_option maxRecDepth 100000 in
set_option maxHeartbeats 3200000 in
theorem walk (er s : Nat) (A : Option Addr) (c : Nat) (L : List D) (w : World) (hs : s < 18446744073709551616) (hO : Ops w w.heap.size A c L) (h : bigB L = false) (her : bytesE s (opsO L) = er) : Calls Try.prog 3 #[.agg #[.int .u64 (s : Int), .slice A L.length c]] w (Yes w) := by
  obtain ⟨hn, hsm⟩ := big_no h
  have HSM := Lib.hid hsm
  have B8 := Lib.hid (bytesB_byte (s := s) hO.ok)
  have hbl := bytesB_len s L
  have h3 := bytesE_three s (opsO L)
  rw [her] at h3
  have RD : Hid (readB (bytesB s (opsO L)) = if er = 0 then (0, s, opsO L) else (4, 0, [])) := Lib.hid (by
    unfold bytesB
    rw [her]
    by_cases h0 : er = 0
    · rw [if_pos h0, if_pos h0]
      have := read_good (s := s) (l := opsO L) [] (by rw [her]; exact h0)
      rw [List.append_nil, if_pos rfl] at this
      exact this
    · rw [if_neg h0, if_neg h0]; rfl)
  have BY := Lib.hid fun W hW => bytes_any s A c L W hs hW
  have RBY := Lib.hid fun W hW => rbytes_any s A c L W hs hW
  rw [her] at BY RBY
  generalize bytesB s (opsO L) = Bs at *
  have H3 := Lib.hid h3
  clear hsm her h3
  have HO := Lib.hid hO
  clear hO
  have hb0 := Joins.below_alloc1 w (.cells #[.int .u64 (s : Int), .slice A L.length c] 25)
  have b0 := Box.new w 25 [.int .u64 (s : Int), .slice A L.length c]
  have hz0 : (w.alloc (.cells #[.int .u64 (s : Int), .slice A L.length c] 25)).heap.size = w.heap.size + 1 := by simp
  go_enter Try.func3, Try.ntmps3
  go_wp2_with fail
  generalize w.alloc (.cells #[.int .u64 (s : Int), .slice A L.length c] 25) = w0 at hb0 b0 hz0 ⊢
  refine (alive_any _).mono ?_; rintro e W1 ⟨rfl, hb1⟩
  have HB1 := Lib.hid (hb0.trans (hb1.mono hb0.size))
  have b1 := b0.below hb1 (by omega)
  have HX := Lib.hid fun w' (hb : Below W1.heap.size W1 w') => b1.below hb (by have := hb1.size; omega)
  obtain ⟨p0, p1, _, _⟩ := b1.facts2
  clear hb0 b0 hz0 hb1 b1
  go_wp2_with fail
  refine (big_any A c _ L W1 (HO.out.next HB1.out)).mono ?_; rintro e w' ⟨rfl, rfl⟩
  rw [h]
  clear h
  go_wp2_with fail
  refine (BY.out W1 (HO.out.next HB1.out)).mono ?_
  rintro e W2 ⟨v2, rfl, hown2, hb2⟩
  obtain ⟨A2, c2, rfl, _, _, hl2⟩ := own_parts hown2
  have b2 := HX.out _ hb2
  have HB2 := Lib.hid (HB1.out.trans (hb2.mono HB1.out.size))
  clear p0 p1
  obtain ⟨p0, p1, _, _⟩ := b2.facts2
  have hX2 := hb2
  have L2 := Lib.hid hl2
  have H12 := Lib.hid hX2
  clear hown2 hb2 hl2 hX2 b2
  go_wp2_with fail
  refine (RBY.out W2 (HO.out.next HB2.out)).mono ?_
  rintro e W3 ⟨v3, rfl, hown3, hb3⟩
  obtain ⟨A3, c3, rfl, hc3, hm3, hl3⟩ := own_parts hown3
  have HB3 := Lib.hid (HB2.out.trans (hb3.mono HB2.out.size))
  have H13 := Lib.hid (H12.out.trans (hb3.mono H12.out.size))
  have L23 := Lib.hid (L2.out.below hb3)
  have L3 := Lib.hid hl3
  have C3 := Lib.hid hc3
  have M3 := Lib.hid hm3
  have hle23 := hb3.size
  clear hown3 hb3 hc3 hm3 hl3 BY RBY p0 p1
  have HLE := Lib.hid hle23
  clear hle23
  go_wp2_with fail
  refine wp_region_held_drew (S := fun w' => Hid (Below W3.heap.size W3 w')) (by kernel_rfl) (Lib.hid (Below.refl _ _).drew) (fun hS => ?_)
  refine wpAnyH_take (i := 0) (v := ?_) rfl (by kernel_rfl) (by kernel_rfl) (by kernel_rfl) (fun _ _ _ h => h) (Or.inl ⟨by rfl, ?_⟩) hS ?_
  rotate_left
  · intro w hw
    go_simp
    try with_reducible rfl
  try simp only [Act.put, List.getElem_toArray, List.getElem_cons_succ, List.getElem_cons_zero, List.setIfInBounds_toArray, List.set_cons_zero, List.set_cons_succ]
  refine wpAnyH_take (i := 1) (v := ?_) rfl (by kernel_rfl) (by kernel_rfl) (by kernel_rfl) (fun _ _ _ h => h) (Or.inl ⟨by rfl, ?_⟩) hS ?_
  rotate_left
  · intro w hw
    have hs1 := run_str (c := c2) (L23.out.below (hw.out.mono HLE.out))
    go_simp
    try with_reducible rfl
  try simp only [Act.put, List.getElem_toArray, List.getElem_cons_succ, List.getElem_cons_zero, List.setIfInBounds_toArray, List.set_cons_zero, List.set_cons_succ]
  refine wpAnyH_take (i := 2) (v := ?_) rfl (by kernel_rfl) (by kernel_rfl) (by kernel_rfl) (fun _ _ _ h => h) (Or.inl ⟨by rfl, ?_⟩) hS ?_
  rotate_left
  · intro w hw
    go_simp
    try with_reducible rfl
  try simp only [Act.put, List.getElem_toArray, List.getElem_cons_succ, List.getElem_cons_zero, List.setIfInBounds_toArray, List.set_cons_zero, List.set_cons_succ]
  refine wpAnyH_take (i := 3) (v := ?_) rfl (by kernel_rfl) (by kernel_rfl) (by kernel_rfl) (fun _ _ _ h => h) (Or.inl ⟨by rfl, ?_⟩) hS ?_
  rotate_left
  · intro w hw
    have hs3 := run_str (c := c3) (L3.out.below hw.out)
    go_simp
    try with_reducible rfl
  try simp only [Act.put, List.getElem_toArray, List.getElem_cons_succ, List.getElem_cons_zero, List.setIfInBounds_toArray, List.set_cons_zero, List.set_cons_succ]
  refine wpAnyH_take (i := 4) (v := ?_) rfl (by kernel_rfl) (by kernel_rfl) (by kernel_rfl) (fun _ _ _ h => h) (Or.inl ⟨by rfl, ?_⟩) hS ?_
  rotate_left
  · intro w hw
    go_simp
    try with_reducible rfl
  try simp only [Act.put, List.getElem_toArray, List.getElem_cons_succ, List.getElem_cons_zero, List.setIfInBounds_toArray, List.set_cons_zero, List.set_cons_succ]
  refine wpAnyH_take (i := 5) (v := ?_) rfl (by kernel_rfl) (by kernel_rfl) (by kernel_rfl) (fun _ _ _ h => h) (Or.inl ⟨by rfl, ?_⟩) hS ?_
  rotate_left
  · intro w hw
    go_simp
    try with_reducible rfl
  try simp only [Act.put, List.getElem_toArray, List.getElem_cons_succ, List.getElem_cons_zero, List.setIfInBounds_toArray, List.set_cons_zero, List.set_cons_succ]
  refine wpAnyH_take (i := 6) (v := ?_) rfl (by kernel_rfl) (by kernel_rfl) (by kernel_rfl) (fun _ _ _ h => h) (Or.inl ⟨by rfl, ?_⟩) hS ?_
  rotate_left
  · intro w hw
    go_simp
    try with_reducible rfl
  try simp only [Act.put, List.getElem_toArray, List.getElem_cons_succ, List.getElem_cons_zero, List.setIfInBounds_toArray, List.set_cons_zero, List.set_cons_succ]
  refine wpAnyH_take (i := 8) (v := ?_) rfl (by kernel_rfl) (by kernel_rfl) (by kernel_rfl) (fun _ _ _ h => h) (Or.inl ⟨by rfl, ?_⟩) hS ?_
  rotate_left
  · intro w hw
    go_simp
    try with_reducible rfl
  try simp only [Act.put, List.getElem_toArray, List.getElem_cons_succ, List.getElem_cons_zero, List.setIfInBounds_toArray, List.set_cons_zero, List.set_cons_succ]
  refine wpAnyH_ready (rs := [7]) (by kernel_rfl) (by simp) ?_
  refine AllReadyH.cons rfl (fun K hK => ?_) AllReadyH.nil
  go_simp
  refine (num_any _ _).mono ?_; rintro e w' ⟨rfl, rfl⟩
  go_wp2_with fail
  refine hK.out _ _ hS (fun _ => ?_)
  clear hK K
  try simp only [Act.put, List.getElem_toArray, List.getElem_cons_succ, List.getElem_cons_zero, List.setIfInBounds_toArray, List.set_cons_zero, List.set_cons_succ]
  refine wpAnyH_take (i := 9) (v := ?_) rfl (by kernel_rfl) (by kernel_rfl) (by kernel_rfl) (fun _ _ _ h => h) (Or.inl ⟨by rfl, ?_⟩) hS ?_
  rotate_left
  · intro w hw
    go_simp
    try with_reducible rfl
  try simp only [Act.put, List.getElem_toArray, List.getElem_cons_succ, List.getElem_cons_zero, List.setIfInBounds_toArray, List.set_cons_zero, List.set_cons_succ]
  refine wpAnyH_take (i := 10) (v := ?_) rfl (by kernel_rfl) (by kernel_rfl) (by kernel_rfl) (fun _ _ _ h => h) (Or.inl ⟨by rfl, ?_⟩) hS ?_
  rotate_left
  · intro w hw
    go_simp
    try with_reducible rfl
  try simp only [Act.put, List.getElem_toArray, List.getElem_cons_succ, List.getElem_cons_zero, List.setIfInBounds_toArray, List.set_cons_zero, List.set_cons_succ]
  refine wpAnyH_take (i := 11) (v := ?_) rfl (by kernel_rfl) (by kernel_rfl) (by kernel_rfl) (fun _ _ _ h => h) (Or.inl ⟨by rfl, ?_⟩) hS ?_
  rotate_left
  · intro w hw
    go_simp
    try with_reducible rfl
  try simp only [Act.put, List.getElem_toArray, List.getElem_cons_succ, List.getElem_cons_zero, List.setIfInBounds_toArray, List.set_cons_zero, List.set_cons_succ]
  refine wpAnyH_take (i := 12) (v := ?_) rfl (by kernel_rfl) (by kernel_rfl) (by kernel_rfl) (fun _ _ _ h => h) (Or.inl ⟨by rfl, ?_⟩) hS ?_
  rotate_left
  · intro w hw
    go_simp
    try with_reducible rfl
  try simp only [Act.put, List.getElem_toArray, List.getElem_cons_succ, List.getElem_cons_zero, List.setIfInBounds_toArray, List.set_cons_zero, List.set_cons_succ]
  refine wpAnyH_take (i := 13) (v := ?_) rfl (by kernel_rfl) (by kernel_rfl) (by kernel_rfl) (fun _ _ _ h => h) (Or.inl ⟨by rfl, ?_⟩) hS ?_
  rotate_left
  · intro w hw
    obtain ⟨p0, p1, _, _⟩ := (HX.out _ (H13.out.trans (hw.out.mono H13.out.size))).facts2
    go_simp
    try with_reducible rfl
  try simp only [Act.put, List.getElem_toArray, List.getElem_cons_succ, List.getElem_cons_zero, List.setIfInBounds_toArray, List.set_cons_zero, List.set_cons_succ]
  refine wpAnyH_take (i := 16) (v := ?_) rfl (by kernel_rfl) (by kernel_rfl) (by kernel_rfl) (fun _ _ _ h => h) (Or.inl ⟨by rfl, ?_⟩) hS ?_
  rotate_left
  · intro w hw
    go_simp
    try with_reducible rfl
  try simp only [Act.put, List.getElem_toArray, List.getElem_cons_succ, List.getElem_cons_zero, List.setIfInBounds_toArray, List.set_cons_zero, List.set_cons_succ]
  refine wpAnyH_take (i := 17) (v := ?_) rfl (by kernel_rfl) (by kernel_rfl) (by kernel_rfl) (fun _ _ _ h => h) (Or.inl ⟨by rfl, ?_⟩) hS ?_
  rotate_left
  · intro w hw
    obtain ⟨p0, p1, _, _⟩ := (HX.out _ (H13.out.trans (hw.out.mono H13.out.size))).facts2
    go_simp
    try with_reducible rfl
  try simp only [Act.put, List.getElem_toArray, List.getElem_cons_succ, List.getElem_cons_zero, List.setIfInBounds_toArray, List.set_cons_zero, List.set_cons_succ]
  refine wpAnyH_ready (rs := [14]) (by kernel_rfl) (by simp) ?_
  refine AllReadyH.cons rfl (fun K hK => ?_) AllReadyH.nil
  go_simp
  refine (check_any A c L _ (HO.out.next (HB3.out.trans (hS.out.mono HB3.out.size)))).mono ?_; rintro e W4 ⟨rfl, hb⟩
  have H4 := Lib.hid (hS.out.trans (hb.mono hS.out.size))
  have HB4 := Lib.hid (HB3.out.trans (H4.out.mono HB3.out.size))
  have H14 := Lib.hid (H13.out.trans (H4.out.mono H13.out.size))
  clear hb
  go_wp2_with fail
  refine hK.out _ _ H4 (fun _ => ?_)
  clear hK K hS
  refine wpAnyH_other (S' := fun w' => Hid (Below W4.heap.size W4 w')) (fun w hw => Lib.hid (H4.out.trans (hw.out.mono H4.out.size))) _ _ _ _ ?_
  have hS : Hid (Below W4.heap.size W4 W4) := Lib.hid (Below.refl _ _)
  try simp only [Act.put, List.getElem_toArray, List.getElem_cons_succ, List.getElem_cons_zero, List.setIfInBounds_toArray, List.set_cons_zero, List.set_cons_succ]
  refine wpAnyH_ready (rs := [15]) (by kernel_rfl) (by simp) ?_
  refine AllReadyH.cons rfl (fun K hK => ?_) AllReadyH.nil
  go_simp
  refine (num_any _ _).mono ?_; rintro e w' ⟨rfl, rfl⟩
  go_wp2_with fail
  refine hK.out _ _ hS (fun _ => ?_)
  clear hK K
  try simp only [Act.put, List.getElem_toArray, List.getElem_cons_succ, List.getElem_cons_zero, List.setIfInBounds_toArray, List.set_cons_zero, List.set_cons_succ]
  refine wpAnyH_ready (rs := [18]) (by kernel_rfl) (by simp) ?_
  refine AllReadyH.cons rfl (fun K hK => ?_) AllReadyH.nil
  go_simp
  refine (rcheck_any A c L _ (HO.out.next (HB4.out.trans (hS.out.mono HB4.out.size)))).mono ?_; rintro e W5 ⟨rfl, hb⟩
  have H5 := Lib.hid (hS.out.trans (hb.mono hS.out.size))
  have HB5 := Lib.hid (HB4.out.trans (H5.out.mono HB4.out.size))
  have H15 := Lib.hid (H14.out.trans (H5.out.mono H14.out.size))
  clear hb
  go_wp2_with fail
  refine hK.out _ _ H5 (fun _ => ?_)
  clear hK K hS
  refine wpAnyH_other (S' := fun w' => Hid (Below W5.heap.size W5 w')) (fun w hw => Lib.hid (H5.out.trans (hw.out.mono H5.out.size))) _ _ _ _ ?_
  have hS : Hid (Below W5.heap.size W5 W5) := Lib.hid (Below.refl _ _)
  try simp only [Act.put, List.getElem_toArray, List.getElem_cons_succ, List.getElem_cons_zero, List.setIfInBounds_toArray, List.set_cons_zero, List.set_cons_succ]
  refine wpAnyH_take (i := 19) (v := ?_) rfl (by kernel_rfl) (by kernel_rfl) (by kernel_rfl) (fun _ _ _ h => h) (Or.inl ⟨by rfl, ?_⟩) hS ?_
  rotate_left
  · intro w hw
    go_simp
    try with_reducible rfl
  try simp only [Act.put, List.getElem_toArray, List.getElem_cons_succ, List.getElem_cons_zero, List.setIfInBounds_toArray, List.set_cons_zero, List.set_cons_succ]
  refine wpAnyH_take (i := 20) (v := ?_) rfl (by kernel_rfl) (by kernel_rfl) (by kernel_rfl) (fun _ _ _ h => h) (Or.inl ⟨by rfl, ?_⟩) hS ?_
  rotate_left
  · intro w hw
    go_simp
    try with_reducible rfl
  try simp only [Act.put, List.getElem_toArray, List.getElem_cons_succ, List.getElem_cons_zero, List.setIfInBounds_toArray, List.set_cons_zero, List.set_cons_succ]
  refine wpAnyH_take (i := 21) (v := ?_) rfl (by kernel_rfl) (by kernel_rfl) (by kernel_rfl) (fun _ _ _ h => h) (Or.inl ⟨by rfl, ?_⟩) hS ?_
  rotate_left
  · intro w hw
    go_simp
    try with_reducible rfl
  try simp only [Act.put, List.getElem_toArray, List.getElem_cons_succ, List.getElem_cons_zero, List.setIfInBounds_toArray, List.set_cons_zero, List.set_cons_succ]
  refine wpAnyH_take (i := 22) (v := ?_) rfl (by kernel_rfl) (by kernel_rfl) (by kernel_rfl) (fun _ _ _ h => h) (Or.inl ⟨by rfl, ?_⟩) hS ?_
  rotate_left
  · intro w hw
    go_simp
    try with_reducible rfl
  try simp only [Act.put, List.getElem_toArray, List.getElem_cons_succ, List.getElem_cons_zero, List.setIfInBounds_toArray, List.set_cons_zero, List.set_cons_succ]
  refine wpAnyH_take (i := 23) (v := ?_) rfl (by kernel_rfl) (by kernel_rfl) (by kernel_rfl) (fun _ _ _ h => h) (Or.inl ⟨by rfl, ?_⟩) hS ?_
  rotate_left
  · intro w hw
    obtain ⟨p0, p1, _, _⟩ := (HX.out _ (H15.out.trans (hw.out.mono H15.out.size))).facts2
    go_simp
    try with_reducible rfl
  try simp only [Act.put, List.getElem_toArray, List.getElem_cons_succ, List.getElem_cons_zero, List.setIfInBounds_toArray, List.set_cons_zero, List.set_cons_succ]
  refine wpAnyH_take (i := 25) (v := ?_) rfl (by kernel_rfl) (by kernel_rfl) (by kernel_rfl) (fun _ _ _ h => h) (Or.inl ⟨by rfl, ?_⟩) hS ?_
  rotate_left
  · intro w hw
    go_simp
    try with_reducible rfl
  try simp only [Act.put, List.getElem_toArray, List.getElem_cons_succ, List.getElem_cons_zero, List.setIfInBounds_toArray, List.set_cons_zero, List.set_cons_succ]
  refine wpAnyH_take (i := 26) (v := ?_) rfl (by kernel_rfl) (by kernel_rfl) (by kernel_rfl) (fun _ _ _ h => h) (Or.inl ⟨by rfl, ?_⟩) hS ?_
  rotate_left
  · intro w hw
    obtain ⟨p0, p1, _, _⟩ := (HX.out _ (H15.out.trans (hw.out.mono H15.out.size))).facts2
    go_simp
    try with_reducible rfl
  try simp only [Act.put, List.getElem_toArray, List.getElem_cons_succ, List.getElem_cons_zero, List.setIfInBounds_toArray, List.set_cons_zero, List.set_cons_succ]
  refine wpAnyH_ready (rs := [24]) (by kernel_rfl) (by simp) ?_
  refine AllReadyH.cons rfl (fun K hK => ?_) AllReadyH.nil
  go_simp
  refine (size_any A c L _ (HO.out.next (HB5.out.trans (hS.out.mono HB5.out.size))) HSM.out (by omega)).mono ?_; rintro e W6 ⟨rfl, hb⟩
  have H6 := Lib.hid (hS.out.trans (hb.mono hS.out.size))
  have HB6 := Lib.hid (HB5.out.trans (H6.out.mono HB5.out.size))
  have H16 := Lib.hid (H15.out.trans (H6.out.mono H15.out.size))
  clear hb
  go_wp2_with fail
  refine hK.out _ _ H6 (fun _ => ?_)
  clear hK K hS
  refine wpAnyH_other (S' := fun w' => Hid (Below W6.heap.size W6 w')) (fun w hw => Lib.hid (H6.out.trans (hw.out.mono H6.out.size))) _ _ _ _ ?_
  have hS : Hid (Below W6.heap.size W6 W6) := Lib.hid (Below.refl _ _)
  try simp only [Act.put, List.getElem_toArray, List.getElem_cons_succ, List.getElem_cons_zero, List.setIfInBounds_toArray, List.set_cons_zero, List.set_cons_succ]
  refine wpAnyH_ready (rs := [27]) (by kernel_rfl) (by simp) ?_
  refine AllReadyH.cons rfl (fun K hK => ?_) AllReadyH.nil
  go_simp
  refine (rsize_any A c L _ (HO.out.next (HB6.out.trans (hS.out.mono HB6.out.size))) HSM.out (by omega)).mono ?_; rintro e W7 ⟨rfl, hb⟩
  have H7 := Lib.hid (hS.out.trans (hb.mono hS.out.size))
  have HB7 := Lib.hid (HB6.out.trans (H7.out.mono HB6.out.size))
  have H17 := Lib.hid (H16.out.trans (H7.out.mono H16.out.size))
  clear hb
  go_wp2_with fail
  refine hK.out _ _ H7 (fun _ => ?_)
  clear hK K hS
  refine wpAnyH_other (S' := fun w' => Hid (Below W7.heap.size W7 w')) (fun w hw => Lib.hid (H7.out.trans (hw.out.mono H7.out.size))) _ _ _ _ ?_
  have hS : Hid (Below W7.heap.size W7 W7) := Lib.hid (Below.refl _ _)
  try simp only [Act.put, List.getElem_toArray, List.getElem_cons_succ, List.getElem_cons_zero, List.setIfInBounds_toArray, List.set_cons_zero, List.set_cons_succ]
  refine wpAnyH_take (i := 28) (v := ?_) rfl (by kernel_rfl) (by kernel_rfl) (by kernel_rfl) (fun _ _ _ h => h) (Or.inl ⟨by rfl, ?_⟩) hS ?_
  rotate_left
  · intro w hw
    go_simp
    try with_reducible rfl
  try simp only [Act.put, List.getElem_toArray, List.getElem_cons_succ, List.getElem_cons_zero, List.setIfInBounds_toArray, List.set_cons_zero, List.set_cons_succ]
  refine wpAnyH_take (i := 29) (v := ?_) rfl (by kernel_rfl) (by kernel_rfl) (by kernel_rfl) (fun _ _ _ h => h) (Or.inl ⟨by rfl, ?_⟩) hS ?_
  rotate_left
  · intro w hw
    go_simp
    try with_reducible rfl
  try simp only [Act.put, List.getElem_toArray, List.getElem_cons_succ, List.getElem_cons_zero, List.setIfInBounds_toArray, List.set_cons_zero, List.set_cons_succ]
  refine wpAnyH_done (by kernel_rfl) ?_ _
  obtain ⟨p0, p1, _, _⟩ := (HX.out _ H17.out).facts2
  clear hS
  have h37 : Below W3.heap.size W3 W7 := (((H4.out.trans (H5.out.mono H4.out.size)).trans (H6.out.mono (Nat.le_trans H4.out.size H5.out.size))).trans (H7.out.mono (Nat.le_trans (Nat.le_trans H4.out.size H5.out.size) H6.out.size)))
  have hrd := read_all A3 c3 Bs W7 ((L3.out.below h37).up h37.size) C3.out M3.out B8.out (by omega)
  have HRD := Lib.hid hrd
  clear h37 hrd
  go_wp2_with fail
  refine HRD.out.mono ?_
  rintro e W8 ⟨A8, c8, M, rfl, hM, hO8, hb8⟩
  rw [RD.out] at hM ⊢
  rcases H3.out with rfl | rfl | rfl
  · rw [if_pos rfl] at hM ⊢
    have hba := Joins.below_alloc1 W8 (.cells #[.int .u64 (s : Int), .slice A8 M.length c8] 25)
    have h79 := hb8.trans (hba.mono hb8.size)
    have b9 := HX.out _ (H17.out.trans (h79.mono H17.out.size))
    have b10 := Box.new W8 25 [.int .u64 (s : Int), .slice A8 M.length c8]
    have HB9 := Lib.hid (HB7.out.trans (h79.mono HB7.out.size))
    have HSA := Lib.hid (same_batch s A A8 c c8 L M _ (HO.out.next HB9.out) (hO8.next hba) hM.symm)
    clear p0 p1
    obtain ⟨p0, p1, _, _⟩ := b9.facts2
    obtain ⟨q0, q1, _, _⟩ := b10.facts2
    clear hM hO8 hb8 hba h79 b9 b10
    go_wp2_with (go_at_call 12; refine (num_any _ _).mono ?_; rintro e w' ⟨rfl, rfl⟩)
    refine HSA.out.mono ?_
    rintro e W9 ⟨rfl, hb9⟩
    have HB10 := Lib.hid (HB9.out.trans (hb9.mono HB9.out.size))
    clear hb9 HSA p0 p1 q0 q1
    go_wp2_with fail
    go_ret
    exact ⟨rfl, HB10.out⟩
  · have h89 := hb8.trans ((Joins.below_alloc1 W8 (.cells #[.int .u64 0, .slice A8 M.length c8] 25)).mono hb8.size)
    have HB9 := Lib.hid (HB7.out.trans (h89.mono HB7.out.size))
    clear hM hO8 hb8 h89 p0 p1
    rw [if_neg (by decide)]
    go_wp2_with fail
    go_ret
    exact ⟨rfl, HB9.out⟩
  · have h89 := hb8.trans ((Joins.below_alloc1 W8 (.cells #[.int .u64 0, .slice A8 M.length c8] 25)).mono hb8.size)
    have HB9 := Lib.hid (HB7.out.trans (h89.mono HB7.out.size))
    clear hM hO8 hb8 h89 p0 p1
    rw [if_neg (by decide)]
    go_wp2_with fail
    go_ret
    exact ⟨rfl, HB9.out⟩

set_option maxRecDepth 100000 in
theorem lifted (os : Os) (started : os.Started) (H : Type) (enc : TypeId × Value → H) :
    ReturnsInHanded {} Try.checked os 3 .any (Rows.batchBytesSpec.pre6 enc Try.prog Try.f3 Rows.batchBytesRow.domain false) (Rows.batchBytesSpec.post enc Try.prog Try.f3 false true false false) := by
  refine lift_true (C := Try.checked) own started (by kernel_rfl) Try.func3
    (ChangeSpec.witness6 (enc := enc) (C := Try.checked) false ⟨#[], #[.agg #[.int .u64 0, .slice none 0 0]], []⟩ 8 (by kernel_rfl) (by kernel_rfl) (by kernel_rfl) (by kernel_rfl))
    (by kernel_rfl) (by kernel_rfl) (by kernel_rfl) Try.underlying4 rfl ?_ ?_
  · intro ds hds
    match ds, hds with
    | [d1], _ => exact ⟨rfl, rfl, rfl⟩
  · intro W base args ds p hval0 hA0 hlt _
    have hval : ∀ (j : Nat) t v, Try.f3.params[j]? = some t → args[j]? = some v → Value.okWide Try.prog W .any base t v := hval0
    have hA : DataW.TrodAll enc Try.prog W 0 (fun _ => true) true Try.f3.params.toList args.toList ds p := hA0
    rw [Try.params3] at hA hval
    obtain ⟨v0, vs0, d0, ds0, p0, q0, hargs, rfl, rfl, h0, r0⟩ := trodAll_cons hA
    obtain ⟨rfl, rfl, rfl⟩ := trodAll_nil r0
    obtain rfl : args = #[v0] := by cases args; simp_all
    obtain ⟨s0, A0, c0, L0, rfl, hs0, hO0⟩ := Bt.open_batch (hval 0 _ v0 rfl rfl) h0 (fun x hx => hlt x (by simp [hx]))
    cases hg : bigB L0
    · exact walk _ s0 A0 c0 L0 W hs0 hO0 hg rfl
    · exact walk_out s0 A0 c0 L0 W hO0 hg

theorem over : Rows.batchBytesRow.holds Try.pinned (OpenSpec.ofChange Rows.batchBytesSpec) :=
  OpenClaim.holds_of_wide 3 Try.f3 rfl rfl rfl rfl rfl rfl rfl ⟨rfl, rfl, rfl, rfl, rfl⟩ rfl rfl rfl rfl rfl (by kernel_rfl) Try.func3 (by kernel_rfl)
    (of_decide_eq_true (by kernel_rfl)) (by unfold Func.isWrapper; first | (rw [if_pos (by decide +kernel)]; kernel_rfl) | (rw [if_neg (by decide +kernel)]; exact ⟨rfl, rfl⟩))
    (fun os started H enc _ => lifted os started H enc)

theorem proved : Rows.BatchBytesSaid :=
  over
#print axioms proved
end Go.Proofs.Ytggliedlfccicaa.batchBytes
