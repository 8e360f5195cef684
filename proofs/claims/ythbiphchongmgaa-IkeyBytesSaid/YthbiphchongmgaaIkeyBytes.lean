/- Proved: for any key, IkeyBytes of butterylaw4 answers true (Right and Bytes of package ikey agree with the definition, invalid keys have an empty encoding, and Read inverts Bytes), and its argument reads as before. Conditions: none beyond what the given row states. -/
import Derived.Test.YthbiphchongmgaaKread
namespace Go.Proofs.Ythbiphchongmgaa.ikeyBytes
set_option linter.unusedVariables false
set_option linter.unusedSimpArgs false
open Go.ChangeShapes Go.WideShapes Go.ChangeAt Go.RowKit Lift Ik

theorem own : ownKnob Try.prog.godebug = none := by kernel_rfl

theorem sameK_self (a : K) : sameK a a = true := by simp [sameK]
theorem back {a : K} (h : okB a.key.length a.seq a.kind = true) : resK (bytesK a) = a ∧ resE (bytesK a) = 0 := by
  obtain ⟨n1, n2, s1, k1⟩ : 1 ≤ a.key.length ∧ a.key.length ≤ 256 ∧ a.seq ≤ 72057594037927935 ∧ (a.kind = 0 ∨ a.kind = 1) := by simpa [okB] using h
  have hb : bytesK a = a.key ++ low (a.seq * 256 + a.kind.toNat) 8 := by unfold bytesK; rw [if_pos h]
  have hl : (bytesK a).length - 8 = a.key.length := by rw [hb, List.length_append, low_length]; omega
  have h9 : ¬ (bytesK a).length < 9 := by rw [hb, List.length_append, low_length]; omega
  have hr : rawK (bytesK a) = a := by
    unfold rawK
    rw [hl, hb, List.take_left' rfl, List.drop_left' rfl, num_low _ _ (by omega)]
    have e1 : (a.seq * 256 + a.kind.toNat) / 256 = a.seq := by omega
    have e2 : (((a.seq * 256 + a.kind.toNat) % 256 : Nat) : Int) = a.kind := by omega
    rw [e1, e2]
  have ho : okR (bytesK a) = true := by unfold okR; rw [hr]; exact h
  unfold resK resE
  rw [if_neg h9, if_pos ho, if_neg h9, if_pos ho]
  exact ⟨hr, rfl⟩
theorem bytesK_byte {a : K} (h : a.ok) : ∀ x, x ∈ bytesK a → x < 256 := by
  intro x hx
  unfold bytesK at hx
  split at hx
  · rcases List.mem_append.1 hx with h1 | h1
    · exact h.1 x h1
    · exact low_byte _ _ x h1
  · simp at hx
theorem bytesK_len (a : K) : (bytesK a).length ≤ a.key.length + 8 := by
  unfold bytesK
  split
  · rw [List.length_append, low_length]; exact Nat.le_refl _
  · simp

set_option maxHeartbeats 400000 in
theorem walk_out (A : Option Addr) (c : Nat) (a : K) (w : World) (h : 400 < a.key.length) : Calls Try.prog 3 #[key A c a] w (Yes w) := by
  go_enter Try.func3, Try.ntmps3
  go_wp2_with fail
  have hb0 := Joins.below_alloc1 w (.cells #[.slice A a.key.length c, .int .u64 (a.seq : Int), .int .i64 a.kind] 25)
  have hz : (w.alloc (.cells #[.slice A a.key.length c, .int .u64 (a.seq : Int), .int .i64 a.kind] 25)).heap.size = w.heap.size + 1 := by simp
  have t1 := Box.new w A c a
  generalize (w.alloc (.cells #[.slice A a.key.length c, .int .u64 (a.seq : Int), .int .i64 a.kind] 25)) = W0 at hb0 hz t1 ⊢
  have HB0 := Lib.hid hb0
  have B1 := Lib.hid fun w' (hb : Below W0.heap.size W0 w') => t1.later hb (by omega)
  refine (alive_any _).mono ?_; rintro e W1 ⟨rfl, hb1⟩
  have HB1 := Lib.hid hb1
  clear hb1 hb0 hz t1
  obtain ⟨p1, p2, p3⟩ := B1.out _ HB1.out
  go_wp2_with fail
  go_ret
  exact ⟨rfl, HB0.out.trans (HB1.out.mono HB0.out.size)⟩

set_option maxRecDepth 100000 in
set_option maxHeartbeats 1600000 in
theorem walk (ok : Bool) (A : Option Addr) (c : Nat) (a : K) (w : World) (hat : At w w.heap.size A c a) (h : a.key.length ≤ 400) (hok : okB a.key.length a.seq a.kind = ok) : Calls Try.prog 3 #[key A c a] w (Yes w) := by
  have AT := Lib.hid fun w' (hb : Below w.heap.size w w') => hat.next hb
  have hr := fun W => right_any A c a.key.length a.seq a.kind W
  have hrr := fun W => rright_any A c a.key.length a.seq a.kind W
  rw [hok] at hr hrr
  have HR := Lib.hid hr
  have HRR := Lib.hid hrr
  have HLEN := bytesK_len a
  have H8 := Lib.hid (bytesK_byte hat.2.2.2)
  have OK := Lib.hid hok
  clear hat hr hrr hok
  go_enter Try.func3, Try.ntmps3
  go_wp2_with fail
  have hb0 := Joins.below_alloc1 w (.cells #[.slice A a.key.length c, .int .u64 (a.seq : Int), .int .i64 a.kind] 25)
  have hz : (w.alloc (.cells #[.slice A a.key.length c, .int .u64 (a.seq : Int), .int .i64 a.kind] 25)).heap.size = w.heap.size + 1 := by simp
  have t1 := Box.new w A c a
  generalize (w.alloc (.cells #[.slice A a.key.length c, .int .u64 (a.seq : Int), .int .i64 a.kind] 25)) = W0 at hb0 hz t1 ⊢
  have HB0 := Lib.hid hb0
  have B1 := Lib.hid fun w' (hb : Below W0.heap.size W0 w') => t1.later hb (by omega)
  refine (alive_any _).mono ?_; rintro e W1 ⟨rfl, hb1⟩
  have HB1 := Lib.hid hb1
  clear hb1 hb0 hz t1
  obtain ⟨p1, p2, p3⟩ := B1.out _ HB1.out
  go_wp2_with fail
  have h1 := HB0.out.trans (HB1.out.mono HB0.out.size)
  refine (bytes_any A c a W1 (AT.out _ h1)).mono ?_
  intro e W2 hm2
  obtain ⟨A2, c2, rfl, hc2, hm2', hl2, hb2⟩ := hm2.parts
  have HB2 := Lib.hid (HB1.out.trans (hb2.mono HB1.out.size))
  have HX2 := Lib.hid (h1.trans (hb2.mono h1.size))
  have L2 := Lib.hid hl2
  have HC2 := Lib.hid hc2
  have HM2 := Lib.hid hm2'
  clear hm2 hc2 hm2' hl2 hb2 h1 p1 p2 p3
  obtain ⟨bs, hbs⟩ : ∃ bs, bs = bytesK a := ⟨_, rfl⟩
  have BS := Lib.hid hbs
  rw [← hbs] at L2 HC2 H8 HLEN ⊢
  clear hbs
  go_wp2_with fail
  refine wp_region_held_drew (S := fun w' => Hid (Below W2.heap.size W2 w')) (by kernel_rfl) (Lib.hid (Below.refl _ _).drew) (fun hS => ?_)
  refine wpAnyH_take (i := 0) (v := ?_) rfl (by kernel_rfl) (by kernel_rfl) (by kernel_rfl) (fun _ _ _ h => h) (Or.inl ⟨by rfl, ?_⟩) hS ?_
  rotate_left
  · intro w hw
    obtain ⟨p1, p2, p3⟩ := B1.out w (HB2.out.trans (hw.out.mono HB2.out.size))
    go_simp
    try with_reducible rfl
  try simp only [Act.put, List.getElem_toArray, List.getElem_cons_succ, List.getElem_cons_zero, List.setIfInBounds_toArray, List.set_cons_zero, List.set_cons_succ]
  refine wpAnyH_take (i := 2) (v := ?_) rfl (by kernel_rfl) (by kernel_rfl) (by kernel_rfl) (fun _ _ _ h => h) (Or.inl ⟨by rfl, ?_⟩) hS ?_
  rotate_left
  · intro w hw
    obtain ⟨p1, p2, p3⟩ := B1.out w (HB2.out.trans (hw.out.mono HB2.out.size))
    go_simp
    try with_reducible rfl
  try simp only [Act.put, List.getElem_toArray, List.getElem_cons_succ, List.getElem_cons_zero, List.setIfInBounds_toArray, List.set_cons_zero, List.set_cons_succ]
  refine wpAnyH_ready (rs := [1]) (by kernel_rfl) (by simp) ?_
  refine AllReadyH.cons rfl (fun K hK => ?_) AllReadyH.nil
  go_simp
  refine (HR.out _).mono ?_; rintro e W3 ⟨rfl, hb⟩
  have H3 := Lib.hid (hS.out.trans (hb.mono hS.out.size))
  have HB3 := Lib.hid (HB2.out.trans (H3.out.mono HB2.out.size))
  have HX3 := Lib.hid (HX2.out.trans (H3.out.mono HX2.out.size))
  clear hb
  go_wp2_with fail
  refine hK.out _ _ H3 (fun _ => ?_)
  clear hK K hS
  refine wpAnyH_other (S' := fun w' => Hid (Below W3.heap.size W3 w')) (fun w hw => Lib.hid (H3.out.trans (hw.out.mono H3.out.size))) _ _ _ _ ?_
  have hS : Hid (Below W3.heap.size W3 W3) := Lib.hid (Below.refl _ _)
  try simp only [Act.put, List.getElem_toArray, List.getElem_cons_succ, List.getElem_cons_zero, List.setIfInBounds_toArray, List.set_cons_zero, List.set_cons_succ]
  refine wpAnyH_ready (rs := [3]) (by kernel_rfl) (by simp) ?_
  refine AllReadyH.cons rfl (fun K hK => ?_) AllReadyH.nil
  go_simp
  refine (HRR.out _).mono ?_; rintro e W4 ⟨rfl, hb⟩
  have H4 := Lib.hid (hS.out.trans (hb.mono hS.out.size))
  have HB4 := Lib.hid (HB3.out.trans (H4.out.mono HB3.out.size))
  have HX4 := Lib.hid (HX3.out.trans (H4.out.mono HX3.out.size))
  clear hb
  go_wp2_with fail
  refine hK.out _ _ H4 (fun _ => ?_)
  clear hK K hS
  refine wpAnyH_other (S' := fun w' => Hid (Below W4.heap.size W4 w')) (fun w hw => Lib.hid (H4.out.trans (hw.out.mono H4.out.size))) _ _ _ _ ?_
  have hS : Hid (Below W4.heap.size W4 W4) := Lib.hid (Below.refl _ _)
  try simp only [Act.put, List.getElem_toArray, List.getElem_cons_succ, List.getElem_cons_zero, List.setIfInBounds_toArray, List.set_cons_zero, List.set_cons_succ]
  refine wpAnyH_take (i := 4) (v := ?_) rfl (by kernel_rfl) (by kernel_rfl) (by kernel_rfl) (fun _ _ _ h => h) (Or.inl ⟨by rfl, ?_⟩) hS ?_
  rotate_left
  · intro w hw
    go_simp
    try with_reducible rfl
  try simp only [Act.put, List.getElem_toArray, List.getElem_cons_succ, List.getElem_cons_zero, List.setIfInBounds_toArray, List.set_cons_zero, List.set_cons_succ]
  refine wpAnyH_take (i := 5) (v := ?_) rfl (by kernel_rfl) (by kernel_rfl) (by kernel_rfl) (fun _ _ _ h => h) (Or.inl ⟨by rfl, ?_⟩) hS ?_
  rotate_left
  · intro w hw
    go_simp
    try with_reducible rfl
  try simp only [Act.put, List.getElem_toArray, List.getElem_cons_succ, List.getElem_cons_zero, List.setIfInBounds_toArray, List.set_cons_zero, List.set_cons_succ]
  refine wpAnyH_take (i := 6) (v := ?_) rfl (by kernel_rfl) (by kernel_rfl) (by kernel_rfl) (fun _ _ _ h => h) (Or.inl ⟨by rfl, ?_⟩) hS ?_
  rotate_left
  · intro w hw
    go_simp
    try with_reducible rfl
  try simp only [Act.put, List.getElem_toArray, List.getElem_cons_succ, List.getElem_cons_zero, List.setIfInBounds_toArray, List.set_cons_zero, List.set_cons_succ]
  refine wpAnyH_take (i := 7) (v := ?_) rfl (by kernel_rfl) (by kernel_rfl) (by kernel_rfl) (fun _ _ _ h => h) (Or.inl ⟨by rfl, ?_⟩) hS ?_
  rotate_left
  · intro w hw
    have hs7 := run_str (c := c2) (L2.out.below ((H3.out.trans (H4.out.mono H3.out.size)).trans (hw.out.mono (Nat.le_trans H3.out.size H4.out.size))))
    go_simp
    try with_reducible rfl
  try simp only [Act.put, List.getElem_toArray, List.getElem_cons_succ, List.getElem_cons_zero, List.setIfInBounds_toArray, List.set_cons_zero, List.set_cons_succ]
  refine wpAnyH_take (i := 8) (v := ?_) rfl (by kernel_rfl) (by kernel_rfl) (by kernel_rfl) (fun _ _ _ h => h) (Or.inl ⟨by rfl, ?_⟩) hS ?_
  rotate_left
  · intro w hw
    obtain ⟨p1, p2, p3⟩ := B1.out w (HB4.out.trans (hw.out.mono HB4.out.size))
    go_simp
    try with_reducible rfl
  try simp only [Act.put, List.getElem_toArray, List.getElem_cons_succ, List.getElem_cons_zero, List.setIfInBounds_toArray, List.set_cons_zero, List.set_cons_succ]
  refine wpAnyH_ready (rs := [9]) (by kernel_rfl) (by simp) ?_
  refine AllReadyH.cons rfl (fun K hK => ?_) AllReadyH.nil
  go_simp
  have hx9 := HX4.out.trans (hS.out.mono HX4.out.size)
  refine (rbytes_any A c a _ (AT.out _ hx9)).mono ?_
  intro e W5 hm5
  obtain ⟨A5, c5, rfl, _, _, hl5, hb⟩ := hm5.parts
  have H5 := Lib.hid (hS.out.trans (hb.mono hS.out.size))
  have HB5 := Lib.hid (HB4.out.trans (H5.out.mono HB4.out.size))
  have HX5 := Lib.hid (HX4.out.trans (H5.out.mono HX4.out.size))
  have L5 := Lib.hid hl5
  clear hm5 hl5 hb hx9
  rw [← BS.out] at L5 ⊢
  go_wp2_with fail
  refine hK.out _ _ H5 (fun _ => ?_)
  clear hK K hS
  refine wpAnyH_other (S' := fun w' => Hid (Below W5.heap.size W5 w')) (fun w hw => Lib.hid (H5.out.trans (hw.out.mono H5.out.size))) _ _ _ _ ?_
  have hS : Hid (Below W5.heap.size W5 W5) := Lib.hid (Below.refl _ _)
  try simp only [Act.put, List.getElem_toArray, List.getElem_cons_succ, List.getElem_cons_zero, List.setIfInBounds_toArray, List.set_cons_zero, List.set_cons_succ]
  refine wpAnyH_take (i := 10) (v := ?_) rfl (by kernel_rfl) (by kernel_rfl) (by kernel_rfl) (fun _ _ _ h => h) (Or.inl ⟨by rfl, ?_⟩) hS ?_
  rotate_left
  · intro w hw
    have hs10 := run_str (c := c5) (L5.out.below hw.out)
    go_simp
    try with_reducible rfl
  try simp only [Act.put, List.getElem_toArray, List.getElem_cons_succ, List.getElem_cons_zero, List.setIfInBounds_toArray, List.set_cons_zero, List.set_cons_succ]
  refine wpAnyH_take (i := 11) (v := ?_) rfl (by kernel_rfl) (by kernel_rfl) (by kernel_rfl) (fun _ _ _ h => h) (Or.inl ⟨by rfl, ?_⟩) hS ?_
  rotate_left
  · intro w hw
    go_simp
    try with_reducible rfl
  try simp only [Act.put, List.getElem_toArray, List.getElem_cons_succ, List.getElem_cons_zero, List.setIfInBounds_toArray, List.set_cons_zero, List.set_cons_succ]
  refine wpAnyH_take (i := 12) (v := ?_) rfl (by kernel_rfl) (by kernel_rfl) (by kernel_rfl) (fun _ _ _ h => h) (Or.inl ⟨by rfl, ?_⟩) hS ?_
  rotate_left
  · intro w hw
    go_simp
    try with_reducible rfl
  try simp only [Act.put, List.getElem_toArray, List.getElem_cons_succ, List.getElem_cons_zero, List.setIfInBounds_toArray, List.set_cons_zero, List.set_cons_succ]
  refine wpAnyH_done (by kernel_rfl) ?_ _
  obtain ⟨p1, p2, p3⟩ := B1.out _ HB5.out
  go_wp2_with fail
  refine (HR.out _).mono ?_; rintro e W6 ⟨rfl, hb6⟩
  have HB6 := Lib.hid (HB5.out.trans (hb6.mono HB5.out.size))
  have HX6 := Lib.hid (HX5.out.trans (hb6.mono HX5.out.size))
  have h26 := (((H3.out.trans (H4.out.mono H3.out.size)).trans (H5.out.mono (Nat.le_trans H3.out.size H4.out.size))).trans (hb6.mono (Nat.le_trans (Nat.le_trans H3.out.size H4.out.size) H5.out.size)))
  have L6 := Lib.hid ((L2.out.below h26).up h26.size)
  clear hb6 h26 p1 p2 p3
  cases ok
  · obtain rfl : bs = [] := by
      rw [BS.out]; unfold bytesK; rw [OK.out]; rfl
    go_wp2_with fail
    go_ret
    exact ⟨rfl, HX6.out⟩
  · obtain ⟨hk, he⟩ := back OK.out
    rw [← BS.out] at hk he
    have hrd := read_all A2 c2 bs W6 L6.out HC2.out HM2.out H8.out (by omega)
    have HRD := Lib.hid hrd
    have HK := Lib.hid hk
    have HE := Lib.hid he
    clear hk he hrd
    go_wp2_with fail
    refine HRD.out.mono ?_; rintro e W7 ⟨A7, c7, rfl, at7, hb7⟩
    rw [HK.out] at at7 ⊢
    rw [HE.out]
    have hb8 := Joins.below_alloc1 W7 (.cells #[.slice A7 a.key.length c7, .int .u64 (a.seq : Int), .int .i64 a.kind] 25)
    have h78 := hb7.trans (hb8.mono hb7.size)
    have HX8 := Lib.hid (HX6.out.trans (h78.mono HX6.out.size))
    obtain ⟨p1, p2, p3⟩ := B1.out _ (HB6.out.trans (h78.mono HB6.out.size))
    obtain ⟨q1, q2, q3⟩ := Box.new W7 A7 c7 a
    have AT8 := Lib.hid (at7.next hb8)
    clear at7 hb7 hb8 h78 HRD
    go_wp2_with (go_at_call 14; refine (num_any _ _).mono ?_; rintro e w' ⟨rfl, rfl⟩)
    refine (same_as true A7 A c7 c a a _ (sameK_self a) AT8.out (AT.out _ HX8.out)).mono ?_; rintro e W9 ⟨rfl, hb9⟩
    have HX9 := Lib.hid (HX8.out.trans (hb9.mono HX8.out.size))
    clear hb9 p1 p2 p3 q1 q2 q3
    go_wp2_with fail
    go_ret
    exact ⟨rfl, HX9.out⟩

set_option maxRecDepth 100000 in
theorem lifted (os : Os) (started : os.Started) (H : Type) (enc : TypeId × Value → H) :
    ReturnsInHanded {} Try.checked os 3 .any (Rows.ikeyBytesSpec.pre6 enc Try.prog Try.f3 Rows.ikeyBytesRow.domain false) (Rows.ikeyBytesSpec.post enc Try.prog Try.f3 false true false false) := by
  refine lift_true (C := Try.checked) own started (by kernel_rfl) Try.func3
    (ChangeSpec.witness6 (enc := enc) (C := Try.checked) false ⟨#[], #[.agg #[.slice none 0 0, .int .u64 0, .int .i64 0]], []⟩ 8 (by kernel_rfl) (by kernel_rfl) (by kernel_rfl) (by kernel_rfl))
    (by kernel_rfl) (by kernel_rfl) (by kernel_rfl) Try.underlying4 rfl ?_ ?_
  · intro ds hds
    match ds, hds with
    | [d1], _ => exact ⟨rfl, rfl, rfl⟩
  · intro W base args ds p hval0 hA0 hlt _
    have hval : ∀ (j : Nat) t v, Try.f3.params[j]? = some t → args[j]? = some v → Value.okWide Try.prog W .any base t v := hval0
    have hA : DataW.TrodAll enc Try.prog W 0 (fun _ => true) true Try.f3.params.toList args.toList ds p := hA0
    rw [Try.params3] at hA hval
    obtain ⟨v0, vs0, d0, ds0, p0, q0, hargs, rfl, rfl, h0, r0⟩ := trodAll_cons hA
    obtain ⟨rfl, rfl, rfl⟩ := trodAll_nil r0
    obtain rfl : args = #[v0] := by cases args; simp_all
    obtain ⟨A0, c0, k0, rfl, hk0⟩ := Ik.open_key (hval 0 _ v0 rfl rfl) h0 (fun x hx => hlt x (by simp [hx]))
    by_cases h : 400 < k0.key.length
    · exact walk_out A0 c0 k0 W h
    · exact walk _ A0 c0 k0 W hk0 (by omega) rfl

theorem over : Rows.ikeyBytesRow.holds Try.pinned (OpenSpec.ofChange Rows.ikeyBytesSpec) :=
  OpenClaim.holds_of_wide 3 Try.f3 rfl rfl rfl rfl rfl rfl rfl ⟨rfl, rfl, rfl, rfl, rfl⟩ rfl rfl rfl rfl rfl (by kernel_rfl) Try.func3 (by kernel_rfl)
    (of_decide_eq_true (by kernel_rfl)) (by unfold Func.isWrapper; first | (rw [if_pos (by decide +kernel)]; kernel_rfl) | (rw [if_neg (by decide +kernel)]; exact ⟨rfl, rfl⟩))
    (fun os started H enc _ => lifted os started H enc)

theorem proved : Rows.IkeyBytesSaid :=
  over
#print axioms proved
end Go.Proofs.Ythbiphchongmgaa.ikeyBytes
