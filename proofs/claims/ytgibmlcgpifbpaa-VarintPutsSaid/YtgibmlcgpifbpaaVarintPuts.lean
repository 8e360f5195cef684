/- Proved: for any bytes and any two numbers, VarintPuts of butterylaw2 answers true (Put and PutInt of package varint agree with the definition behind any bytes, and Get and GetInt give back the number and the index after it), and its argument reads as before. Conditions: none beyond what the given row states. -/
import Derived.Test.YtgibmlcgpifbpaaLaw2
import Derived.Deep.RegionWith
namespace Go.Proofs.Ytgibmlcgpifbpaa.varintPuts
set_option linter.unusedVariables false
set_option linter.unusedSimpArgs false
open Go.ChangeShapes Go.WideShapes Go.ChangeAt Go.RowKit Lift Vn Vt

theorem own : ownKnob Try.prog.godebug = none := by kernel_rfl

set_option maxRecDepth 100000 in
set_option maxHeartbeats 800000 in
theorem walk (A : Option Addr) (c x : Nat) (n : Int) (bs : List Nat) (W : World) (hl : Lies W W.heap.size A (bs.map vb)) (hcap : bs.length ≤ c) (hm : c ≤ maxLen) (hb : ∀ x, x ∈ bs → x < 256)
    (hx : x < 18446744073709551616) (h1 : -9223372036854775808 ≤ n) (h2 : n ≤ 9223372036854775807) :
    Calls Try.prog 3 #[.slice A bs.length c, .int .u64 x, .int .i64 n] W (Yes W) := by
  have hm' : bs.length ≤ maxLen := Nat.le_trans hcap hm
  unfold maxLen at hm'
  have HL := Lib.hid hl
  have HX := Lib.hid hx
  clear hl hx
  by_cases h200 : 200 < bs.length
  · go_enter Try.func3, Try.ntmps3
    go_wp2_with fail
    refine (alive_any _).mono ?_; rintro e W1 ⟨rfl, hb1⟩
    have HB1 := Lib.hid hb1
    clear hb1
    go_wp2_with fail
    go_ret
    exact ⟨rfl, HB1.out⟩
  · have hxe := enc_len x
    have hne := enc_len (zig n)
    go_enter Try.func3, Try.ntmps3
    go_wp2_with fail
    refine (alive_any _).mono ?_; rintro e W1 ⟨rfl, hb1⟩
    have hl1 := (HL.out.below hb1).up hb1.size
    obtain ⟨A2, c2, W2, hr2, hc2, hm2, hl2, hb2⟩ := fresh_copy A c _ bs W1 hl1 (by omega)
    have HR := Lib.hid hr2
    have HB2 := Lib.hid (hb1.trans (hb2.mono hb1.size))
    have L1 := Lib.hid (hl1.below hb2)
    have L2 := Lib.hid hl2
    clear hr2 hb1 hb2 hl1 hl2
    go_wp2_with (at_builtin; refine wpList_append_run rfl _ _ 22 rfl rfl rfl HR.out ?_)
    refine (put_calls A2 c2 x bs W2 L2.out (by omega) HX.out).mono ?_
    intro e W3 hp
    obtain ⟨Ap, cp, rfl, hcp, hmp, hlp, hb3⟩ := hp.parts
    have HB3 := Lib.hid (HB2.out.trans (hb3.mono HB2.out.size))
    have LP := Lib.hid hlp
    clear hp hlp hb3 HR L1 L2
    obtain ⟨A3, c3, W4, hr4, hc3, hm3, hl4, hb4⟩ := fresh_copy A c W3.heap.size bs W3 ((HL.out.below HB3.out).up HB3.out.size) (by omega)
    have HR := Lib.hid hr4
    have HB4 := Lib.hid (HB3.out.trans (hb4.mono HB3.out.size))
    have LP4 := Lib.hid (LP.out.below hb4)
    have L4 := Lib.hid hl4
    have S4 := Lib.hid hb4.size
    clear hr4 hb4 hl4
    go_wp2_with (at_builtin; refine wpList_append_run rfl _ _ 22 rfl rfl rfl HR.out ?_)
    refine (puti_calls A3 c3 n bs W4 L4.out (by omega) h1 h2).mono ?_
    intro e W5 hp
    obtain ⟨Aq, cq, rfl, hcq, hmq, hlq, hb5⟩ := hp.parts
    have HB5 := Lib.hid (HB4.out.trans (hb5.mono HB4.out.size))
    have L0 := Lib.hid ((HL.out.below HB5.out).up HB5.out.size)
    have LP5 := Lib.hid (((LP4.out.up S4.out).below hb5).up hb5.size)
    have LQ := Lib.hid hlq
    clear hp hlq hb5 HR L4 LP4 S4
    have ep : ∀ w', Below W5.heap.size W5 w' → Sem.run Try.prog (convert 22 9 (.slice Ap (bs.length + (enc x).length) cp)) w' = .ok (.string (str (bs ++ enc x))) w' :=
      fun w' hb => by rw [← List.length_append]; exact run_string_lies (P := Try.prog) (c := cp) _ _ 5 Try.underlying22 Try.underlying5 Try.underlying9 (LP5.out.below hb)
    have eq : ∀ w', Below W5.heap.size W5 w' → Sem.run Try.prog (convert 22 9 (.slice Aq (bs.length + (enc (zig n)).length) cq)) w' = .ok (.string (str (bs ++ enc (zig n)))) w' :=
      fun w' hb => by rw [← List.length_append]; exact run_string_lies (P := Try.prog) (c := cq) _ _ 5 Try.underlying22 Try.underlying5 Try.underlying9 (LQ.out.below hb)
    have EP := Lib.hid ep
    have EQ := Lib.hid eq
    clear ep eq
    go_wp2_with fail
    refine wp_region_held_drew (S := fun w' => Hid (Below W5.heap.size W5 w')) (by kernel_rfl) (Lib.hid (Below.refl _ _).drew) (fun hS => ?_)
    refine wpAnyH_take (i := 0) (v := ?_) rfl (by kernel_rfl) (by kernel_rfl) (by kernel_rfl) (fun _ _ _ h => h) (Or.inl ⟨by rfl, ?_⟩) hS ?_
    rotate_left
    · intro w hw
      go_simp
      try with_reducible rfl
    try simp only [Act.put, List.setIfInBounds_toArray, List.set_cons_zero, List.set_cons_succ]
    refine wpAnyH_take (i := 1) (v := ?_) rfl (by kernel_rfl) (by kernel_rfl) (by kernel_rfl) (fun _ _ _ h => h) (Or.inl ⟨by rfl, ?_⟩) hS ?_
    rotate_left
    · intro w hw
      have hc := EP.out w hw.out
      go_simp
      try with_reducible rfl
    try simp only [Act.put, List.setIfInBounds_toArray, List.set_cons_zero, List.set_cons_succ]
    refine wpAnyH_take (i := 2) (v := ?_) rfl (by kernel_rfl) (by kernel_rfl) (by kernel_rfl) (fun _ _ _ h => h) (Or.inl ⟨by rfl, ?_⟩) hS ?_
    rotate_left
    · intro w hw
      go_simp
      try with_reducible rfl
    try simp only [Act.put, List.setIfInBounds_toArray, List.set_cons_zero, List.set_cons_succ]
    refine wpAnyH_take (i := 3) (v := ?_) rfl (by kernel_rfl) (by kernel_rfl) (by kernel_rfl) (fun _ _ _ h => h) (Or.inl ⟨by rfl, ?_⟩) hS ?_
    rotate_left
    · intro w hw
      go_simp
      try with_reducible rfl
    try simp only [Act.put, List.setIfInBounds_toArray, List.set_cons_zero, List.set_cons_succ]
    refine wpAnyH_ready (rs := [4]) (by kernel_rfl) (by simp) ?_
    refine AllReadyH.cons rfl (fun K hK => ?_) AllReadyH.nil
    go_simp
    refine (putv_calls A c x bs _ ((L0.out.below hS.out).up hS.out.size) (by omega) HX.out).mono ?_
    intro e W6 hp6
    obtain ⟨A6, c6, rfl, _, _, hl6, hb6⟩ := hp6.parts
    clear hp6
    have H6 := Lib.hid (hS.out.trans (hb6.mono hS.out.size))
    have L6 := Lib.hid hl6
    clear hl6 hb6
    go_wp2_with fail
    refine hK.out _ _ H6 (fun _ => ?_)
    clear hK K hS
    refine wpAnyH_other (S' := fun w' => Hid (Below W6.heap.size W6 w')) (fun w hw => Lib.hid (H6.out.trans (hw.out.mono H6.out.size))) _ _ _ _ ?_
    have hS : Hid (Below W6.heap.size W6 W6) := Lib.hid (Below.refl _ _)
    try simp only [Act.put, List.setIfInBounds_toArray, List.set_cons_zero, List.set_cons_succ]
    refine wpAnyH_take (i := 5) (v := ?_) rfl (by kernel_rfl) (by kernel_rfl) (by kernel_rfl) (fun _ _ _ h => h) (Or.inl ⟨by rfl, ?_⟩) hS ?_
    rotate_left
    · intro w hw
      have hc := run_string_lies (P := Try.prog) (c := c6) _ _ 5 Try.underlying22 Try.underlying5 Try.underlying9 (L6.out.below hw.out)
      rw [List.length_append] at hc
      go_simp
      try with_reducible rfl
    try simp only [Act.put, List.setIfInBounds_toArray, List.set_cons_zero, List.set_cons_succ]
    refine wpAnyH_take (i := 6) (v := ?_) rfl (by kernel_rfl) (by kernel_rfl) (by kernel_rfl) (fun _ _ _ h => h) (Or.inl ⟨by rfl, ?_⟩) hS ?_
    rotate_left
    · intro w hw
      go_simp
      try with_reducible rfl
    try simp only [Act.put, List.setIfInBounds_toArray, List.set_cons_zero, List.set_cons_succ]
    refine wpAnyH_take (i := 7) (v := ?_) rfl (by kernel_rfl) (by kernel_rfl) (by kernel_rfl) (fun _ _ _ h => h) (Or.inl ⟨by rfl, ?_⟩) hS ?_
    rotate_left
    · intro w hw
      go_simp
      try with_reducible rfl
    try simp only [Act.put, List.setIfInBounds_toArray, List.set_cons_zero, List.set_cons_succ]
    refine wpAnyH_take (i := 8) (v := ?_) rfl (by kernel_rfl) (by kernel_rfl) (by kernel_rfl) (fun _ _ _ h => h) (Or.inl ⟨by rfl, ?_⟩) hS ?_
    rotate_left
    · intro w hw
      go_simp
      try with_reducible rfl
    try simp only [Act.put, List.setIfInBounds_toArray, List.set_cons_zero, List.set_cons_succ]
    refine wpAnyH_take (i := 9) (v := ?_) rfl (by kernel_rfl) (by kernel_rfl) (by kernel_rfl) (fun _ _ _ h => h) (Or.inl ⟨by rfl, ?_⟩) hS ?_
    rotate_left
    · intro w hw
      have hc := EQ.out w (H6.out.trans (hw.out.mono H6.out.size))
      go_simp
      try with_reducible rfl
    try simp only [Act.put, List.setIfInBounds_toArray, List.set_cons_zero, List.set_cons_succ]
    refine wpAnyH_take (i := 10) (v := ?_) rfl (by kernel_rfl) (by kernel_rfl) (by kernel_rfl) (fun _ _ _ h => h) (Or.inl ⟨by rfl, ?_⟩) hS ?_
    rotate_left
    · intro w hw
      go_simp
      try with_reducible rfl
    try simp only [Act.put, List.setIfInBounds_toArray, List.set_cons_zero, List.set_cons_succ]
    refine wpAnyH_take (i := 11) (v := ?_) rfl (by kernel_rfl) (by kernel_rfl) (by kernel_rfl) (fun _ _ _ h => h) (Or.inl ⟨by rfl, ?_⟩) hS ?_
    rotate_left
    · intro w hw
      go_simp
      try with_reducible rfl
    try simp only [Act.put, List.setIfInBounds_toArray, List.set_cons_zero, List.set_cons_succ]
    refine wpAnyH_ready (rs := [12]) (by kernel_rfl) (by simp) ?_
    refine AllReadyH.cons rfl (fun K hK => ?_) AllReadyH.nil
    go_simp
    refine (putvi_calls A c n bs _ ((L0.out.below (H6.out.trans (hS.out.mono H6.out.size))).up (Nat.le_trans H6.out.size hS.out.size)) (by omega) h1 h2).mono ?_
    intro e W7 hp7
    obtain ⟨A7, c7, rfl, _, _, hl7, hb7⟩ := hp7.parts
    clear hp7
    have H7 := Lib.hid (hS.out.trans (hb7.mono hS.out.size))
    have L7 := Lib.hid hl7
    clear hl7 hb7
    go_wp2_with fail
    refine hK.out _ _ H7 (fun _ => ?_)
    clear hK K hS
    refine wpAnyH_other (S' := fun w' => Hid (Below W7.heap.size W7 w')) (fun w hw => Lib.hid (H7.out.trans (hw.out.mono H7.out.size))) _ _ _ _ ?_
    have hS : Hid (Below W7.heap.size W7 W7) := Lib.hid (Below.refl _ _)
    try simp only [Act.put, List.setIfInBounds_toArray, List.set_cons_zero, List.set_cons_succ]
    refine wpAnyH_take (i := 13) (v := ?_) rfl (by kernel_rfl) (by kernel_rfl) (by kernel_rfl) (fun _ _ _ h => h) (Or.inl ⟨by rfl, ?_⟩) hS ?_
    rotate_left
    · intro w hw
      have hc := run_string_lies (P := Try.prog) (c := c7) _ _ 5 Try.underlying22 Try.underlying5 Try.underlying9 (L7.out.below hw.out)
      rw [List.length_append] at hc
      go_simp
      try with_reducible rfl
    try simp only [Act.put, List.setIfInBounds_toArray, List.set_cons_zero, List.set_cons_succ]
    refine wpAnyH_take (i := 14) (v := ?_) rfl (by kernel_rfl) (by kernel_rfl) (by kernel_rfl) (fun _ _ _ h => h) (Or.inl ⟨by rfl, ?_⟩) hS ?_
    rotate_left
    · intro w hw
      go_simp
      try with_reducible rfl
    try simp only [Act.put, List.setIfInBounds_toArray, List.set_cons_zero, List.set_cons_succ]
    refine wpAnyH_take (i := 15) (v := ?_) rfl (by kernel_rfl) (by kernel_rfl) (by kernel_rfl) (fun _ _ _ h => h) (Or.inl ⟨by rfl, ?_⟩) hS ?_
    rotate_left
    · intro w hw
      go_simp
      try with_reducible rfl
    try simp only [Act.put, List.setIfInBounds_toArray, List.set_cons_zero, List.set_cons_succ]
    refine wpAnyH_done (by kernel_rfl) ?_ _
    have HBE := Lib.hid (HB5.out.trans ((H6.out.trans (H7.out.mono H6.out.size)).mono HB5.out.size))
    have LPE := Lib.hid ((LP5.out.below (H6.out.trans (H7.out.mono H6.out.size))))
    have LQE := Lib.hid ((LQ.out.below (H6.out.trans (H7.out.mono H6.out.size))))
    have hlp : (bs ++ enc x).length = bs.length + (enc x).length := List.length_append
    have hlq : (bs ++ enc (zig n)).length = bs.length + (enc (zig n)).length := List.length_append
    have g1 := get_calls Ap cp _ (bs ++ enc x) (bs.length : Int) W7 LPE.out hcp (by rw [hlp]; unfold maxLen; omega) (by
      intro y hy
      rcases List.mem_append.1 hy with h | h
      · exact hb y h
      · exact enc_byte x HX.out y h)
    have g2 := geti_calls Aq cq _ (bs ++ enc (zig n)) (bs.length : Int) W7 LQE.out hcq (by rw [hlq]; unfold maxLen; omega) (by
      intro y hy
      rcases List.mem_append.1 hy with h | h
      · exact hb y h
      · exact enc_byte (zig n) (zig_lt n h1 h2) y h)
    rw [res_enc bs x HX.out, hlp] at g1
    rw [res_enc bs (zig n) (zig_lt n h1 h2), hlq] at g2
    simp only [told, toldi] at g1 g2
    rw [unz_zig] at g2
    have G1 := Lib.hid g1
    have G2 := Lib.hid g2
    clear g1 g2 hlp hlq hS
    go_wp2_with fail
    refine G1.out.mono ?_; rintro e w' ⟨rfl, rfl⟩
    go_wp2_with fail
    refine G2.out.mono ?_; rintro e w' ⟨rfl, rfl⟩
    go_wp2_with (go_at_call 15; refine (num_any _ _).mono ?_; rintro e w' ⟨rfl, rfl⟩)
    go_ret
    exact ⟨rfl, HBE.out⟩

set_option maxRecDepth 100000 in
theorem lifted (os : Os) (started : os.Started) (H : Type) (enc : TypeId × Value → H) :
    ReturnsInHanded {} Try.checked os 3 .any (Rows.varintPutsSpec.pre6 enc Try.prog Try.f3 Rows.varintPutsRow.domain false) (Rows.varintPutsSpec.post enc Try.prog Try.f3 false true false false) := by
  refine lift_true (C := Try.checked) own started (by kernel_rfl) Try.func3
    (ChangeSpec.witness6 (enc := enc) (C := Try.checked) false ⟨#[], #[.slice none 0 0, .int .u64 0, .int .i64 0], []⟩ 8 (by kernel_rfl) (by kernel_rfl) (by kernel_rfl) (by kernel_rfl))
    (by kernel_rfl) (by kernel_rfl) (by kernel_rfl) Try.underlying4 rfl ?_ ?_
  · intro ds hds
    match ds, hds with
    | [d1, d2, d3], _ => exact ⟨rfl, rfl, rfl⟩
  · intro W base args ds p hval0 hA0 hlt _
    have hval : ∀ (j : Nat) t v, Try.f3.params[j]? = some t → args[j]? = some v → Value.okWide Try.prog W .any base t v := hval0
    have hA : DataW.TrodAll enc Try.prog W 0 (fun _ => true) true Try.f3.params.toList args.toList ds p := hA0
    rw [Try.params3] at hA hval
    obtain ⟨v0, vs0, d0, ds0, p0, q0, hargs, rfl, rfl, h0, r0⟩ := trodAll_cons hA
    obtain ⟨v1, vs1, d1, ds1, p1, q1, rfl, rfl, rfl, h1, r1⟩ := trodAll_cons r0
    obtain ⟨v2, vs2, d2, ds2, p2, q2, rfl, rfl, rfl, h2, r2⟩ := trodAll_cons r1
    obtain ⟨rfl, rfl, rfl⟩ := trodAll_nil r2
    obtain rfl : args = #[v0, v1, v2] := by cases args; simp_all
    obtain ⟨A, c, zs, rfl, hc, hm, hl, hw⟩ := open_nums Try.underlying22 Try.underlying5 (by kernel_rfl) (hval 0 _ v0 rfl rfl) h0 (fun x hx => hlt x (by simp [hx]))
    obtain ⟨a1, rfl, rfl, rfl, w1⟩ := open_int Try.underlying23 (hval 1 _ v1 rfl rfl) h1
    obtain ⟨a2, rfl, rfl, rfl, w2⟩ := open_int Try.underlying3 (hval 2 _ v2 rfl rfl) h2
    obtain ⟨bs, rfl, hbs⟩ := bytes_nat zs hw
    have w1' := u64_of w1
    obtain ⟨x, rfl⟩ := Int.eq_ofNat_of_zero_le w1'.1
    have w2' := i64_of w2
    rw [List.length_map] at hc ⊢
    rw [List.map_map] at hl
    exact walk A c x a2 bs W hl hc hm hbs (by omega) w2'.1 w2'.2

theorem over : Rows.varintPutsRow.holds Try.pinned (OpenSpec.ofChange Rows.varintPutsSpec) :=
  OpenClaim.holds_of_wide 3 Try.f3 rfl rfl rfl rfl rfl rfl rfl ⟨rfl, rfl, rfl, rfl, rfl⟩ rfl rfl rfl rfl rfl (by kernel_rfl) Try.func3 (by kernel_rfl)
    (of_decide_eq_true (by kernel_rfl)) (by unfold Func.isWrapper; first | (rw [if_pos (by decide +kernel)]; kernel_rfl) | (rw [if_neg (by decide +kernel)]; exact ⟨rfl, rfl⟩))
    (fun os started H enc _ => lifted os started H enc)

theorem proved : Rows.VarintPutsSaid :=
  over
#print axioms proved
end Go.Proofs.Ytgibmlcgpifbpaa.varintPuts
