/- Proved: for any number and any bytes, FramePuts of butterylaw7 answers true (Put agrees with the definition), and its arguments read as before. Conditions: none beyond what the given row states. -/
import Derived.Test.YtkmelhgpngochaaDoorFlaw7
import Derived.Test.YtkmelhgpngochaaDoorFrput
import Derived.Deep.RegionWith
import Derived.Test.YtkmelhgpngochaaDoorLaid
import Derived.Test.YtkmelhgpngochaaDoorTie
import Derived.Test.YtkmelhgpngochaaDoorCards
import Derived.SevenTiedAt
namespace Go.Proofs.YtkmelhgpngochaaDoor.framePuts
set_option linter.unusedVariables false
set_option linter.unusedSimpArgs false
open Go.ChangeShapes Go.WideShapes Go.ChangeAt Go.RowKit Lift Ik Fr

theorem own : ownKnob Tryd.prog.godebug = none := by kernel_rfl

set_option maxRecDepth 100000 in
set_option maxHeartbeats 3200000 in
theorem walk (s : Int) (A : Option Addr) (c : Nat) (r : List Nat) (w : World) (hs : -9223372036854775808 ≤ s ∧ s ≤ 9223372036854775807) (hl : Lies w w.heap.size A (r.map vb)) (hc : r.length ≤ c) (hm : c ≤ maxLen) (h8 : ∀ x, x ∈ r → x < 256) :
    Calls Tryd.prog 3 #[.int .i64 s, .slice A r.length c] w (Yes w) := by
  have hmm := hm
  unfold maxLen at hmm
  have HL := Lib.hid hl
  have H8 := Lib.hid h8
  clear hl h8
  by_cases hn : 1000 < r.length
  · go_enter Tryd.func3, Tryd.ntmps3
    go_wp2_with fail
    refine (alive_any _).mono ?_; rintro e W1 ⟨rfl, hb1⟩
    have HB1 := Lib.hid hb1
    clear hb1
    go_wp2_with fail
    go_ret
    exact ⟨rfl, HB1.out⟩
  · go_enter Tryd.func3, Tryd.ntmps3
    go_wp2_with fail
    refine (alive_any _).mono ?_; rintro e W1 ⟨rfl, hb1⟩
    have HB1 := Lib.hid hb1
    have HL1 := Lib.hid ((HL.out.below hb1).up hb1.size)
    clear hb1
    go_wp2_with fail
    refine wp_region_held_drew (S := fun w' => Hid (Below W1.heap.size W1 w')) (by kernel_rfl) (Lib.hid (Below.refl _ _).drew) (fun hS => ?_)
    have L0 := Lib.hid ((HL1.out.below hS.out).up hS.out.size)
    have HB0 := Lib.hid (HB1.out.trans (hS.out.mono HB1.out.size))
    generalize W1.drew = w0 at hS L0 HB0 ⊢
    refine wpAnyH_take (i := 0) (v := ?_) rfl (by kernel_rfl) (by kernel_rfl) (by kernel_rfl) (fun _ _ _ h => h) (Or.inl ⟨by rfl, ?_⟩) hS ?_
    rotate_left
    · intro w hw
      go_simp
      try with_reducible rfl
    try simp only [Act.put, List.getElem_toArray, List.getElem_cons_succ, List.getElem_cons_zero, List.setIfInBounds_toArray, List.set_cons_zero, List.set_cons_succ]
    refine wpAnyH_take (i := 1) (v := ?_) rfl (by kernel_rfl) (by kernel_rfl) (by kernel_rfl) (fun _ _ _ h => h) (Or.inl ⟨by rfl, ?_⟩) hS ?_
    rotate_left
    · intro w hw
      go_simp
      try with_reducible rfl
    try simp only [Act.put, List.getElem_toArray, List.getElem_cons_succ, List.getElem_cons_zero, List.setIfInBounds_toArray, List.set_cons_zero, List.set_cons_succ]
    refine wpAnyH_take (i := 5) (v := ?_) rfl (by kernel_rfl) (by kernel_rfl) (by kernel_rfl) (fun _ _ _ h => h) (Or.inl ⟨by rfl, ?_⟩) hS ?_
    rotate_left
    · intro w hw
      go_simp
      try with_reducible rfl
    try simp only [Act.put, List.getElem_toArray, List.getElem_cons_succ, List.getElem_cons_zero, List.setIfInBounds_toArray, List.set_cons_zero, List.set_cons_succ]
    refine wpAnyH_take (i := 6) (v := ?_) rfl (by kernel_rfl) (by kernel_rfl) (by kernel_rfl) (fun _ _ _ h => h) (Or.inl ⟨by rfl, ?_⟩) hS ?_
    rotate_left
    · intro w hw
      go_simp
      try with_reducible rfl
    try simp only [Act.put, List.getElem_toArray, List.getElem_cons_succ, List.getElem_cons_zero, List.setIfInBounds_toArray, List.set_cons_zero, List.set_cons_succ]
    refine wpAnyH_ready (rs := [2]) (by kernel_rfl) (by simp) ?_
    refine AllReadyH.cons rfl (fun K hK => ?_) AllReadyH.nil
    obtain ⟨A2, c2, W2, hr2, hown2, hb2⟩ := fresh_bytes A c _ r w0 L0.out (by omega)
    refine held_append rfl _ _ 22 rfl rfl rfl hr2 ?_
    refine hK.out _ _ (Lib.hid (hS.out.trans (hb2.mono hS.out.size))) (fun hS2 => ?_)
    try simp only [Act.put, List.getElem_toArray, List.getElem_cons_succ, List.getElem_cons_zero, List.setIfInBounds_toArray, List.set_cons_zero, List.set_cons_succ]
    obtain ⟨A2', c2', e2, k1, k2, k3⟩ := own_parts hown2
    injection e2 with e21 e22 e23
    subst e21 e23
    have HB2 := Lib.hid (HB0.out.trans (hb2.mono HB0.out.size))
    have HP := Lib.hid (put_any s A2 c2 r W2 hs k3 k1 k2 (by omega) H8.out)
    have HL2 := Lib.hid ((L0.out.below hb2).up hb2.size)
    have hSS := hS2
    clear hr2 hK K hS hS2 hown2 hb2 k3
    refine wpAnyH_other (S' := fun w' => Hid (Below W2.heap.size W2 w')) (fun w hw => Lib.hid (hSS.out.trans (hw.out.mono hSS.out.size))) _ _ _ _ ?_
    have hS : Hid (Below W2.heap.size W2 W2) := Lib.hid (Below.refl _ _)
    refine wpAnyH_ready (rs := [3]) (by kernel_rfl) (by simp) ?_
    refine AllReadyH.cons rfl (fun K hK => ?_) AllReadyH.nil
    go_simp
    refine HP.out.mono ?_
    rintro e W3 ⟨v3, rfl, ho3, hb3⟩
    obtain ⟨A3, c3, rfl, q1, q2, q3⟩ := own_parts ho3
    have H3 := Lib.hid hb3
    have HB3 := Lib.hid (HB2.out.trans (hb3.mono HB2.out.size))
    have L3 := Lib.hid q3
    have HL3 := Lib.hid ((HL2.out.below hb3).up hb3.size)
    clear ho3 hb3 q3
    go_wp2_with fail
    refine hK.out _ _ H3 (fun _ => ?_)
    clear hK K hS
    refine wpAnyH_other (S' := fun w' => Hid (Below W3.heap.size W3 w')) (fun w hw => Lib.hid (H3.out.trans (hw.out.mono H3.out.size))) _ _ _ _ ?_
    have hS : Hid (Below W3.heap.size W3 W3) := Lib.hid (Below.refl _ _)
    try simp only [Act.put, List.getElem_toArray, List.getElem_cons_succ, List.getElem_cons_zero, List.setIfInBounds_toArray, List.set_cons_zero, List.set_cons_succ]
    refine wpAnyH_take (i := 4) (v := ?_) rfl (by kernel_rfl) (by kernel_rfl) (by kernel_rfl) (fun _ _ _ h => h) (Or.inl ⟨by rfl, ?_⟩) hS ?_
    rotate_left
    · intro w hw
      have hc := run_string_lies (P := Tryd.prog) (c := c3) _ _ 5 Tryd.underlying22 Tryd.underlying5 Tryd.underlying9 (L3.out.below hw.out)
      go_simp
      try with_reducible rfl
    try simp only [Act.put, List.getElem_toArray, List.getElem_cons_succ, List.getElem_cons_zero, List.setIfInBounds_toArray, List.set_cons_zero, List.set_cons_succ]
    refine wpAnyH_ready (rs := [7]) (by kernel_rfl) (by simp) ?_
    refine AllReadyH.cons rfl (fun K hK => ?_) AllReadyH.nil
    go_simp
    refine (rput_any s A c r _ hs ((HL3.out.below hS.out).up hS.out.size) hc hm (by omega) H8.out).mono ?_
    rintro e W5 ⟨v5, rfl, ho5, hb5⟩
    obtain ⟨A5, c5, rfl, q4, q5, q6⟩ := own_parts ho5
    have H5 := Lib.hid (hS.out.trans (hb5.mono hS.out.size))
    have HB5 := Lib.hid (HB3.out.trans (H5.out.mono HB3.out.size))
    have L5 := Lib.hid q6
    clear ho5 hb5 q6
    go_wp2_with fail
    refine hK.out _ _ H5 (fun _ => ?_)
    clear hK K hS
    refine wpAnyH_other (S' := fun w' => Hid (Below W5.heap.size W5 w')) (fun w hw => Lib.hid (H5.out.trans (hw.out.mono H5.out.size))) _ _ _ _ ?_
    have hS : Hid (Below W5.heap.size W5 W5) := Lib.hid (Below.refl _ _)
    try simp only [Act.put, List.getElem_toArray, List.getElem_cons_succ, List.getElem_cons_zero, List.setIfInBounds_toArray, List.set_cons_zero, List.set_cons_succ]
    refine wpAnyH_take (i := 8) (v := ?_) rfl (by kernel_rfl) (by kernel_rfl) (by kernel_rfl) (fun _ _ _ h => h) (Or.inl ⟨by rfl, ?_⟩) hS ?_
    rotate_left
    · intro w hw
      have hc := run_string_lies (P := Tryd.prog) (c := c5) _ _ 5 Tryd.underlying22 Tryd.underlying5 Tryd.underlying9 (L5.out.below hw.out)
      go_simp
      try with_reducible rfl
    try simp only [Act.put, List.getElem_toArray, List.getElem_cons_succ, List.getElem_cons_zero, List.setIfInBounds_toArray, List.set_cons_zero, List.set_cons_succ]
    refine wpAnyH_take (i := 9) (v := ?_) rfl (by kernel_rfl) (by kernel_rfl) (by kernel_rfl) (fun _ _ _ h => h) (Or.inl ⟨by rfl, ?_⟩) hS ?_
    rotate_left
    · intro w hw
      go_simp
      try with_reducible rfl
    try simp only [Act.put, List.getElem_toArray, List.getElem_cons_succ, List.getElem_cons_zero, List.setIfInBounds_toArray, List.set_cons_zero, List.set_cons_succ]
    refine wpAnyH_take (i := 10) (v := ?_) rfl (by kernel_rfl) (by kernel_rfl) (by kernel_rfl) (fun _ _ _ h => h) (Or.inl ⟨by rfl, ?_⟩) hS ?_
    rotate_left
    · intro w hw
      go_simp
      try with_reducible rfl
    try simp only [Act.put, List.getElem_toArray, List.getElem_cons_succ, List.getElem_cons_zero, List.setIfInBounds_toArray, List.set_cons_zero, List.set_cons_succ]
    refine wpAnyH_done (by kernel_rfl) ?_ _
    go_wp2_with fail
    go_ret
    exact ⟨rfl, HB5.out⟩

set_option maxRecDepth 100000 in
theorem lifted (os : Os) (started : os.Started) (H : Type) (enc : TypeId × Value → H) :
    ReturnsInHanded {} Tryd.checked os 3 .any (fun w args => (Rows.framePutsSpec.pre enc Tryd.prog Tryd.f3 Rows.framePutsRow.domain false w args ∧ laidMetH Tryd.prog Rows.framePutsRow.laid w) ∧ sizedMet enc Tryd.prog Tryd.f3 (OpenSpec.ofChange Rows.framePutsSpec) false w args) (Rows.framePutsSpec.post enc Tryd.prog Tryd.f3 false true false false) := by
  refine lift_laid (C := Tryd.checked) Rows.framePutsRow.laid own started (by kernel_rfl) Tryd.func3
    (ChangeSpec.witness_shaped (enc := enc) (C := Tryd.checked) (os := os) (X := fun w _ => laidMetH Tryd.prog Rows.framePutsRow.laid w) false (World.laidAll Tryd.prog os Rows.framePutsRow.laid) #[.int .i64 0, .slice none 0 0] 8 (World.laidAll_os _ _ _)
      (World.shaped_of_ZipB (by kernel_rfl) (by kernel_rfl)) (by kernel_rfl) (by kernel_rfl) (by kernel_rfl)
      (by rw [MakeChecks.laidMetH_plain _ _ _ (by kernel_rfl)]; exact laidMet_laidAll _ (by kernel_rfl) (by kernel_rfl)))
    (by kernel_rfl) (by kernel_rfl) (by kernel_rfl) Tryd.underlying4 rfl ?_ ?_
  · intro ds hds
    match ds, hds with
    | [d1, d2], _ => exact ⟨rfl, rfl, rfl⟩
  · intro W base args ds p hval0 hA0 hlt _
    have hval : ∀ (j : Nat) t v, Tryd.f3.params[j]? = some t → args[j]? = some v → Value.okWide Tryd.prog W .any base t v := hval0
    have hA : DataW.TrodAll enc Tryd.prog W 0 (fun _ => true) true Tryd.f3.params.toList args.toList ds p := hA0
    rw [Tryd.params3] at hA hval
    obtain ⟨v0, vs0, d0, ds0, p0, q0, hargs, rfl, rfl, h0, r0⟩ := trodAll_cons hA
    obtain ⟨v1, vs1, d1, ds1, p1, q1, rfl, rfl, rfl, h1, r1⟩ := trodAll_cons r0
    obtain ⟨rfl, rfl, rfl⟩ := trodAll_nil r1
    obtain rfl : args = #[v0, v1] := by cases args; simp_all
    obtain ⟨a0, rfl, rfl, rfl, w0⟩ := open_int Tryd.underlying3 (hval 0 _ v0 rfl rfl) h0
    have b0 := i64_of w0
    obtain ⟨A1, c1, zs1, rfl, hc1, hm1, hl1, hw1⟩ := open_nums Tryd.underlying22 Tryd.underlying5 (by kernel_rfl) (hval 1 _ v1 rfl rfl) h1 (fun x hx => hlt x (by simp [hx]))
    obtain ⟨bs1, rfl, hz1⟩ := as_nat zs1 fun n hn => (u8_of (hw1 n hn)).1
    have hbs1 := fun b hb => (u8_of (hw1 _ (hz1 b hb))).2
    rw [List.length_map] at hc1 ⊢
    rw [List.map_map] at hl1
    exact walk a0 A1 c1 bs1 W b0 hl1 hc1 hm1 (fun x hx => by have := hbs1 x hx; omega)

theorem over : Rows.framePutsRow.holds Tryd.pinned (OpenSpec.ofChange Rows.framePutsSpec) :=
  OpenClaim.holds_of_wide 3 Tryd.f3 rfl rfl rfl rfl rfl rfl rfl ⟨rfl, rfl, rfl, rfl, rfl⟩ rfl rfl rfl rfl rfl (by kernel_rfl) Tryd.func3 (by kernel_rfl)
    (of_decide_eq_true (by kernel_rfl)) (by unfold Func.isWrapper; first | (rw [if_pos (by decide +kernel)]; kernel_rfl) | (rw [if_neg (by decide +kernel)]; exact ⟨rfl, rfl⟩))
    (fun os started H enc _ => lifted os started H enc)

theorem proved : Rows.FramePutsCardSaid :=
  Claim7.holds_tied_plain_at .later [] [.data, .pinned] true (true, "b23d7652dd08339ba58d021077a9801cf880c861c5214500fa8176eedb20fa22") false over (fun _ h => by cases h) (by kernel_rfl) (fun _ h => by cases h) framePuts_row_tie rfl ⟨rfl, rfl⟩ (by kernel_rfl) rfl
    (fun f fn hf hfn => by
      obtain rfl : f = 3 := Option.some.inj ((show Tryd.prog.funcNamed Rows.framePutsRow.func = some 3 by kernel_rfl).symm.trans hf) |>.symm
      obtain rfl : fn = Tryd.f3 := (Option.some.inj (Tryd.func3.symm.trans hfn)).symm
      exact ⟨by kernel_rfl, fun j t ht => by
        rw [Tryd.params3] at ht
        have hm : t ∈ [3, 22] := by simpa using Array.mem_of_getElem? ht
        have hall : ([3, 22].all fun u => !Tryd.prog.wantsStandIn u) = true := by kernel_rfl
        exact (show Tryd.prog.wantsStandIn t = false by simpa using List.all_eq_true.1 hall t hm)⟩)
    (by kernel_rfl)
#print axioms proved
end Go.Proofs.YtkmelhgpngochaaDoor.framePuts
