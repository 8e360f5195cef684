/- For every table and all bytes CrcSums returns true and leaves all memory as it was: no condition. -/
import Derived.Test.YtalmaooakgfllaaLaw3
import Derived.RowKit3
import Derived.WalkSmall
namespace Go.Proofs.Ytalmaooakgfllaa.crcSums
set_option linter.unusedVariables false
set_option linter.unusedSimpArgs false
open Go.ChangeShapes Go.WideShapes Go.ChangeAt Go.RowKit Lift Crc

theorem own : ownKnob Try.prog.godebug = none := by kernel_rfl

/-- The numbers that a table of any length stands for. -/
def pick (ts : List Nat) : Nat → Nat := if ts.length = 256 then Crc.look ts else ent
theorem sum_all (At Ab : Option Addr) (ct cb B : Nat) (ts bs : List Nat) (w : World) (hct : ts.length ≤ ct) (hl : Lies w B At (ts.map vw))
    (hb : Lies w w.heap.size Ab (bs.map vb)) (hcb : bs.length ≤ cb) (hm : bs.length ≤ maxLen) (t32 : ∀ x, x ∈ ts → x < 4294967296) (b8 : ∀ c, c ∈ bs → c < 256) :
    Calls Try.prog 12 #[.slice At ts.length ct, .slice Ab bs.length cb] w fun e w' => e = .returned (.int .u32 (crc (pick ts) bs : Nat)) ∧ Below w.heap.size w w' := by
  by_cases h : ts.length = 256
  · obtain ⟨ad, rfl, _, hc⟩ := hl.place (by rw [List.length_map]; omega)
    rw [h] at hct ⊢
    refine (sum_tab ad Ab ct cb _ ts bs w h hct hc hb hcb hm t32 b8).mono ?_
    rintro e w' ⟨rfl, rfl⟩
    exact ⟨by rw [pick, if_pos h], Below.refl _ _⟩
  · refine (sum_no At Ab _ ct cb _ bs w h hb (Nat.le_refl _) hcb hm b8).mono ?_
    rintro e w' ⟨rfl, hb⟩
    exact ⟨by rw [pick, if_neg h], hb⟩
theorem sumby_all (At Ab : Option Addr) (ct cb B : Nat) (ts bs : List Nat) (w : World) (hct : ts.length ≤ ct) (hl : Lies w B At (ts.map vw))
    (hb : Lies w w.heap.size Ab (bs.map vb)) (hcb : bs.length ≤ cb) (hm : bs.length ≤ maxLen) (t32 : ∀ x, x ∈ ts → x < 4294967296) (b8 : ∀ c, c ∈ bs → c < 256) :
    Calls Try.prog 14 #[.slice At ts.length ct, .slice Ab bs.length cb] w fun e w' => e = .returned (.int .u32 (crc (pick ts) bs : Nat)) ∧ w = w' := by
  by_cases h : ts.length = 256
  · obtain ⟨ad, rfl, _, hc⟩ := hl.place (by rw [List.length_map]; omega)
    rw [h] at hct ⊢
    refine (sumby_tab ad Ab ct cb _ ts bs w h hct hc hb hcb hm t32 b8).mono ?_
    rintro e w' ⟨rfl, rfl⟩
    exact ⟨by rw [pick, if_pos h], rfl⟩
  · refine (sumby_no At Ab _ ct cb _ bs w h hb hcb hm b8).mono ?_
    rintro e w' ⟨rfl, rfl⟩
    exact ⟨by rw [pick, if_neg h], rfl⟩

set_option maxRecDepth 100000 in
set_option maxHeartbeats 800000 in
theorem walk (At Ab : Option Addr) (ct cb : Nat) (ts bs : List Nat) (W : World) (hlt : Lies W W.heap.size At (ts.map vw)) (hct : ts.length ≤ ct) (hmt : ct ≤ maxLen) (t32 : ∀ x, x ∈ ts → x < 4294967296)
    (hlb : Lies W W.heap.size Ab (bs.map vb)) (hcb : bs.length ≤ cb) (hmb : cb ≤ maxLen) (b8 : ∀ x, x ∈ bs → x < 256) :
    Calls Try.prog 3 #[.slice At ts.length ct, .slice Ab bs.length cb] W (Yes W) := by
  have hm1 : bs.length ≤ maxLen := Nat.le_trans hcb hmb
  have hm2 : ts.length ≤ maxLen := Nat.le_trans hct hmt
  have HM := Lib.hid hm1
  unfold maxLen at hm1 hm2
  have HT := Lib.hid hlt
  have HB := Lib.hid hlb
  have T32 := Lib.hid t32
  have B8 := Lib.hid b8
  clear hlt hlb t32 b8 hmt hmb
  by_cases hshort : bs.length ≤ 500 ∧ ts.length ≤ 300
  · obtain ⟨s1, s2⟩ := hshort
    go_enter Try.func3, Try.ntmps3
    go_wp2_with fail
    refine (alive_any _).mono ?_; rintro e W1 ⟨rfl, hb1⟩
    have HW1 := Lib.hid hb1
    clear hb1
    go_wp2_with fail
    refine (table_any _).mono ?_
    intro e W2 hmade
    obtain ⟨A1, c1, rfl, hc1, hmm1, hl1, hb2⟩ := hmade.parts
    clear hmade
    rw [tab_length] at hc1 ⊢
    have HL1 := Lib.hid hl1
    have HW2 := Lib.hid (HW1.out.trans (hb2.mono HW1.out.size))
    clear hl1 hb2 hmm1
    go_wp2_with fail
    refine (rtable_any _).mono ?_
    intro e W3 hmade
    obtain ⟨A2, c2, rfl, hc2, hmm2, hl2, hb3⟩ := hmade.parts
    clear hmade
    rw [tab_length] at hc2 ⊢
    have HL2 := Lib.hid hl2
    have HL13 := Lib.hid ((HL1.out.below hb3).up hb3.size)
    have HW3 := Lib.hid (HW2.out.trans (hb3.mono HW2.out.size))
    clear hl2 hb3 hmm2
    have hsame : Calls Try.prog 10 #[.slice A1 256 c1, .slice A2 256 c2] W3 fun e w' => e = .returned (.bool true) ∧ ∃ n, w' = W3.drewN n := by
      have h := same_any A1 A2 c1 c2 _ tab W3 HL13.out HL2.out (by rw [tab_length]; exact hc1) (by rw [tab_length]; exact hc2) (by rw [tab_length]; decide)
      rw [tab_length] at h
      exact h
    have HS := Lib.hid hsame
    clear hsame
    go_wp2_with fail
    refine HS.out.mono ?_
    rintro e W4 ⟨rfl, n4, rfl⟩
    have hb4 : Below W3.heap.size W3 (W3.drewN n4) := below_drewN (Below.refl _ _) n4
    have HL4 := Lib.hid ((HL13.out.below hb4).up hb4.size)
    have HW4 := Lib.hid (HW3.out.trans (hb4.mono HW3.out.size))
    have HBT := Lib.hid ((HT.out.below HW4.out).up HW4.out.size)
    have HBB := Lib.hid ((HB.out.below HW4.out).up HW4.out.size)
    clear hb4 HS HL2 HL13 HL1
    generalize hW4 : W3.drewN n4 = W4 at HL4 HW4 HBT HBB ⊢
    clear hW4
    go_wp2_with fail
    refine (sum_by_tab A1 Ab c1 cb _ bs W4 hc1 HL4.out HBB.out hcb HM.out B8.out).mono ?_; rintro e w' ⟨rfl, rfl⟩
    go_wp2_with fail
    refine (crc_any Ab cb _ bs W4 HBB.out hcb HM.out B8.out).mono ?_; rintro e w' ⟨rfl, rfl⟩
    obtain ⟨A5, c5, W5, hr5, hc5, hm5, hl5, hb5⟩ := fresh_words At ct _ ts W4 HBT.out (by omega)
    have HR := Lib.hid hr5
    have HL5 := Lib.hid hl5
    have HW5 := Lib.hid (HW4.out.trans (hb5.mono HW4.out.size))
    have HB5 := Lib.hid ((HBB.out.below hb5).up hb5.size)
    have HT5 := Lib.hid ((HBT.out.below hb5).up hb5.size)
    clear hr5 hl5 hb5 hm5
    go_wp2_with (at_builtin; refine wpList_append_held (by rfl) _ _ 22 rfl rfl rfl HR.out ?_)
    refine (sum_all A5 Ab c5 cb _ ts bs W5 hc5 HL5.out HB5.out hcb HM.out T32.out B8.out).mono ?_; rintro e W6 ⟨rfl, hb6⟩
    have HB6 := Lib.hid ((HB5.out.below hb6).up hb6.size)
    have HT6 := Lib.hid ((HT5.out.below hb6).up hb6.size)
    have HW6 := Lib.hid (HW5.out.trans (hb6.mono HW5.out.size))
    clear hb6
    go_wp2_with fail
    refine (sumby_all At Ab ct cb _ ts bs W6 hct HT6.out HB6.out hcb HM.out T32.out B8.out).mono ?_; rintro e w' ⟨rfl, rfl⟩
    go_wp2_with fail
    refine (sum_no none Ab 0 0 cb _ bs W6 (by decide) HB6.out (Nat.le_refl _) hcb HM.out B8.out).mono ?_; rintro e W7 ⟨rfl, hb7⟩
    have HB7 := Lib.hid ((HB6.out.below hb7).up hb7.size)
    have HW7 := Lib.hid (HW6.out.trans (hb7.mono HW6.out.size))
    clear hb7
    go_wp2_with fail
    refine (crc_any Ab cb _ bs W7 HB7.out hcb HM.out B8.out).mono ?_; rintro e w' ⟨rfl, rfl⟩
    go_wp2_with fail
    go_ret
    exact ⟨rfl, HW7.out⟩
  · by_cases s1 : 500 < bs.length
    · clear hshort
      go_enter Try.func3, Try.ntmps3
      go_wp2_with fail
      refine (alive_any _).mono ?_; rintro e W1 ⟨rfl, hb1⟩
      have HW1 := Lib.hid hb1
      clear hb1
      go_wp2_with fail
      go_ret
      exact ⟨rfl, HW1.out⟩
    · have s2 : 300 < ts.length := by omega
      clear hshort
      go_enter Try.func3, Try.ntmps3
      go_wp2_with fail
      refine (alive_any _).mono ?_; rintro e W1 ⟨rfl, hb1⟩
      have HW1 := Lib.hid hb1
      clear hb1
      go_wp2_with fail
      go_ret
      exact ⟨rfl, HW1.out⟩

set_option maxRecDepth 100000 in
theorem lifted (os : Os) (started : os.Started) (H : Type) (enc : TypeId × Value → H) :
    ReturnsInHanded {} Try.checked os 3 .any (Rows.crcSumsSpec.pre6 enc Try.prog Try.f3 Rows.crcSumsRow.domain false) (Rows.crcSumsSpec.post enc Try.prog Try.f3 false true false false) := by
  refine lift_true (C := Try.checked) own started (by kernel_rfl) Try.func3
    (ChangeSpec.witness6 (enc := enc) (C := Try.checked) false ⟨#[], #[.slice none 0 0, .slice none 0 0], []⟩ 8 (by kernel_rfl) (by kernel_rfl) (by kernel_rfl) (by kernel_rfl))
    (by kernel_rfl) (by kernel_rfl) (by kernel_rfl) Try.underlying4 rfl ?_ ?_
  · intro ds hds
    match ds, hds with
    | [d1, d2], _ => exact ⟨rfl, rfl, rfl⟩
  · intro W base args ds p hval0 hA0 hlt _
    have hval : ∀ (j : Nat) t v, Try.f3.params[j]? = some t → args[j]? = some v → Value.okWide Try.prog W .any base t v := hval0
    have hA : DataW.TrodAll enc Try.prog W 0 (fun _ => true) true Try.f3.params.toList args.toList ds p := hA0
    rw [Try.params3] at hA hval
    obtain ⟨v0, vs0, d0, ds0, p0, q0, hargs, rfl, rfl, h0, r0⟩ := trodAll_cons hA
    obtain ⟨v1, vs1, d1, ds1, p1, q1, rfl, rfl, rfl, h1, r1⟩ := trodAll_cons r0
    obtain ⟨rfl, rfl, rfl⟩ := trodAll_nil r1
    obtain rfl : args = #[v0, v1] := by cases args; simp_all
    obtain ⟨A0, c0, zs0, rfl, hc0, hm0, hl0, hw0⟩ := open_nums Try.underlying22 Try.underlying27 (by kernel_rfl) (hval 0 _ v0 rfl rfl) h0 (fun x hx => hlt x (by simp [hx]))
    obtain ⟨bs0, rfl, hz0⟩ := as_nat zs0 fun n hn => (u32_of (hw0 n hn)).1
    have hbs0 := fun b hb => (u32_of (hw0 _ (hz0 b hb))).2
    rw [List.length_map] at hc0 ⊢
    rw [List.map_map] at hl0
    obtain ⟨A1, c1, zs1, rfl, hc1, hm1, hl1, hw1⟩ := open_nums Try.underlying23 Try.underlying5 (by kernel_rfl) (hval 1 _ v1 rfl rfl) h1 (fun x hx => hlt x (by simp [hx]))
    obtain ⟨bs1, rfl, hz1⟩ := as_nat zs1 fun n hn => (u8_of (hw1 n hn)).1
    have hbs1 := fun b hb => (u8_of (hw1 _ (hz1 b hb))).2
    rw [List.length_map] at hc1 ⊢
    rw [List.map_map] at hl1
    exact walk A0 A1 c0 c1 bs0 bs1 W hl0 hc0 hm0 (fun x hx => by have := hbs0 x hx; omega) hl1 hc1 hm1 (fun x hx => by have := hbs1 x hx; omega)

theorem over : Rows.crcSumsRow.holds Try.pinned (OpenSpec.ofChange Rows.crcSumsSpec) :=
  OpenClaim.holds_of_wide 3 Try.f3 rfl rfl rfl rfl rfl rfl rfl ⟨rfl, rfl, rfl, rfl, rfl⟩ rfl rfl rfl rfl rfl (by kernel_rfl) Try.func3 (by kernel_rfl)
    (of_decide_eq_true (by kernel_rfl)) (by unfold Func.isWrapper; first | (rw [if_pos (by decide +kernel)]; kernel_rfl) | (rw [if_neg (by decide +kernel)]; exact ⟨rfl, rfl⟩))
    (fun os started H enc _ => lifted os started H enc)

theorem proved : Rows.CrcSumsSaid :=
  over
#print axioms proved
end Go.Proofs.Ytalmaooakgfllaa.crcSums
