/- Proved: for any bytes and any key, BloomTells of butterylaw12 answers true (May agrees with the definition), and its arguments read as before. Conditions: none beyond what the given row states. -/
import Derived.Test.YtndkehadboekbaaLlaw
import Derived.Deep.DeepCutAuto
import Derived.Deep.RegionHeld3
import Derived.Deep.QuietTactic
import Derived.BigQuiet
import Derived.LoopTactic
namespace Go.Proofs.Ytndkehadboekbaa.bloomTells
set_option linter.unusedVariables false
set_option linter.unusedSimpArgs false
open Go.ChangeShapes Go.WideShapes Go.ChangeAt Go.RowKit Lift Bl Ik Sq

theorem own : ownKnob Try.prog.godebug = none := by kernel_rfl

set_option maxRecDepth 100000 in
set_option maxHeartbeats 3200000 in
theorem walk (A1 A2 : Option Addr) (c1 c2 : Nat) (f ky : List Nat) (w : World) (h1 : Lies w w.heap.size A1 (f.map vb)) (hc1 : f.length ≤ c1) (hm1 : c1 ≤ maxLen) (f8 : ∀ x, x ∈ f → x < 256)
    (h2 : Lies w w.heap.size A2 (ky.map vb)) (hc2 : ky.length ≤ c2) (hm2 : c2 ≤ maxLen) (k8 : ∀ x, x ∈ ky → x < 256) :
    Calls Try.prog 4 #[.slice A1 f.length c1, .slice A2 ky.length c2] w (Bl.Yes w) := by
  have H1 := Lib.hid h1
  have H2 := Lib.hid h2
  have F8 := Lib.hid f8
  have K8 := Lib.hid k8
  have HC := Lib.hid (And.intro (And.intro hc1 hm1) (And.intro hc2 hm2))
  unfold maxLen at hm1 hm2
  clear h1 h2 f8 k8
  go_enter Try.func4, Try.ntmps4
  go_wp2_with fail
  refine (alive_any _).mono ?_
  rintro e W1 ⟨rfl, hb1⟩
  have HB1 := Lib.hid hb1
  clear hb1
  by_cases hf : 300 < f.length
  · have d1 : decide ((300 : Int) < (f.length : Int)) = true := decide_eq_true (by omega)
    have d2 : decide (300 < f.length) = true := decide_eq_true hf
    go_wp2_with fail
    go_ret
    exact ⟨rfl, HB1.out⟩
  · have d1 : decide ((300 : Int) < (f.length : Int)) = false := decide_eq_false (by omega)
    have d2 : decide (300 < f.length) = false := decide_eq_false hf
    by_cases hk : 200 < ky.length
    · have d3 : decide ((200 : Int) < (ky.length : Int)) = true := decide_eq_true (by omega)
      have d4 : decide (200 < ky.length) = true := decide_eq_true hk
      go_wp2_with fail
      go_ret
      exact ⟨rfl, HB1.out⟩
    · have d3 : decide ((200 : Int) < (ky.length : Int)) = false := decide_eq_false (by omega)
      have d4 : decide (200 < ky.length) = false := decide_eq_false hk
      obtain ⟨A3, c3, W2, hr2, hown, hb2⟩ := fresh_bytes A1 c1 w.heap.size f W1 (H1.out.below HB1.out) (by omega)
      obtain ⟨_, _, e3, hc3, hm3, hl3⟩ := own_parts hown
      injection e3 with e3 _ e3'
      subst e3 e3'
      have HR2 := Lib.hid hr2
      have HB2 := Lib.hid (HB1.out.trans (hb2.mono HB1.out.size))
      have HM2 := Lib.hid (omay_any A3 A2 c3 c2 W2.heap.size f ky W2 (Nat.le_refl _) hl3 hc3 hm3 F8.out ((H2.out.below HB2.out).up HB2.out.size) HC.out.2.1 HC.out.2.2 K8.out (by omega))
      have hfl : f.length ≤ 1000000 := by omega
      clear hr2 hown hb2 hl3 hc3 hm3
      go_wp2_with (at_builtin; refine wpList_append_run rfl _ _ 25 rfl rfl rfl HR2.out ?_)
      refine HM2.out.mono ?_
      rintro e W3 ⟨rfl, hb3⟩
      have HB3 := Lib.hid (HB2.out.trans (hb3.mono HB2.out.size))
      have HM3 := Lib.hid (rmay_any A1 A2 c1 c2 w.heap.size w.heap.size f ky W3 (H1.out.below HB3.out) HC.out.1.1 HC.out.1.2 F8.out (H2.out.below HB3.out) HC.out.2.1 HC.out.2.2 K8.out hfl)
      clear hb3 HM2
      generalize mayB f ky = o at *
      go_wp2_with fail
      refine HM3.out.mono ?_
      rintro e w' ⟨rfl, rfl⟩
      clear HM3
      cases o
      · go_wp2_with fail
        go_ret
        exact ⟨rfl, HB3.out⟩
      · go_wp2_with fail
        go_ret
        exact ⟨rfl, HB3.out⟩

set_option maxRecDepth 100000 in
theorem lifted (os : Os) (started : os.Started) (H : Type) (enc : TypeId × Value → H) :
    ReturnsInHanded {} Try.checked os 4 .any (Rows.bloomTellsSpec.pre6 enc Try.prog Try.f4 Rows.bloomTellsRow.domain false) (Rows.bloomTellsSpec.post enc Try.prog Try.f4 false true false false) := by
  refine lift_true (C := Try.checked) own started (by kernel_rfl) Try.func4
    (ChangeSpec.witness6 (enc := enc) (C := Try.checked) false ⟨#[], #[.slice none 0 0, .slice none 0 0], []⟩ 8 (by kernel_rfl) (by kernel_rfl) (by kernel_rfl) (by kernel_rfl))
    (by kernel_rfl) (by kernel_rfl) (by kernel_rfl) Try.underlying4 rfl ?_ ?_
  · intro ds hds
    match ds, hds with
    | [d1, d2], _ => exact ⟨rfl, rfl, rfl⟩
  · intro W base args ds p hval0 hA0 hlt _
    have hval : ∀ (j : Nat) t v, Try.f4.params[j]? = some t → args[j]? = some v → Value.okWide Try.prog W .any base t v := hval0
    have hA : DataW.TrodAll enc Try.prog W 0 (fun _ => true) true Try.f4.params.toList args.toList ds p := hA0
    rw [Try.params4] at hA hval
    obtain ⟨v0, vs0, d0, ds0, p0, q0, hargs, rfl, rfl, h0, r0⟩ := trodAll_cons hA
    obtain ⟨v1, vs1, d1, ds1, p1, q1, rfl, rfl, rfl, h1, r1⟩ := trodAll_cons r0
    obtain ⟨rfl, rfl, rfl⟩ := trodAll_nil r1
    obtain rfl : args = #[v0, v1] := by cases args; simp_all
    obtain ⟨A0, c0, zs0, rfl, hc0, hm0, hl0, hw0⟩ := open_nums Try.underlying25 Try.underlying5 (by kernel_rfl) (hval 0 _ v0 rfl rfl) h0 (fun x hx => hlt x (by simp [hx]))
    obtain ⟨bs0, rfl, hz0⟩ := as_nat zs0 fun n hn => (u8_of (hw0 n hn)).1
    have hbs0 := fun b hb => (u8_of (hw0 _ (hz0 b hb))).2
    rw [List.length_map] at hc0 ⊢
    rw [List.map_map] at hl0
    obtain ⟨A1, c1, zs1, rfl, hc1, hm1, hl1, hw1⟩ := open_nums Try.underlying25 Try.underlying5 (by kernel_rfl) (hval 1 _ v1 rfl rfl) h1 (fun x hx => hlt x (by simp [hx]))
    obtain ⟨bs1, rfl, hz1⟩ := as_nat zs1 fun n hn => (u8_of (hw1 n hn)).1
    have hbs1 := fun b hb => (u8_of (hw1 _ (hz1 b hb))).2
    rw [List.length_map] at hc1 ⊢
    rw [List.map_map] at hl1
    exact walk A0 A1 c0 c1 bs0 bs1 W hl0 hc0 hm0 (fun x hx => by have := hbs0 x hx; omega) hl1 hc1 hm1 (fun x hx => by have := hbs1 x hx; omega)

theorem over : Rows.bloomTellsRow.holds Try.pinned (OpenSpec.ofChange Rows.bloomTellsSpec) :=
  OpenClaim.holds_of_wide 4 Try.f4 rfl rfl rfl rfl rfl rfl rfl ⟨rfl, rfl, rfl, rfl, rfl⟩ rfl rfl rfl rfl rfl (by kernel_rfl) Try.func4 (by kernel_rfl)
    (of_decide_eq_true (by kernel_rfl)) (by unfold Func.isWrapper; first | (rw [if_pos (by decide +kernel)]; kernel_rfl) | (rw [if_neg (by decide +kernel)]; exact ⟨rfl, rfl⟩))
    (fun os started H enc _ => lifted os started H enc)

theorem proved : Rows.BloomTellsSaid :=
  over
#print axioms proved
end Go.Proofs.Ytndkehadboekbaa.bloomTells
