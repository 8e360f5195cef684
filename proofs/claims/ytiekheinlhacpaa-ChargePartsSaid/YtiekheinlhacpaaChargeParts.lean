/- Proved: for any five whole numbers, ChargeParts of butterylaw1 answers true (Less, Times and Fits of package charge treat bytes and handles independently). Conditions: none beyond what the given row states. -/
import Derived.Test.YtiekheinlhacpaaRows
import Derived.WalkKit
import Derived.ProofKit
import Derived.OpenShut
import Derived.Test.YtiekheinlhacpaaCharge
namespace Go.Proofs.Ytiekheinlhacpaa.chargeParts
open Go.ChangeShapes Go.WideShapes Go.ChangeAt Go.RowKit Fl
set_option linter.unusedVariables false      -- a walk need not use every 'w<i>' (that an integer argument fits its kind)

theorem own : ownKnob Try.prog.godebug = none := by kernel_rfl

theorem walk (a0 : Int) (a1 : Int) (a2 : Int) (a3 : Int) (a4 : Int) (w0 : (Lit.int .i64 a0).wf = true) (w1 : (Lit.int .i64 a1).wf = true) (w2 : (Lit.int .i64 a2).wf = true) (w3 : (Lit.int .i64 a3).wf = true) (w4 : (Lit.int .i64 a4).wf = true) (w : World) :
    Calls Try.prog 4 #[.int .i64 a0, .int .i64 a1, .int .i64 a2, .int .i64 a3, .int .i64 a4] w fun e w' => e = .returned (.bool true) ∧ Grown w w' := by
  by_cases hx : Part a0 ∧ Part a1
  case neg =>
    have hx' : a0 < 0 ∨ 1099511627776 < a0 ∨ a1 < 0 ∨ 1099511627776 < a1 := by unfold Part at hx; omega
    by_cases hy : Part a2 ∧ Part a3
    case pos =>
      obtain ⟨⟨y0, y1⟩, ⟨y2, y3⟩⟩ := hy
      clear hx
      go_enter Try.func4, Try.ntmps4
      go_wp2_with fail
      refine (Ch.alive_any _).mono ?_; rintro e W1 ⟨rfl, g1⟩
      go_wp2_with fail
      refine (Ch.of_no _ _ _ hx').mono ?_; rintro e w' ⟨rfl, rfl⟩
      go_wp2_with fail
      refine (Ch.of_yes _ _ _ y0 y1 y2 y3).mono ?_; rintro e w' ⟨rfl, rfl⟩
      go_wp2_with fail
      go_ret
      exact ⟨rfl, g1⟩
    case neg =>
      have hy' : a2 < 0 ∨ 1099511627776 < a2 ∨ a3 < 0 ∨ 1099511627776 < a3 := by unfold Part at hy; omega
      clear hx hy
      go_enter Try.func4, Try.ntmps4
      go_wp2_with fail
      refine (Ch.alive_any _).mono ?_; rintro e W1 ⟨rfl, g1⟩
      go_wp2_with fail
      refine (Ch.of_no _ _ _ hx').mono ?_; rintro e w' ⟨rfl, rfl⟩
      go_wp2_with fail
      refine (Ch.of_no _ _ _ hy').mono ?_; rintro e w' ⟨rfl, rfl⟩
      go_wp2_with fail
      go_ret
      exact ⟨rfl, g1⟩
  case pos =>
    by_cases hy : Part a2 ∧ Part a3
    case neg =>
      have hy' : a2 < 0 ∨ 1099511627776 < a2 ∨ a3 < 0 ∨ 1099511627776 < a3 := by unfold Part at hy; omega
      obtain ⟨⟨x0, x1⟩, ⟨x2, x3⟩⟩ := hx
      clear hy
      go_enter Try.func4, Try.ntmps4
      go_wp2_with fail
      refine (Ch.alive_any _).mono ?_; rintro e W1 ⟨rfl, g1⟩
      go_wp2_with fail
      refine (Ch.of_yes _ _ _ x0 x1 x2 x3).mono ?_; rintro e w' ⟨rfl, rfl⟩
      go_wp2_with fail
      refine (Ch.of_no _ _ _ hy').mono ?_; rintro e w' ⟨rfl, rfl⟩
      go_wp2_with fail
      go_ret
      exact ⟨rfl, g1⟩
    case pos =>
      obtain ⟨px0, px1⟩ := hx
      obtain ⟨py0, py1⟩ := hy
      obtain ⟨x0, x1⟩ := px0
      obtain ⟨x2, x3⟩ := px1
      obtain ⟨y0, y1⟩ := py0
      obtain ⟨y2, y3⟩ := py1
      have px0 : Part a0 := ⟨x0, x1⟩
      have px1 : Part a1 := ⟨x2, x3⟩
      have py0 : Part a2 := ⟨y0, y1⟩
      have py1 : Part a3 := ⟨y2, y3⟩
      have e1 : most (up (a0 - a2)) = up (a0 - a2) := by unfold most up; omega
      have e2 : most (up (a1 - a3)) = up (a1 - a3) := by unfold most up; omega
      have e3 : most (up a0) = a0 := by unfold most up; omega
      have E1 := Lib.hid e1
      have E2 := Lib.hid e2
      have E3 := Lib.hid e3
      clear e1 e2 e3
      have hl : ∀ W, Calls Try.prog 9 #[.complex .f64 (F a0) (F a1), .complex .f64 0 4787326403894837248] W fun e w' => e = .returned (.complex .f64 (F a0) (F (most (up (a1 - 1099511627776))))) ∧ W = w' := fun W => by
        have h := Ch.less_any a0 a1 0 1099511627776 W px0 px1 ⟨by decide, by decide⟩ ⟨by decide, by decide⟩
        rw [F_zero, ← const_most, Int.sub_zero, E3.out] at h
        exact h
      have HL := Lib.hid hl
      clear hl
      have hc : (a0 ≤ a2 ∧ a1 ≤ a3) ∨ (a2 < a0 ∨ a3 < a1) := by omega
      have pre : ∀ W1 : World, Calls Try.prog 8 #[.complex .f64 (F a0) (F a1), .complex .f64 (F a2) (F a3)] W1 fun e w' => e = .returned (.bool (decide (a0 ≤ a2) && decide (a1 ≤ a3))) ∧ W1 = w' := fun W1 => by
        rcases hc with hc | hc
        · have : (decide (a0 ≤ a2) && decide (a1 ≤ a3)) = true := by simp [hc.1, hc.2]
          rw [this]; exact Ch.fits_yes _ _ _ _ _ px0 px1 py0 py1 hc.1 hc.2
        · have : (decide (a0 ≤ a2) && decide (a1 ≤ a3)) = false := by
            rcases hc with hc | hc
            · simp; omega
            · simp; omega
          rw [this]; exact Ch.fits_no _ _ _ _ _ px0 px1 py0 py1 hc
      have PRE := Lib.hid pre
      clear pre hc
      have hcs : (∃ b, decide (a0 ≤ a2) = b) ∧ (∃ b, decide (a1 ≤ a3) = b) := ⟨⟨_, rfl⟩, ⟨_, rfl⟩⟩
      obtain ⟨⟨b0, hb0⟩, ⟨b1, hb1⟩⟩ := hcs
      cases b0 <;> cases b1
      all_goals
        go_enter Try.func4, Try.ntmps4
        go_wp2_with fail
        refine (Ch.alive_any _).mono ?_; rintro e W1 ⟨rfl, g1⟩
        go_wp2_with fail
        refine (Ch.of_yes _ _ _ x0 x1 x2 x3).mono ?_; rintro e w' ⟨rfl, rfl⟩
        go_wp2_with fail
        refine (Ch.of_yes _ _ _ y0 y1 y2 y3).mono ?_; rintro e w' ⟨rfl, rfl⟩
        go_wp2_with fail
        refine (Ch.less_any _ _ _ _ _ px0 px1 py0 py1).mono ?_; rintro e w' ⟨rfl, rfl⟩
        rw [E1.out, E2.out]
        go_wp2_with fail
        refine (Ch.parts_any _ _ _ (by rw [← E1.out]; exact Ch.part_lim _) (by rw [← E2.out]; exact Ch.part_lim _)).mono ?_; rintro e w' ⟨rfl, rfl⟩
        go_wp2_with fail
        refine (Ch.times_any _ _ _ _ px0 px1).mono ?_; rintro e w' ⟨rfl, rfl⟩
        go_wp2_with fail
        refine (Ch.parts_any _ _ _ (Ch.part_lim _) (Ch.part_lim _)).mono ?_; rintro e w' ⟨rfl, rfl⟩
        go_wp2_with fail
        refine (HL.out _).mono ?_; rintro e w' ⟨rfl, rfl⟩
        go_wp2_with fail
        refine (Ch.times_any _ _ _ _ px0 (Ch.part_lim _)).mono ?_; rintro e w' ⟨rfl, rfl⟩
        go_wp2_with fail
        refine (Ch.parts_any _ _ _ (Ch.part_lim _) (Ch.part_lim _)).mono ?_; rintro e w' ⟨rfl, rfl⟩
        go_wp2_with fail
        refine (Ch.lawUp_any _ _).mono ?_; rintro e w' ⟨rfl, rfl⟩
        go_wp2_with fail
        refine (Ch.lawUp_any _ _).mono ?_; rintro e w' ⟨rfl, rfl⟩
        go_wp2_with fail
        refine (PRE.out _).mono ?_; rintro e w' ⟨rfl, rfl⟩
        go_wp2_with fail
        go_ret
        exact ⟨rfl, g1⟩

set_option maxRecDepth 100000 in
theorem lifted (os : Os) (started : os.Started) (H : Type) (enc : TypeId × Value → H) :
    ReturnsInHanded {} Try.checked os 4 .any (Rows.chargePartsSpec.pre6 enc Try.prog Try.f4 Rows.chargePartsRow.domain false) (Rows.chargePartsSpec.post enc Try.prog Try.f4 false true false false) := by
  refine returnsInHanded_of_change (C := Try.checked) own started (by kernel_rfl) Try.func4
    (ChangeSpec.witness6 (enc := enc) (C := Try.checked) false ⟨#[], #[.int .i64 0, .int .i64 0, .int .i64 0, .int .i64 0, .int .i64 0], []⟩ 8 (by kernel_rfl) (by kernel_rfl) (by kernel_rfl) (by kernel_rfl)) ?_
  intro W base args ds gs before hval0 hW hcnd _
  have hval : ∀ (j : Nat) t v, Try.f4.params[j]? = some t → args[j]? = some v → Value.okWide Try.prog W .any base t v := hval0
  have hW' := hW
  obtain ⟨p, q, hA0, hV, rfl, hfz, hnd⟩ := hW
  have hA : DataW.TrodAll enc Try.prog W 0 (fun _ => true) true Try.f4.params.toList args.toList ds p := hA0
  rw [Try.params4] at hA hval
  obtain ⟨v0, vs0, d0, ds0, p0, q0, hargs, rfl, rfl, h0, r0⟩ := trodAll_cons hA
  obtain ⟨v1, vs1, d1, ds1, p1, q1, rfl, rfl, rfl, h1, r1⟩ := trodAll_cons r0
  obtain ⟨v2, vs2, d2, ds2, p2, q2, rfl, rfl, rfl, h2, r2⟩ := trodAll_cons r1
  obtain ⟨v3, vs3, d3, ds3, p3, q3, rfl, rfl, rfl, h3, r3⟩ := trodAll_cons r2
  obtain ⟨v4, vs4, d4, ds4, p4, q4, rfl, rfl, rfl, h4, r4⟩ := trodAll_cons r3
  obtain ⟨rfl, rfl, rfl⟩ := trodAll_nil r4
  obtain rfl : args = #[v0, v1, v2, v3, v4] := by cases args; simp_all
  obtain ⟨rfl, rfl⟩ := trodVars_none hV
  obtain ⟨a0, rfl, rfl, rfl, w0⟩ := open_int Try.underlying3 (hval 0 3 v0 rfl rfl) h0
  obtain ⟨a1, rfl, rfl, rfl, w1⟩ := open_int Try.underlying3 (hval 1 3 v1 rfl rfl) h1
  obtain ⟨a2, rfl, rfl, rfl, w2⟩ := open_int Try.underlying3 (hval 2 3 v2 rfl rfl) h2
  obtain ⟨a3, rfl, rfl, rfl, w3⟩ := open_int Try.underlying3 (hval 3 3 v3 rfl rfl) h3
  obtain ⟨a4, rfl, rfl, rfl, w4⟩ := open_int Try.underlying3 (hval 4 3 v4 rfl rfl) h4
  clear hA0 hval0
  simp only [List.append_nil] at hW'
  refine (walk a0 a1 a2 a3 a4 w0 w1 w2 w3 w4 W).mono fun e W' ⟨he, hg⟩ => ?_
  subst he
  exact ⟨_, rfl, post_of_same (pa := []) (pv := []) hW' (fun _ _ _ => (trodAll_cons_mk (shut_bool Try.underlying4 _) trodAll_mk0)) (fun sp _ => (trodAll_cons_mk (shut_int Try.underlying3 w0) (trodAll_cons_mk (shut_int Try.underlying3 w1) (trodAll_cons_mk (shut_int Try.underlying3 w2) (trodAll_cons_mk (shut_int Try.underlying3 w3) (trodAll_cons_mk (shut_int Try.underlying3 w4) trodAll_mk0)))))) (fun _ _ => rfl) rfl
    (hg.frame _) hg.2.1 (ok_one (by kernel_rfl) rfl (okWide_bool_mk Try.underlying4 _))⟩

theorem over : Rows.chargePartsRow.holds Try.pinned (OpenSpec.ofChange Rows.chargePartsSpec) :=
  OpenClaim.holds_of_wide 4 Try.f4 rfl rfl rfl rfl rfl rfl rfl ⟨rfl, rfl, rfl, rfl, rfl⟩ rfl rfl rfl rfl rfl (by kernel_rfl) Try.func4 (by kernel_rfl)
    (of_decide_eq_true (by kernel_rfl)) (by unfold Func.isWrapper; first | (rw [if_pos (by decide +kernel)]; kernel_rfl) | (rw [if_neg (by decide +kernel)]; exact ⟨rfl, rfl⟩))
    (fun os started H enc _ => lifted os started H enc)

theorem proved : Rows.ChargePartsSaid :=
  over
#print axioms proved
end Go.Proofs.Ytiekheinlhacpaa.chargeParts
