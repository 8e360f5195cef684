/- Proved: for any four whole numbers, ChargeLaws of butterylaw1 answers true (sums in either order, what was added can be taken away, Times by 2, 1 and 0). Conditions: none beyond what the given row states. -/
import Derived.Test.YtiekheinlhacpaaRows
import Derived.WalkKit
import Derived.ProofKit
import Derived.OpenShut
import Derived.Test.YtiekheinlhacpaaCharge
namespace Go.Proofs.Ytiekheinlhacpaa.chargeLaws
open Go.ChangeShapes Go.WideShapes Go.ChangeAt Go.RowKit Fl
set_option linter.unusedVariables false      -- a walk need not use every 'w<i>' (that an integer argument fits its kind)

theorem own : ownKnob Try.prog.godebug = none := by kernel_rfl

theorem walk (a0 : Int) (a1 : Int) (a2 : Int) (a3 : Int) (w0 : (Lit.int .i64 a0).wf = true) (w1 : (Lit.int .i64 a1).wf = true) (w2 : (Lit.int .i64 a2).wf = true) (w3 : (Lit.int .i64 a3).wf = true) (w : World) :
    Calls Try.prog 3 #[.int .i64 a0, .int .i64 a1, .int .i64 a2, .int .i64 a3] w fun e w' => e = .returned (.bool true) ∧ Grown w w' := by
  by_cases hx : Part a0 ∧ Part a1
  case neg =>
    have hx' : a0 < 0 ∨ 1099511627776 < a0 ∨ a1 < 0 ∨ 1099511627776 < a1 := by unfold Part at hx; omega
    by_cases hy : Part a2 ∧ Part a3
    case pos =>
      obtain ⟨⟨y0, y1⟩, ⟨y2, y3⟩⟩ := hy
      clear hx
      go_enter Try.func3, Try.ntmps3
      go_wp2_with fail
      refine (Ch.alive_any _).mono ?_; rintro e W1 ⟨rfl, g1⟩
      go_wp2_with fail
      refine (Ch.of_no _ _ _ hx').mono ?_; rintro e w' ⟨rfl, rfl⟩
      go_wp2_with fail
      refine (Ch.of_yes _ _ _ y0 y1 y2 y3).mono ?_; rintro e w' ⟨rfl, rfl⟩
      go_wp2_with fail
      go_ret
      exact ⟨rfl, g1⟩
    case neg =>
      have hy' : a2 < 0 ∨ 1099511627776 < a2 ∨ a3 < 0 ∨ 1099511627776 < a3 := by unfold Part at hy; omega
      clear hx hy
      go_enter Try.func3, Try.ntmps3
      go_wp2_with fail
      refine (Ch.alive_any _).mono ?_; rintro e W1 ⟨rfl, g1⟩
      go_wp2_with fail
      refine (Ch.of_no _ _ _ hx').mono ?_; rintro e w' ⟨rfl, rfl⟩
      go_wp2_with fail
      refine (Ch.of_no _ _ _ hy').mono ?_; rintro e w' ⟨rfl, rfl⟩
      go_wp2_with fail
      go_ret
      exact ⟨rfl, g1⟩
  case pos =>
    by_cases hy : Part a2 ∧ Part a3
    case neg =>
      have hy' : a2 < 0 ∨ 1099511627776 < a2 ∨ a3 < 0 ∨ 1099511627776 < a3 := by unfold Part at hy; omega
      obtain ⟨⟨x0, x1⟩, ⟨x2, x3⟩⟩ := hx
      clear hy
      go_enter Try.func3, Try.ntmps3
      go_wp2_with fail
      refine (Ch.alive_any _).mono ?_; rintro e W1 ⟨rfl, g1⟩
      go_wp2_with fail
      refine (Ch.of_yes _ _ _ x0 x1 x2 x3).mono ?_; rintro e w' ⟨rfl, rfl⟩
      go_wp2_with fail
      refine (Ch.of_no _ _ _ hy').mono ?_; rintro e w' ⟨rfl, rfl⟩
      go_wp2_with fail
      go_ret
      exact ⟨rfl, g1⟩
    case pos =>
      obtain ⟨px0, px1⟩ := hx
      obtain ⟨py0, py1⟩ := hy
      obtain ⟨x0, x1⟩ := px0
      obtain ⟨x2, x3⟩ := px1
      obtain ⟨y0, y1⟩ := py0
      obtain ⟨y2, y3⟩ := py1
      have px0 : Part a0 := ⟨x0, x1⟩
      have px1 : Part a1 := ⟨x2, x3⟩
      have py0 : Part a2 := ⟨y0, y1⟩
      have py1 : Part a3 := ⟨y2, y3⟩
      obtain ⟨sa, hsa⟩ : ∃ sa, most (a0 + a2) = sa := ⟨_, rfl⟩
      obtain ⟨sb, hsb⟩ : ∃ sb, most (a1 + a3) = sb := ⟨_, rfl⟩
      obtain ⟨da, hda⟩ : ∃ da, most (a0 + a0) = da := ⟨_, rfl⟩
      obtain ⟨db, hdb⟩ : ∃ db, most (a1 + a1) = db := ⟨_, rfl⟩
      obtain ⟨la, hla⟩ : ∃ la, most (up (a0 - a2)) = la := ⟨_, rfl⟩
      obtain ⟨lb, hlb⟩ : ∃ lb, most (up (a1 - a3)) = lb := ⟨_, rfl⟩
      obtain ⟨ra, hra⟩ : ∃ ra, most (up (sa - a2)) = ra := ⟨_, rfl⟩
      obtain ⟨rb, hrb⟩ : ∃ rb, most (up (sb - a3)) = rb := ⟨_, rfl⟩
      have psa : Part sa := by unfold most at hsa; unfold Part; omega
      have psb : Part sb := by unfold most at hsb; unfold Part; omega
      have pda : Part da := by unfold most at hda; unfold Part; omega
      have pdb : Part db := by unfold most at hdb; unfold Part; omega
      have pla : Part la := by rw [← hla]; exact Ch.part_lim _
      have plb : Part lb := by rw [← hlb]; exact Ch.part_lim _
      have pra : Part ra := by rw [← hra]; exact Ch.part_lim _
      have prb : Part rb := by rw [← hrb]; exact Ch.part_lim _
      have f1 : a0 ≤ sa := by unfold most at hsa; omega
      have f2 : a1 ≤ sb := by unfold most at hsb; omega
      have f3 : la ≤ a0 := by unfold most up at hla; omega
      have f4 : lb ≤ a1 := by unfold most up at hlb; omega
      have f5 : ra ≤ a0 := by unfold most at hsa; unfold most up at hra; omega
      have f6 : rb ≤ a1 := by unfold most at hsb; unfold most up at hrb; omega
      have s1 : ∀ (W : World) (N : Nat), N = W.heap.size → Calls Try.prog 7 #[.slice (some ⟨N, 0, none⟩) 2 2] (W.alloc (.cells #[.complex .f64 (F a0) (F a1), .complex .f64 (F a2) (F a3)] 23)) fun e w' => e = .returned (.complex .f64 (F sa) (F sb)) ∧ W.alloc (.cells #[.complex .f64 (F a0) (F a1), .complex .f64 (F a2) (F a3)] 23) = w' := fun W N hN => by
        have h := Ch.sum_pair a0 a1 a2 a3 W N hN px0 px1 py0 py1
        rw [hsa, hsb] at h; exact h
      have s2 : ∀ (W : World) (N : Nat), N = W.heap.size → Calls Try.prog 7 #[.slice (some ⟨N, 0, none⟩) 2 2] (W.alloc (.cells #[.complex .f64 (F a2) (F a3), .complex .f64 (F a0) (F a1)] 23)) fun e w' => e = .returned (.complex .f64 (F sa) (F sb)) ∧ W.alloc (.cells #[.complex .f64 (F a2) (F a3), .complex .f64 (F a0) (F a1)] 23) = w' := fun W N hN => by
        have h := Ch.sum_pair a2 a3 a0 a1 W N hN py0 py1 px0 px1
        rw [Int.add_comm a2 a0, Int.add_comm a3 a1, hsa, hsb] at h; exact h
      have s3 : ∀ (W : World) (N : Nat), N = W.heap.size → Calls Try.prog 7 #[.slice (some ⟨N, 0, none⟩) 2 2] (W.alloc (.cells #[.complex .f64 (F a0) (F a1), .complex .f64 (F a0) (F a1)] 23)) fun e w' => e = .returned (.complex .f64 (F da) (F db)) ∧ W.alloc (.cells #[.complex .f64 (F a0) (F a1), .complex .f64 (F a0) (F a1)] 23) = w' := fun W N hN => by
        have h := Ch.sum_pair a0 a1 a0 a1 W N hN px0 px1 px0 px1
        rw [hda, hdb] at h; exact h
      have l1 : ∀ W : World, Calls Try.prog 9 #[.complex .f64 (F a0) (F a1), .complex .f64 (F a2) (F a3)] W fun e w' => e = .returned (.complex .f64 (F la) (F lb)) ∧ W = w' := fun W => by
        have h := Ch.less_any a0 a1 a2 a3 W px0 px1 py0 py1
        rw [hla, hlb] at h; exact h
      have l2 : ∀ W : World, Calls Try.prog 9 #[.complex .f64 (F sa) (F sb), .complex .f64 (F a2) (F a3)] W fun e w' => e = .returned (.complex .f64 (F ra) (F rb)) ∧ W = w' := fun W => by
        have h := Ch.less_any sa sb a2 a3 W psa psb py0 py1
        rw [hra, hrb] at h; exact h
      have t2 : ∀ W : World, Calls Try.prog 10 #[.complex .f64 (F a0) (F a1), .int .i64 2] W fun e w' => e = .returned (.complex .f64 (F da) (F db)) ∧ W = w' := fun W => by
        have h := Ch.times_any a0 a1 2 W px0 px1
        have e1 : most (up (a0 * Ch.fac 2)) = da := by rw [← hda, show Ch.fac 2 = 2 from by decide]; unfold most up; omega
        have e2 : most (up (a1 * Ch.fac 2)) = db := by rw [← hdb, show Ch.fac 2 = 2 from by decide]; unfold most up; omega
        rw [e1, e2] at h; exact h
      have t1 : ∀ W : World, Calls Try.prog 10 #[.complex .f64 (F a0) (F a1), .int .i64 1] W fun e w' => e = .returned (.complex .f64 (F a0) (F a1)) ∧ W = w' := fun W => by
        have h := Ch.times_any a0 a1 1 W px0 px1
        have e1 : most (up (a0 * Ch.fac 1)) = a0 := by rw [show Ch.fac 1 = 1 from by decide]; unfold most up; omega
        have e2 : most (up (a1 * Ch.fac 1)) = a1 := by rw [show Ch.fac 1 = 1 from by decide]; unfold most up; omega
        rw [e1, e2] at h; exact h
      have t0 : ∀ W : World, Calls Try.prog 10 #[.complex .f64 (F a0) (F a1), .int .i64 0] W fun e w' => e = .returned (.complex .f64 0 0) ∧ W = w' := fun W => by
        have h := Ch.times_any a0 a1 0 W px0 px1
        have e1 : most (up (a0 * Ch.fac 0)) = 0 := by rw [show Ch.fac 0 = 0 from by decide]; unfold most up; omega
        have e2 : most (up (a1 * Ch.fac 0)) = 0 := by rw [show Ch.fac 0 = 0 from by decide]; unfold most up; omega
        rw [e1, e2, F_zero] at h; exact h
      have o1 := Ch.order_same sa psa
      have o2 := Ch.order_same sb psb
      have o3 := Ch.order_same da pda
      have o4 := Ch.order_same db pdb
      have o5 := Ch.order_same a0 px0
      have o6 := Ch.order_same a1 px1
      have o7 : FloatKind.f64.format.order 0 0 = some .eq := by decide +kernel
      have S1 := Lib.hid s1
      have S2 := Lib.hid s2
      have S3 := Lib.hid s3
      have L1 := Lib.hid l1
      have L2 := Lib.hid l2
      have T2 := Lib.hid t2
      have T1 := Lib.hid t1
      have T0 := Lib.hid t0
      have hcs : (decide (a0 + a2 ≤ 1099511627776) = true ∧ decide (a1 + a3 ≤ 1099511627776) = true ∧ ra = a0 ∧ rb = a1) ∨ (decide (a0 + a2 ≤ 1099511627776) = false) ∨ (decide (a0 + a2 ≤ 1099511627776) = true ∧ decide (a1 + a3 ≤ 1099511627776) = false) := by
        simp only [decide_eq_true_eq, decide_eq_false_iff_not]
        unfold most at hsa hsb
        unfold most up at hra hrb
        omega
      clear s1 s2 s3 l1 l2 t2 t1 t0 hsa hsb hda hdb hla hlb hra hrb
      rcases hcs with ⟨hb0, hb1, rfl, rfl⟩ | hb0 | ⟨hb0, hb1⟩
      all_goals
        go_enter Try.func3, Try.ntmps3
        go_wp2_with fail
        refine (Ch.alive_any _).mono ?_; rintro e W1 ⟨rfl, g1⟩
        go_wp2_with fail
        refine (Ch.of_yes _ _ _ x0 x1 x2 x3).mono ?_; rintro e w' ⟨rfl, rfl⟩
        go_wp2_with fail
        refine (Ch.of_yes _ _ _ y0 y1 y2 y3).mono ?_; rintro e w' ⟨rfl, rfl⟩
        go_wp2_with fail
        refine (S1.out _ _ (by simp)).mono ?_; rintro e w' ⟨rfl, rfl⟩
        go_wp2_with fail
        refine (S2.out _ _ (by simp)).mono ?_; rintro e w' ⟨rfl, rfl⟩
        go_wp2_with fail
        refine (Ch.fits_yes _ _ _ _ _ px0 px1 psa psb f1 f2).mono ?_; rintro e w' ⟨rfl, rfl⟩
        go_wp2_with fail
        refine (L1.out _).mono ?_; rintro e w' ⟨rfl, rfl⟩
        go_wp2_with fail
        refine (Ch.fits_yes _ _ _ _ _ pla plb px0 px1 f3 f4).mono ?_; rintro e w' ⟨rfl, rfl⟩
        go_wp2_with fail
        refine (T2.out _).mono ?_; rintro e w' ⟨rfl, rfl⟩
        go_wp2_with fail
        refine (S3.out _ _ (by simp)).mono ?_; rintro e w' ⟨rfl, rfl⟩
        go_wp2_with fail
        refine (T1.out _).mono ?_; rintro e w' ⟨rfl, rfl⟩
        go_wp2_with fail
        refine (T0.out _).mono ?_; rintro e w' ⟨rfl, rfl⟩
        go_wp2_with fail
        refine (L2.out _).mono ?_; rintro e w' ⟨rfl, rfl⟩
        go_wp2_with fail
        try (refine (Ch.fits_yes _ _ _ _ _ pra prb px0 px1 f5 f6).mono ?_; rintro e w' ⟨rfl, rfl⟩; go_wp2_with fail)
        go_ret
        exact ⟨rfl, ((g1.alloc _ _).alloc _ _).alloc _ _⟩

set_option maxRecDepth 100000 in
theorem lifted (os : Os) (started : os.Started) (H : Type) (enc : TypeId × Value → H) :
    ReturnsInHanded {} Try.checked os 3 .any (Rows.chargeLawsSpec.pre6 enc Try.prog Try.f3 Rows.chargeLawsRow.domain false) (Rows.chargeLawsSpec.post enc Try.prog Try.f3 false true false false) := by
  refine returnsInHanded_of_change (C := Try.checked) own started (by kernel_rfl) Try.func3
    (ChangeSpec.witness6 (enc := enc) (C := Try.checked) false ⟨#[], #[.int .i64 0, .int .i64 0, .int .i64 0, .int .i64 0], []⟩ 8 (by kernel_rfl) (by kernel_rfl) (by kernel_rfl) (by kernel_rfl)) ?_
  intro W base args ds gs before hval0 hW hcnd _
  have hval : ∀ (j : Nat) t v, Try.f3.params[j]? = some t → args[j]? = some v → Value.okWide Try.prog W .any base t v := hval0
  have hW' := hW
  obtain ⟨p, q, hA0, hV, rfl, hfz, hnd⟩ := hW
  have hA : DataW.TrodAll enc Try.prog W 0 (fun _ => true) true Try.f3.params.toList args.toList ds p := hA0
  rw [Try.params3] at hA hval
  obtain ⟨v0, vs0, d0, ds0, p0, q0, hargs, rfl, rfl, h0, r0⟩ := trodAll_cons hA
  obtain ⟨v1, vs1, d1, ds1, p1, q1, rfl, rfl, rfl, h1, r1⟩ := trodAll_cons r0
  obtain ⟨v2, vs2, d2, ds2, p2, q2, rfl, rfl, rfl, h2, r2⟩ := trodAll_cons r1
  obtain ⟨v3, vs3, d3, ds3, p3, q3, rfl, rfl, rfl, h3, r3⟩ := trodAll_cons r2
  obtain ⟨rfl, rfl, rfl⟩ := trodAll_nil r3
  obtain rfl : args = #[v0, v1, v2, v3] := by cases args; simp_all
  obtain ⟨rfl, rfl⟩ := trodVars_none hV
  obtain ⟨a0, rfl, rfl, rfl, w0⟩ := open_int Try.underlying3 (hval 0 3 v0 rfl rfl) h0
  obtain ⟨a1, rfl, rfl, rfl, w1⟩ := open_int Try.underlying3 (hval 1 3 v1 rfl rfl) h1
  obtain ⟨a2, rfl, rfl, rfl, w2⟩ := open_int Try.underlying3 (hval 2 3 v2 rfl rfl) h2
  obtain ⟨a3, rfl, rfl, rfl, w3⟩ := open_int Try.underlying3 (hval 3 3 v3 rfl rfl) h3
  clear hA0 hval0
  simp only [List.append_nil] at hW'
  refine (walk a0 a1 a2 a3 w0 w1 w2 w3 W).mono fun e W' ⟨he, hg⟩ => ?_
  subst he
  exact ⟨_, rfl, post_of_same (pa := []) (pv := []) hW' (fun _ _ _ => (trodAll_cons_mk (shut_bool Try.underlying4 _) trodAll_mk0)) (fun sp _ => (trodAll_cons_mk (shut_int Try.underlying3 w0) (trodAll_cons_mk (shut_int Try.underlying3 w1) (trodAll_cons_mk (shut_int Try.underlying3 w2) (trodAll_cons_mk (shut_int Try.underlying3 w3) trodAll_mk0))))) (fun _ _ => rfl) rfl
    (hg.frame _) hg.2.1 (ok_one (by kernel_rfl) rfl (okWide_bool_mk Try.underlying4 _))⟩

theorem over : Rows.chargeLawsRow.holds Try.pinned (OpenSpec.ofChange Rows.chargeLawsSpec) :=
  OpenClaim.holds_of_wide 3 Try.f3 rfl rfl rfl rfl rfl rfl rfl ⟨rfl, rfl, rfl, rfl, rfl⟩ rfl rfl rfl rfl rfl (by kernel_rfl) Try.func3 (by kernel_rfl)
    (of_decide_eq_true (by kernel_rfl)) (by unfold Func.isWrapper; first | (rw [if_pos (by decide +kernel)]; kernel_rfl) | (rw [if_neg (by decide +kernel)]; exact ⟨rfl, rfl⟩))
    (fun os started H enc _ => lifted os started H enc)

theorem proved : Rows.ChargeLawsSaid :=
  over
#print axioms proved
end Go.Proofs.Ytiekheinlhacpaa.chargeLaws
