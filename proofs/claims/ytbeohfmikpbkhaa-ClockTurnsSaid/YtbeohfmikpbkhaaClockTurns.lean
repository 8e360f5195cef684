/- ClockTurns: for all numbers the statement holds: a block that was asked for since the hand passed it stays when the next one goes. -/
import Derived.Test.YtbeohfmikpbkhaaCoL
import Derived.ArgAppend
import Derived.Test.YtbeohfmikpbkhaaRows
namespace Go.Proofs.Ytbeohfmikpbkhaa.clockTurns
set_option linter.unusedVariables false
set_option linter.unusedSimpArgs false
open Go.ChangeShapes Go.WideShapes Go.ChangeAt Go.RowKit Lift Ik Ck

theorem own : ownKnob Try.prog.godebug = none := by kernel_rfl

theorem filled_few (n : Nat) : ∀ j, Few j (filled n j)
  | 0 => few_new
  | j + 1 => few_rel (few_put (filled_few n j) n 7 (j : Int) [1]) 7 (j : Int)
theorem wfn {j : Nat} (h : j ≤ 100) : wf64 (j : Int) := by
  show (Lit.int .i64 (j : Int)).wf = true
  exact WalkArith.wf_i64 (by omega)
set_option maxRecDepth 100000 in
set_option maxHeartbeats 3200000 in
theorem walk_no (a0 a1 : Int) (W : World) (h : a0 < 3 ∨ 20 < a0 ∨ a1 < 0 ∨ a0 ≤ a1) : Calls Try.prog 5 #[.int .i64 a0, .int .i64 a1] W (Yes W) := by
  go_enter Try.func5, Try.ntmps5
  go_wp2_with fail
  refine (alive_any _).mono ?_
  rintro e W1 ⟨rfl, hb1⟩
  have HB1 := Lib.hid hb1
  clear hb1
  by_cases h1 : a0 < 3
  · have d1 : decide (a0 < 3) = true := decide_eq_true h1
    clear h h1
    go_wp2_with fail
    go_ret
    exact ⟨rfl, HB1.out⟩
  · have d1 : decide (a0 < 3) = false := decide_eq_false h1
    by_cases h2 : 20 < a0
    · have d2 : decide (20 < a0) = true := decide_eq_true h2
      clear h h1 h2
      go_wp2_with fail
      go_ret
      exact ⟨rfl, HB1.out⟩
    · have d2 : decide (20 < a0) = false := decide_eq_false h2
      by_cases h3 : a1 < 0
      · have d3 : decide (a1 < 0) = true := decide_eq_true h3
        clear h h1 h2 h3
        go_wp2_with fail
        go_ret
        exact ⟨rfl, HB1.out⟩
      · have d3 : decide (a1 < 0) = false := decide_eq_false h3
        have d4 : decide (a0 ≤ a1) = true := decide_eq_true (by omega)
        clear h h1 h2 h3
        go_wp2_with fail
        go_ret
        exact ⟨rfl, HB1.out⟩
set_option maxRecDepth 100000 in
set_option maxHeartbeats 3200000 in
theorem walk (n asked : Nat) (W : World) (h3 : 3 ≤ n) (h20 : n ≤ 20) (ha : asked < n) : Calls Try.prog 5 #[.int .i64 (n : Int), .int .i64 (asked : Int)] W (Yes W) := by
  have hturn := turns_ok n (by omega) h3 asked ha
  unfold turns at hturn
  simp only [Bool.and_eq_true, Bool.not_eq_true', beq_iff_eq] at hturn
  obtain ⟨⟨⟨⟨t1, t2⟩, t3⟩, t4⟩, t5⟩ := hturn
  have T1 := Lib.hid t1
  have T2 := Lib.hid t2
  have T3 := Lib.hid t3
  have T4 := Lib.hid t4
  have T5 := Lib.hid t5
  clear t1 t2 t3 t4 t5
  have d1 : decide ((n : Int) < 3) = false := decide_eq_false (by omega)
  have d2 : decide ((20 : Int) < (n : Int)) = false := decide_eq_false (by omega)
  have d3 : decide ((asked : Int) < 0) = false := decide_eq_false (by omega)
  have d4 : decide ((n : Int) ≤ (asked : Int)) = false := decide_eq_false (by omega)
  have d4' : decide (n ≤ asked) = false := decide_eq_false (by omega)
  go_enter Try.func5, Try.ntmps5
  go_wp2_with fail
  refine (alive_any _).mono ?_
  rintro e W1 ⟨rfl, hb1⟩
  have HN := Lib.hid (new_any (n : Int) (wfn (by omega)) W1)
  rw [show roomO (n : Int) = n by unfold roomO; omega] at HN
  have HB1 := Lib.hid hb1
  clear hb1
  go_wp2_with fail
  refine HN.out.mono ?_
  rintro e W2 ⟨rfl, hc2, hb2⟩
  have HT : Hid (Ck.Own W W2 W1.heap.size (· = W1.heap.size) n ([], 0)) := Lib.hid (own_new rfl hc2 HB1.out hb2)
  clear hc2 hb2 HN d1 d2 d3 d4 d4'
  generalize W1.heap.size = g at HT ⊢
  clear HB1
  go_wp2_with fail
  go_loopw [7] (fun i wr => ∃ (j : Nat) (Y : Nat → Prop), j ≤ n ∧ i = .int .i64 (j : Int) ∧ Hid (Ck.Own W wr g Y n (filled n j))) (fun i _ => n + 1 - (intOf i).toNat)
  case atStart => exact ⟨0, _, Nat.zero_le _, rfl, HT⟩
  case round =>
    obtain ⟨j, Y, hj, rfl, ho⟩ := hrel
    have hfew := filled_few n j
    by_cases hlt : j < n
    · have HP := Lib.hid (ho.out.put1 7 (j : Int) (by decide) (wfn (by omega)) (by have := hfew.pins; omega) (by have := hfew.slots; omega))
      clear hfew
      go_wp2_with fail
      refine HP.out.mono ?_
      rintro e W3 ⟨rfl, Y3, ho3⟩
      have HRL := Lib.hid (ho3.rel 7 (j : Int) (by decide) (wfn (by omega)))
      clear ho3 HP
      go_wp2_with fail
      refine HRL.out.mono ?_
      rintro e W4 ⟨rfl, Y4, ho4⟩
      have HO4 := Lib.hid ho4
      clear ho4 HRL
      go_wp2_with fail
      go_roundw
      case rel => exact ⟨j + 1, Y4, by omega, by go_num, HO4⟩
      case measure => simp [intOf]; omega
    · obtain rfl : j = n := by omega
      have HF := Lib.hid hfew
      have HP := Lib.hid (ho.out.put1 7 (j : Int) (by decide) (wfn (by omega)) (by have := hfew.pins; omega) (by have := hfew.slots; omega))
      rw [T1.out] at HP
      have HF1 : Hid (Few (j + 1) (relC (putC j (filled j j) 7 (j : Int) [1]).1 7 (j : Int)).1) := Lib.hid (few_rel (few_put hfew j 7 (j : Int) [1]) 7 (j : Int))
      clear hfew
      go_wp2_with fail
      refine HP.out.mono ?_
      rintro e W3 ⟨rfl, Y3, ho3⟩
      have HRL := Lib.hid (ho3.rel 7 (j : Int) (by decide) (wfn (by omega)))
      clear ho3 HP
      go_wp2_with fail
      refine HRL.out.mono ?_
      rintro e W4 ⟨rfl, Y4, ho4⟩
      generalize (relC (putC j (filled j j) 7 (j : Int) [1]).1 7 (j : Int)).1 = c1 at *
      have HO4 := Lib.hid ho4
      have HG0 := Lib.hid (get_any 7 0 (by decide) (by decide) ho4.oc (by have := HF1.out.pins; omega))
      clear ho4 HRL
      go_wp2_with fail
      refine HG0.out.mono ?_
      intro e W5 hg0
      obtain ⟨A5, c5, bs5, -, rfl, -, ho5⟩ := HO4.out.got hg0
      have HF2 : Hid (Few (j + 2) (getC c1 7 0).1) := Lib.hid (few_get HF1.out 7 0)
      rw [T3.out]
      generalize (getC c1 7 0).1 = c2 at *
      have HO5 := Lib.hid ho5
      have HG1 := Lib.hid (get_any 7 (asked : Int) (by decide) (wfn (by omega)) ho5.oc (by have := HF2.out.pins; omega))
      clear ho5 hg0 HG0
      go_wp2_with fail
      refine HG1.out.mono ?_
      intro e W6 hg1
      obtain ⟨A6, c6, bs6, -, rfl, -, ho6⟩ := HO5.out.got hg1
      have HF3 : Hid (Few (j + 3) (getC c2 7 (asked : Int)).1) := Lib.hid (few_get HF2.out 7 (asked : Int))
      have HO6 := Lib.hid ho6
      clear hg1 HG1 ho6
      by_cases h0 : asked = 0
      · have hsm : (getC c2 7 (asked : Int)).2.isSome = false := by rw [T4.out, h0]; rfl
        rw [hsm] at T2 T5 ⊢
        simp only [Bool.false_eq_true, if_false] at T2 T5
        generalize (getC c2 7 (asked : Int)).1 = c3 at *
        have hne : ((asked : Int) != 0) = false := by rw [h0]; rfl
        have HP2 := Lib.hid (HO6.out.put1 7 ((j + 1 : Nat) : Int) (by decide) (wfn (by omega)) (by have := HF3.out.pins; omega) (by have := HF3.out.slots; omega))
        rw [T2.out, show ((j + 1 : Nat) : Int) = (j : Int) + 1 by omega] at HP2
        rw [show ((j + 1 : Nat) : Int) = (j : Int) + 1 by omega] at T5
        have HF4 : Hid (Few (j + 4) (putC j c3 7 ((j : Int) + 1) [1]).1) := Lib.hid (few_put HF3.out j 7 ((j : Int) + 1) [1])
        clear hsm h0
        go_wp2_with fail
        refine HP2.out.mono ?_
        rintro e W7 ⟨rfl, Y7, ho7⟩
        have HO7 := Lib.hid ho7
        have HG2 := Lib.hid (get_any 7 (asked : Int) (by decide) (wfn (by omega)) ho7.oc (by have := HF4.out.pins; omega))
        clear ho7 HP2
        go_wp2_with fail
        refine HG2.out.mono ?_
        intro e W8 hg2
        obtain ⟨A8, c8, bs8, -, rfl, -, ho8⟩ := HO7.out.got hg2
        rw [T5.out]
        have HB8 := Lib.hid ho8.be
        clear ho8 hg2 HG2
        go_wp2_with fail
        go_ret
        exact ⟨rfl, HB8.out⟩
      · have hsm : (getC c2 7 (asked : Int)).2.isSome = true := by rw [T4.out, decide_eq_false h0]; rfl
        rw [hsm] at T2 T5 ⊢
        simp only [if_true] at T2 T5
        have hne : ((asked : Int) != 0) = true := by rw [bne_iff_ne]; omega
        have HRL2 := Lib.hid (HO6.out.rel 7 (asked : Int) (by decide) (wfn (by omega)))
        have HF3r : Hid (Few (j + 3) (relC (getC c2 7 (asked : Int)).1 7 (asked : Int)).1) := Lib.hid (few_rel HF3.out 7 (asked : Int))
        clear hsm h0
        go_wp2_with fail
        refine HRL2.out.mono ?_
        rintro e W6r ⟨rfl, Y6r, ho6r⟩
        generalize (relC (getC c2 7 (asked : Int)).1 7 (asked : Int)).1 = c3 at *
        have HP2 := Lib.hid (ho6r.put1 7 ((j + 1 : Nat) : Int) (by decide) (wfn (by omega)) (by have := HF3r.out.pins; omega) (by have := HF3r.out.slots; omega))
        rw [T2.out, show ((j + 1 : Nat) : Int) = (j : Int) + 1 by omega] at HP2
        rw [show ((j + 1 : Nat) : Int) = (j : Int) + 1 by omega] at T5
        have HF4 : Hid (Few (j + 4) (putC j c3 7 ((j : Int) + 1) [1]).1) := Lib.hid (few_put HF3r.out j 7 ((j : Int) + 1) [1])
        clear ho6r HRL2
        go_wp2_with fail
        refine HP2.out.mono ?_
        rintro e W7 ⟨rfl, Y7, ho7⟩
        have HO7 := Lib.hid ho7
        have HG2 := Lib.hid (get_any 7 (asked : Int) (by decide) (wfn (by omega)) ho7.oc (by have := HF4.out.pins; omega))
        clear ho7 HP2
        go_wp2_with fail
        refine HG2.out.mono ?_
        intro e W8 hg2
        obtain ⟨A8, c8, bs8, -, rfl, -, ho8⟩ := HO7.out.got hg2
        rw [T5.out]
        have HB8 := Lib.hid ho8.be
        clear ho8 hg2 HG2
        go_wp2_with fail
        go_ret
        exact ⟨rfl, HB8.out⟩

set_option maxRecDepth 100000 in
theorem lifted (os : Os) (started : os.Started) (H : Type) (enc : TypeId × Value → H) :
    ReturnsInHanded {} Try.checked os 5 .any (Rows.clockTurnsSpec.pre6 enc Try.prog Try.f5 Rows.clockTurnsRow.domain false) (Rows.clockTurnsSpec.post enc Try.prog Try.f5 false true false false) := by
  refine lift_true (C := Try.checked) own started (by kernel_rfl) Try.func5
    (ChangeSpec.witness6 (enc := enc) (C := Try.checked) false ⟨#[], #[.int .i64 0, .int .i64 0], []⟩ 8 (by kernel_rfl) (by kernel_rfl) (by kernel_rfl) (by kernel_rfl))
    (by kernel_rfl) (by kernel_rfl) (by kernel_rfl) Try.underlying4 rfl ?_ ?_
  · intro ds hds
    match ds, hds with
    | [d1, d2], _ => exact ⟨rfl, rfl, rfl⟩
  · intro W base args ds p hval0 hA0 hlt _
    have hval : ∀ (j : Nat) t v, Try.f5.params[j]? = some t → args[j]? = some v → Value.okWide Try.prog W .any base t v := hval0
    have hA : DataW.TrodAll enc Try.prog W 0 (fun _ => true) true Try.f5.params.toList args.toList ds p := hA0
    rw [Try.params5] at hA hval
    obtain ⟨v0, vs0, d0, ds0, p0, q0, hargs, rfl, rfl, h0, r0⟩ := trodAll_cons hA
    obtain ⟨v1, vs1, d1, ds1, p1, q1, rfl, rfl, rfl, h1, r1⟩ := trodAll_cons r0
    obtain ⟨rfl, rfl, rfl⟩ := trodAll_nil r1
    obtain rfl : args = #[v0, v1] := by cases args; simp_all
    obtain ⟨a0, rfl, rfl, rfl, w0⟩ := open_int Try.underlying3 (hval 0 _ v0 rfl rfl) h0
    have b0 := i64_of w0
    obtain ⟨a1, rfl, rfl, rfl, w1⟩ := open_int Try.underlying3 (hval 1 _ v1 rfl rfl) h1
    have b1 := i64_of w1
    by_cases hc : a0 < 3 ∨ 20 < a0 ∨ a1 < 0 ∨ a0 ≤ a1
    · exact walk_no a0 a1 W hc
    · obtain ⟨n, rfl⟩ := Int.eq_ofNat_of_zero_le (show 0 ≤ a0 by omega)
      obtain ⟨k, rfl⟩ := Int.eq_ofNat_of_zero_le (show 0 ≤ a1 by omega)
      exact walk n k W (by omega) (by omega) (by omega)

theorem over : Rows.clockTurnsRow.holds Try.pinned (OpenSpec.ofChange Rows.clockTurnsSpec) :=
  OpenClaim.holds_of_wide 5 Try.f5 rfl rfl rfl rfl rfl rfl rfl ⟨rfl, rfl, rfl, rfl, rfl⟩ rfl rfl rfl rfl rfl (by kernel_rfl) Try.func5 (by kernel_rfl)
    (of_decide_eq_true (by kernel_rfl)) (by unfold Func.isWrapper; first | (rw [if_pos (by decide +kernel)]; kernel_rfl) | (rw [if_neg (by decide +kernel)]; exact ⟨rfl, rfl⟩))
    (fun os started H enc _ => lifted os started H enc)

theorem proved : Rows.ClockTurnsSaid :=
  over
#print axioms proved
end Go.Proofs.Ytbeohfmikpbkhaa.clockTurns
