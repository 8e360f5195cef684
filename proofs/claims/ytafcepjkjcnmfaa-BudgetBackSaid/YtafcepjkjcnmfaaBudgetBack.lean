/- Proved: for any four whole numbers and either owner, BudgetBack of butterylaw15 answers true (what an owner took it can give back once, and no other one can). Conditions: none beyond what the given row states. -/
import Derived.Test.YtafcepjkjcnmfaaRows
import Derived.Test.YtafcepjkjcnmfaaBudf
namespace Go.Proofs.Ytafcepjkjcnmfaa.budgetBack
set_option linter.unusedVariables false
set_option linter.unusedSimpArgs false
open Go.ChangeShapes Go.WideShapes Go.ChangeAt Go.RowKit Lift Bg Fl

theorem own : ownKnob Try.prog.godebug = none := by kernel_rfl

abbrev zz : Int × Int := (0, 0)
theorem pz : PP zz := ⟨⟨by decide, by decide⟩, ⟨by decide, by decide⟩⟩
theorem wf1 : wf64 1 := by unfold wf64; decide
theorem wf2 : wf64 2 := by unfold wf64; decide
def Yes (w : World) (e : Ending) (w' : World) : Prop := e = .returned (.bool true) ∧ Below w.heap.size w w'
theorem alive_any (w : World) : Calls Try.prog 4 #[] w (Yes w) := by
  have c3 : (4613937818241073152 : Nat) = F 3 := by decide +kernel
  have c1 : (4607182418800017408 : Nat) = F 1 := by decide +kernel
  have c5 : (4617315517961601024 : Nat) = F 5 := by decide +kernel
  have HN := Lib.hid (new_any 5 0 ⟨by decide, by decide⟩ ⟨by decide, by decide⟩ w)
  have o3 : FloatKind.f64.format.order (F 3) 4613937818241073152 = some .eq := by decide +kernel
  have o0 : FloatKind.f64.format.order (F 0) 0 = some .eq := by decide +kernel
  have C3 := Lib.hid c3
  have C1 := Lib.hid c1
  have C5 := Lib.hid c5
  clear c1 c3 c5
  go_enter Try.func4, Try.ntmps4
  go_wp2_with fail
  rw [C5.out]
  refine HN.out.mono ?_
  rintro e w1 ⟨rfl, h1, b1⟩
  have H1 := Lib.hid h1
  have B1 := Lib.hid b1
  clear h1 b1
  generalize w.heap.size + 2 = g at *
  go_wp2_with fail
  rw [C1.out]
  refine (take_no H1.out ⟨⟨by decide, by decide⟩, ⟨by decide, by decide⟩⟩ pz (by decide) (by decide) 1 (0, 1) ⟨⟨by decide, by decide⟩, ⟨by decide, by decide⟩⟩ (by decide)).mono ?_
  rintro e w2 ⟨rfl, b2⟩
  have H2 := Lib.hid (H1.out.below b2 (Nat.le_refl _))
  have B2 := Lib.hid b2
  clear b2
  go_wp2_with fail
  rw [C3.out]
  refine (take_yes H2.out ⟨⟨by decide, by decide⟩, ⟨by decide, by decide⟩⟩ pz (by decide) (by decide) 1 wf1 (3, 0) ⟨⟨by decide, by decide⟩, ⟨by decide, by decide⟩⟩ (by decide) pz ⟨⟨by decide, by decide⟩, ⟨by decide, by decide⟩⟩ (by decide)).mono ?_
  rintro e w3 ⟨rfl, h3, b3⟩
  have H3 := Lib.hid h3
  have B3 := Lib.hid b3
  clear h3 b3
  go_wp2_with fail
  refine (used_any H3.out).mono ?_
  rintro e w' ⟨rfl, rfl⟩
  go_wp2_with fail
  go_ret
  have s1 := B1.out.size
  have s2 := B2.out.size
  exact ⟨rfl, (B1.out.trans (B2.out.mono s1)).trans (B3.out (Nat.le_trans s1 s2))⟩
theorem walk_no (a b c d : Int) (o : Bool) (W : World) (h : ¬ (Part a ∧ Part b) ∨ (Part a ∧ Part b) ∧ ¬ (Part c ∧ Part d)) : Calls Try.prog 3 #[vi a, vi b, vi c, vi d, .bool o] W (Yes W) := by
  rcases h with h | ⟨h0, h⟩
  · by_cases h2 : Part c ∧ Part d
    · have HA := Lib.hid (rof_no a b h)
      have HC := Lib.hid (rof_yes c d h2.1 h2.2)
      clear h h2
      go_enter Try.func3, Try.ntmps3
      go_wp2_with fail
      refine (alive_any _).mono ?_
      rintro e W1 ⟨rfl, hb1⟩
      have HB1 := Lib.hid hb1
      clear hb1
      go_wp2_with fail
      refine (HA.out _).mono ?_
      rintro e w' ⟨rfl, rfl⟩
      go_wp2_with fail
      refine (HC.out _).mono ?_
      rintro e w' ⟨rfl, rfl⟩
      go_wp2_with fail
      go_ret
      exact ⟨rfl, HB1.out⟩
    · have HA := Lib.hid (rof_no a b h)
      have HC := Lib.hid (rof_no c d h2)
      clear h h2
      go_enter Try.func3, Try.ntmps3
      go_wp2_with fail
      refine (alive_any _).mono ?_
      rintro e W1 ⟨rfl, hb1⟩
      have HB1 := Lib.hid hb1
      clear hb1
      go_wp2_with fail
      refine (HA.out _).mono ?_
      rintro e w' ⟨rfl, rfl⟩
      go_wp2_with fail
      refine (HC.out _).mono ?_
      rintro e w' ⟨rfl, rfl⟩
      go_wp2_with fail
      go_ret
      exact ⟨rfl, HB1.out⟩
  · have HA := Lib.hid (rof_yes a b h0.1 h0.2)
    have HC := Lib.hid (rof_no c d h)
    clear h h0
    go_enter Try.func3, Try.ntmps3
    go_wp2_with fail
    refine (alive_any _).mono ?_
    rintro e W1 ⟨rfl, hb1⟩
    have HB1 := Lib.hid hb1
    clear hb1
    go_wp2_with fail
    refine (HA.out _).mono ?_
    rintro e w' ⟨rfl, rfl⟩
    go_wp2_with fail
    refine (HC.out _).mono ?_
    rintro e w' ⟨rfl, rfl⟩
    go_wp2_with fail
    go_ret
    exact ⟨rfl, HB1.out⟩
theorem walk_nil (a b : Int) (o : Bool) (ha : Part a) (hb : Part b) (W : World) : Calls Try.prog 3 #[vi a, vi b, vi 0, vi 0, .bool o] W (Yes W) := by
  have HA := Lib.hid (rof_yes a b ha hb)
  have HC := Lib.hid (rof_yes 0 0 ⟨by decide, by decide⟩ ⟨by decide, by decide⟩)
  clear ha hb
  go_enter Try.func3, Try.ntmps3
  go_wp2_with fail
  refine (alive_any _).mono ?_
  rintro e W1 ⟨rfl, hb1⟩
  have HB1 := Lib.hid hb1
  clear hb1
  go_wp2_with fail
  refine (HA.out _).mono ?_
  rintro e w' ⟨rfl, rfl⟩
  go_wp2_with fail
  refine (HC.out _).mono ?_
  rintro e w' ⟨rfl, rfl⟩
  go_wp2_with fail
  go_ret
  exact ⟨rfl, HB1.out⟩
theorem walk_unfit (a b c d : Int) (o : Bool) (ha : Part a) (hb : Part b) (hc : Part c) (hd : Part d) (hz : (c == 0) = false ∨ (c == 0) = true ∧ (d == 0) = false) (hno : decide (c ≤ a) = false ∨ decide (c ≤ a) = true ∧ decide (d ≤ b) = false) (W : World) : Calls Try.prog 3 #[vi a, vi b, vi c, vi d, .bool o] W (Yes W) := by
  have HA := Lib.hid (rof_yes a b ha hb)
  have HC := Lib.hid (rof_yes c d hc hd)
  have HNEW := Lib.hid (new_any a b ha hb)
  have HN : Hid (a - 0 < c ∨ b - 0 < d) := Lib.hid (by
    rcases hno with h | ⟨_, h⟩
    · left; have := of_decide_eq_false h; omega
    · right; have := of_decide_eq_false h; omega)
  have oa := Ch.order_same a ha
  have ob := Ch.order_same b hb
  have o0 : FloatKind.f64.format.order (F 0) 0 = some .eq := by decide +kernel
  have PL : Hid (PP (a, b)) := Lib.hid ⟨ha, hb⟩
  have PX : Hid (PP (c, d)) := Lib.hid ⟨hc, hd⟩
  clear ha hb hc hd
  rcases hz with z1 | ⟨z1, z2⟩ <;> rcases hno with n1 | ⟨n1, n2⟩
  all_goals
    go_enter Try.func3, Try.ntmps3
    go_wp2_with fail
    refine (alive_any _).mono ?_
    rintro e W1 ⟨rfl, hb1⟩
    have HB1 := Lib.hid hb1
    clear hb1
    go_wp2_with fail
    refine (HA.out _).mono ?_
    rintro e w' ⟨rfl, rfl⟩
    go_wp2_with fail
    refine (HC.out _).mono ?_
    rintro e w' ⟨rfl, rfl⟩
    go_wp2_with fail
    refine (HNEW.out _).mono ?_
    rintro e W2 ⟨rfl, hbud, hb2⟩
    have H2 := Lib.hid hbud
    have HB2 := Lib.hid (HB1.out.trans (hb2.mono HB1.out.size))
    have HG := Lib.hid HB1.out.size
    clear hbud hb2
    generalize hg : W1.heap.size + 2 = g at *
    generalize hB : W1.heap.size = B at *
    have HBS : Hid (B ≤ W2.heap.size) := Lib.hid (by
      obtain ⟨m, D, h1, h2, h3, _⟩ := H2.out.ex
      exact Nat.le_trans h2 (Nat.le_of_lt h3.lt))
    clear hg hB HB1
    go_wp2_with fail
    refine (take_no H2.out PL.out pz PL.out.1.1 PL.out.2.1 1 (c, d) PX.out HN.out).mono ?_
    rintro e W3 ⟨rfl, hb3⟩
    have H3 := Lib.hid (H2.out.below hb3 (Nat.le_refl _))
    have HB3 := Lib.hid (HB2.out.trans (hb3.mono HB2.out.size))
    clear hb3
    go_wp2_with fail
    refine (used_any H3.out).mono ?_
    rintro e w' ⟨rfl, rfl⟩
    go_wp2_with fail
    have HL := left_any H3.out PL.out pz
    rw [below_sub PL.out.1 ⟨by decide, by decide⟩ PL.out.1.1, below_sub PL.out.2 ⟨by decide, by decide⟩ PL.out.2.1, Int.sub_zero, Int.sub_zero] at HL
    refine HL.mono ?_
    rintro e W4 ⟨rfl, hb4⟩
    have HB4 := Lib.hid (HB3.out.trans (hb4.mono HB3.out.size))
    clear hb4
    go_wp2_with fail
    go_ret
    exact ⟨rfl, HB4.out⟩
theorem walk_other (a b c d : Int) (ha : Part a) (hb : Part b) (hc : Part c) (hd : Part d) (hz : (c == 0) = false ∨ (c == 0) = true ∧ (d == 0) = false) (h1 : c ≤ a) (h2 : d ≤ b) (W : World) : Calls Try.prog 3 #[vi a, vi b, vi c, vi d, .bool true] W (Yes W) := by
  have HA := Lib.hid (rof_yes a b ha hb)
  have HC := Lib.hid (rof_yes c d hc hd)
  have HNEW := Lib.hid (new_any a b ha hb)
  have HY : Hid (c ≤ a - 0 ∧ d ≤ b - 0) := Lib.hid (by omega)
  have HX : Hid ((0 : Int) < c ∨ (0 : Int) < d) := Lib.hid (by
    unfold Part at hc hd
    rcases hz with h | ⟨_, h⟩
    · left; have := ne_of_beq_false h; omega
    · right; have := ne_of_beq_false h; omega)
  have oa := Ch.order_same a ha
  have ob := Ch.order_same b hb
  have oc := Ch.order_same c hc
  have od := Ch.order_same d hd
  have o0 : FloatKind.f64.format.order (F 0) 0 = some .eq := by decide +kernel
  have PL : Hid (PP (a, b)) := Lib.hid ⟨ha, hb⟩
  have PX : Hid (PP (c, d)) := Lib.hid ⟨hc, hd⟩
  have n1 : decide (c ≤ a) = true := decide_eq_true h1
  have n2 : decide (d ≤ b) = true := decide_eq_true h2
  have e1 : plus zz (c, d) = (c, d) := by unfold plus; simp
  have e2 : minus (c, d) (c, d) = zz := by unfold minus; simp
  have u1 : ∀ f : Int → Int × Int, (upd f 1 (c, d)) 1 = (c, d) := fun f => by simp [upd]
  have u2 : (upd (fun _ => zz) 1 (c, d)) 2 = zz := by simp [upd]
  have u3 : ∀ f : Int → Int × Int, (upd f 1 zz) 1 = zz := fun f => by simp [upd]
  have E1 := Lib.hid e1
  have E2 := Lib.hid e2
  have U1 := Lib.hid u1
  have U2 := Lib.hid u2
  have U3 := Lib.hid u3
  clear ha hb hc hd h1 h2 e1 e2 u1 u2 u3
  rcases hz with z1 | ⟨z1, z2⟩
  all_goals
    go_enter Try.func3, Try.ntmps3
    go_wp2_with fail
    refine (alive_any _).mono ?_
    rintro e W1 ⟨rfl, hb1⟩
    have HB1 := Lib.hid hb1
    clear hb1
    go_wp2_with fail
    refine (HA.out _).mono ?_
    rintro e w' ⟨rfl, rfl⟩
    go_wp2_with fail
    refine (HC.out _).mono ?_
    rintro e w' ⟨rfl, rfl⟩
    go_wp2_with fail
    refine (HNEW.out _).mono ?_
    rintro e W2 ⟨rfl, hbud, hb2⟩
    have H2 := Lib.hid hbud
    have HB2 := Lib.hid (HB1.out.trans (hb2.mono HB1.out.size))
    have HG := Lib.hid HB1.out.size
    clear hbud hb2
    generalize hg : W1.heap.size + 2 = g at *
    generalize hB : W1.heap.size = B at *
    have HBS : Hid (B ≤ W2.heap.size) := Lib.hid (by
      obtain ⟨m, D, h1, h2, h3, _⟩ := H2.out.ex
      exact Nat.le_trans h2 (Nat.le_of_lt h3.lt))
    clear hg hB HB1
    go_wp2_with fail
    refine (take_yes H2.out PL.out pz PL.out.1.1 PL.out.2.1 1 wf1 (c, d) PX.out HY.out pz (by rw [E1.out]; exact PX.out) (by decide)).mono ?_
    rintro e W3 ⟨rfl, hbud, hb3⟩
    rw [E1.out] at hbud
    have H3 := Lib.hid hbud
    have HB3 := Lib.hid (HB2.out.trans ((hb3 HBS.out).mono HG.out))
    clear hbud hb3
    go_wp2_with fail
    refine (give_no H3.out 2 wf2 (c, d) PX.out (by rw [U2.out]; exact pz) (by rw [U2.out]; exact HX.out)).mono ?_
    rintro e w' ⟨rfl, rfl⟩
    go_wp2_with fail
    have HO1 := of_any H3.out 1 wf1
    rw [U1.out] at HO1
    refine HO1.mono ?_
    rintro e w' ⟨rfl, rfl⟩
    go_wp2_with fail
    have HO2 := of_any H3.out 2 wf2
    rw [U2.out] at HO2
    refine HO2.mono ?_
    rintro e w' ⟨rfl, rfl⟩
    go_wp2_with fail
    go_ret
    exact ⟨rfl, HB3.out⟩
theorem walk_own (a b c d : Int) (ha : Part a) (hb : Part b) (hc : Part c) (hd : Part d) (hz : (c == 0) = false ∨ (c == 0) = true ∧ (d == 0) = false) (h1 : c ≤ a) (h2 : d ≤ b) (W : World) : Calls Try.prog 3 #[vi a, vi b, vi c, vi d, .bool false] W (Yes W) := by
  have HA := Lib.hid (rof_yes a b ha hb)
  have HC := Lib.hid (rof_yes c d hc hd)
  have HNEW := Lib.hid (new_any a b ha hb)
  have HY : Hid (c ≤ a - 0 ∧ d ≤ b - 0) := Lib.hid (by omega)
  have HX : Hid ((0 : Int) < c ∨ (0 : Int) < d) := Lib.hid (by
    unfold Part at hc hd
    rcases hz with h | ⟨_, h⟩
    · left; have := ne_of_beq_false h; omega
    · right; have := ne_of_beq_false h; omega)
  have oa := Ch.order_same a ha
  have ob := Ch.order_same b hb
  have oc := Ch.order_same c hc
  have od := Ch.order_same d hd
  have o0 : FloatKind.f64.format.order (F 0) 0 = some .eq := by decide +kernel
  have PL : Hid (PP (a, b)) := Lib.hid ⟨ha, hb⟩
  have PX : Hid (PP (c, d)) := Lib.hid ⟨hc, hd⟩
  have n1 : decide (c ≤ a) = true := decide_eq_true h1
  have n2 : decide (d ≤ b) = true := decide_eq_true h2
  have e1 : plus zz (c, d) = (c, d) := by unfold plus; simp
  have e2 : minus (c, d) (c, d) = zz := by unfold minus; simp
  have u1 : ∀ f : Int → Int × Int, (upd f 1 (c, d)) 1 = (c, d) := fun f => by simp [upd]
  have u2 : (upd (fun _ => zz) 1 (c, d)) 2 = zz := by simp [upd]
  have u3 : ∀ f : Int → Int × Int, (upd f 1 zz) 1 = zz := fun f => by simp [upd]
  have E1 := Lib.hid e1
  have E2 := Lib.hid e2
  have U1 := Lib.hid u1
  have U2 := Lib.hid u2
  have U3 := Lib.hid u3
  clear ha hb hc hd h1 h2 e1 e2 u1 u2 u3
  rcases hz with z1 | ⟨z1, z2⟩
  all_goals
    go_enter Try.func3, Try.ntmps3
    go_wp2_with fail
    refine (alive_any _).mono ?_
    rintro e W1 ⟨rfl, hb1⟩
    have HB1 := Lib.hid hb1
    clear hb1
    go_wp2_with fail
    refine (HA.out _).mono ?_
    rintro e w' ⟨rfl, rfl⟩
    go_wp2_with fail
    refine (HC.out _).mono ?_
    rintro e w' ⟨rfl, rfl⟩
    go_wp2_with fail
    refine (HNEW.out _).mono ?_
    rintro e W2 ⟨rfl, hbud, hb2⟩
    have H2 := Lib.hid hbud
    have HB2 := Lib.hid (HB1.out.trans (hb2.mono HB1.out.size))
    have HG := Lib.hid HB1.out.size
    clear hbud hb2
    generalize hg : W1.heap.size + 2 = g at *
    generalize hB : W1.heap.size = B at *
    have HBS : Hid (B ≤ W2.heap.size) := Lib.hid (by
      obtain ⟨m, D, h1, h2, h3, _⟩ := H2.out.ex
      exact Nat.le_trans h2 (Nat.le_of_lt h3.lt))
    clear hg hB HB1
    go_wp2_with fail
    refine (take_yes H2.out PL.out pz PL.out.1.1 PL.out.2.1 1 wf1 (c, d) PX.out HY.out pz (by rw [E1.out]; exact PX.out) (by decide)).mono ?_
    rintro e W3 ⟨rfl, hbud, hb3⟩
    rw [E1.out] at hbud
    have H3 := Lib.hid hbud
    have HB3 := Lib.hid (HB2.out.trans ((hb3 HBS.out).mono HG.out))
    clear hbud hb3
    go_wp2_with fail
    have HGV := give_yes H3.out PX.out 1 wf1 (c, d) PX.out (by rw [U1.out]; exact PX.out) (by rw [U1.out]; exact ⟨Int.le_refl _, Int.le_refl _⟩) (by decide)
    rw [U1.out, E2.out] at HGV
    refine HGV.mono ?_
    rintro e W4 ⟨rfl, hbud, hb4⟩
    have H4 := Lib.hid hbud
    have HB4 := Lib.hid (HB3.out.trans (hb4.mono HG.out))
    clear hbud hb4 HGV
    go_wp2_with fail
    refine (used_any H4.out).mono ?_
    rintro e w' ⟨rfl, rfl⟩
    go_wp2_with fail
    have HL := left_any H4.out PL.out pz
    rw [below_sub PL.out.1 ⟨by decide, by decide⟩ PL.out.1.1, below_sub PL.out.2 ⟨by decide, by decide⟩ PL.out.2.1, Int.sub_zero, Int.sub_zero] at HL
    refine HL.mono ?_
    rintro e W5 ⟨rfl, hb5⟩
    have H5 := Lib.hid (H4.out.below hb5 (Nat.le_refl _))
    have HB5 := Lib.hid (HB4.out.trans (hb5.mono HB4.out.size))
    clear hb5 HL
    go_wp2_with fail
    refine (give_no H5.out 1 wf1 (c, d) PX.out (by rw [U3.out]; exact pz) (by rw [U3.out]; exact HX.out)).mono ?_
    rintro e w' ⟨rfl, rfl⟩
    go_wp2_with fail
    go_ret
    exact ⟨rfl, HB5.out⟩
theorem walk (a b c d : Int) (o : Bool) (W : World) : Calls Try.prog 3 #[vi a, vi b, vi c, vi d, .bool o] W (Yes W) := by
  by_cases h1 : Part a ∧ Part b
  · by_cases h2 : Part c ∧ Part d
    · by_cases h0 : c = 0 ∧ d = 0
      · obtain ⟨rfl, rfl⟩ := h0
        exact walk_nil a b o h1.1 h1.2 W
      · have hz : (c == 0) = false ∨ (c == 0) = true ∧ (d == 0) = false := by
          by_cases hc : c = 0
          · right; exact ⟨beq_iff_eq.2 hc, beq_false_of_ne fun hd => h0 ⟨hc, hd⟩⟩
          · left; exact beq_false_of_ne hc
        by_cases hca : c ≤ a
        · by_cases hdb : d ≤ b
          · cases o
            · exact walk_own a b c d h1.1 h1.2 h2.1 h2.2 hz hca hdb W
            · exact walk_other a b c d h1.1 h1.2 h2.1 h2.2 hz hca hdb W
          · exact walk_unfit a b c d o h1.1 h1.2 h2.1 h2.2 hz (.inr ⟨decide_eq_true hca, decide_eq_false hdb⟩) W
        · exact walk_unfit a b c d o h1.1 h1.2 h2.1 h2.2 hz (.inl (decide_eq_false hca)) W
    · exact walk_no a b c d o W (.inr ⟨h1, h2⟩)
  · exact walk_no a b c d o W (.inl h1)

set_option maxRecDepth 100000 in
theorem lifted (os : Os) (started : os.Started) (H : Type) (enc : TypeId × Value → H) :
    ReturnsInHanded {} Try.checked os 3 .any (Rows.budgetBackSpec.pre6 enc Try.prog Try.f3 Rows.budgetBackRow.domain false) (Rows.budgetBackSpec.post enc Try.prog Try.f3 false true false false) := by
  refine lift_true (C := Try.checked) own started (by kernel_rfl) Try.func3
    (ChangeSpec.witness6 (enc := enc) (C := Try.checked) false ⟨#[], #[.int .i64 0, .int .i64 0, .int .i64 0, .int .i64 0, .bool false], []⟩ 8 (by kernel_rfl) (by kernel_rfl) (by kernel_rfl) (by kernel_rfl))
    (by kernel_rfl) (by kernel_rfl) (by kernel_rfl) Try.underlying4 rfl ?_ ?_
  · intro ds hds
    match ds, hds with
    | [d1, d2, d3, d4, d5], _ => exact ⟨rfl, rfl, rfl⟩
  · intro W base args ds p hval0 hA0 hlt _
    have hval : ∀ (j : Nat) t v, Try.f3.params[j]? = some t → args[j]? = some v → Value.okWide Try.prog W .any base t v := hval0
    have hA : DataW.TrodAll enc Try.prog W 0 (fun _ => true) true Try.f3.params.toList args.toList ds p := hA0
    rw [Try.params3] at hA hval
    obtain ⟨v0, vs0, d0, ds0, p0, q0, hargs, rfl, rfl, h0, r0⟩ := trodAll_cons hA
    obtain ⟨v1, vs1, d1, ds1, p1, q1, rfl, rfl, rfl, h1, r1⟩ := trodAll_cons r0
    obtain ⟨v2, vs2, d2, ds2, p2, q2, rfl, rfl, rfl, h2, r2⟩ := trodAll_cons r1
    obtain ⟨v3, vs3, d3, ds3, p3, q3, rfl, rfl, rfl, h3, r3⟩ := trodAll_cons r2
    obtain ⟨v4, vs4, d4, ds4, p4, q4, rfl, rfl, rfl, h4, r4⟩ := trodAll_cons r3
    obtain ⟨rfl, rfl, rfl⟩ := trodAll_nil r4
    obtain rfl : args = #[v0, v1, v2, v3, v4] := by cases args; simp_all
    obtain ⟨a0, rfl, rfl, rfl, w0⟩ := open_int Try.underlying3 (hval 0 _ v0 rfl rfl) h0
    have b0 := i64_of w0
    obtain ⟨a1, rfl, rfl, rfl, w1⟩ := open_int Try.underlying3 (hval 1 _ v1 rfl rfl) h1
    have b1 := i64_of w1
    obtain ⟨a2, rfl, rfl, rfl, w2⟩ := open_int Try.underlying3 (hval 2 _ v2 rfl rfl) h2
    have b2 := i64_of w2
    obtain ⟨a3, rfl, rfl, rfl, w3⟩ := open_int Try.underlying3 (hval 3 _ v3 rfl rfl) h3
    have b3 := i64_of w3
    obtain ⟨a4, rfl, rfl, rfl⟩ := open_bool Try.underlying4 (hval 4 _ v4 rfl rfl) h4
    refine (walk a0 a1 a2 a3 a4 W).mono fun e W' h => ?_
    exact h

theorem over : Rows.budgetBackRow.holds Try.pinned (OpenSpec.ofChange Rows.budgetBackSpec) :=
  OpenClaim.holds_of_wide 3 Try.f3 rfl rfl rfl rfl rfl rfl rfl ⟨rfl, rfl, rfl, rfl, rfl⟩ rfl rfl rfl rfl rfl (by kernel_rfl) Try.func3 (by kernel_rfl)
    (of_decide_eq_true (by kernel_rfl)) (by unfold Func.isWrapper; first | (rw [if_pos (by decide +kernel)]; kernel_rfl) | (rw [if_neg (by decide +kernel)]; exact ⟨rfl, rfl⟩))
    (fun os started H enc _ => lifted os started H enc)

theorem proved : Rows.BudgetBackSaid :=
  over
#print axioms proved
end Go.Proofs.Ytafcepjkjcnmfaa.budgetBack
