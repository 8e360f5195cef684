/- What each function of package charge answers on charges: one contract a function, over the program's own text. -/
import Derived.Test.YtafcepjkjcnmfaaRows
import Derived.WalkKit
import Derived.WalkLawsBesides
import Derived.Deep.QuietTactic
import Derived.BigQuiet
import Derived.RowKit3
import Derived.Lib.Hide
import Derived.Test.YtafcepjkjcnmfaaFloat
namespace Go.Proofs.Ytafcepjkjcnmfaa.Ch
open Go.RowKit Fl

theorem limitedPart_any (n : Int) (w : World) (hn : Num n) :
    Calls Try.prog 21 #[.float .f64 (F n)] w fun e w' => e = .returned (.float .f64 (F (most (up n)))) ∧ w = w' := by
  have hu : ∀ W ts t, Sem.run Try.prog (Builtin.max_ ts t #[.float .f64 (F n), .float .f64 0]) W = .ok (.float .f64 (F (up n))) W := fun W ts t => F_up W n hn ts t
  have hm : ∀ W ts t, Sem.run Try.prog (Builtin.min_ ts t #[.float .f64 (F (up n)), .float .f64 4787326403894837248]) W = .ok (.float .f64 (F (most (up n)))) W :=
    fun W ts t => F_most W (up n) (by unfold up; omega) (by unfold up Num at *; omega) ts t
  go_enter Try.func21, Try.ntmps21
  go_wp2
  go_ret
  exact ⟨rfl, rfl⟩

theorem limited_any (a b : Int) (w : World) (ha : Num a) (hb : Num b) :
    Calls Try.prog 18 #[.complex .f64 (F a) (F b)] w fun e w' => e = .returned (.complex .f64 (F (most (up a))) (F (most (up b)))) ∧ w = w' := by
  go_enter Try.func18, Try.ntmps18
  go_wp2_with fail
  refine (limitedPart_any _ _ ha).mono ?_; rintro e w' ⟨rfl, rfl⟩
  go_wp2_with fail
  refine (limitedPart_any _ _ hb).mono ?_; rintro e w' ⟨rfl, rfl⟩
  go_wp2_with fail
  go_ret
  exact ⟨rfl, rfl⟩

theorem archTrunc_run (n : Int) (hn : Part n) (W : World) : Sem.run Try.prog (callFunc 24 #[.float .f64 (F n)]) W = .ok (.value (.float .f64 (F n))) W := by
  rw [run_callFunc_extern Try.func24 (by kernel_rfl) (by kernel_rfl) (by kernel_rfl) (e := Extern.MathFloor.toIntegral "math.archTrunc" .zero) (by kernel_rfl), trunc_F W _ n hn]
  rfl

theorem trunc_any (n : Int) (w : World) (hn : Part n) :
    Calls Try.prog 23 #[.float .f64 (F n)] w fun e w' => e = .returned (.float .f64 (F n)) ∧ w = w' := by
  have hx := archTrunc_run n hn
  go_enter Try.func23, Try.ntmps23
  go_wp2
  go_ret
  exact ⟨rfl, rfl⟩

theorem validPart_any (n : Int) (w : World) (hn : Part n) :
    Calls Try.prog 22 #[.float .f64 (F n)] w fun e w' => e = .returned (.bool true) ∧ w = w' := by
  have h1 : FloatKind.f64.format.order 0 (F n) = some .lt ∨ FloatKind.f64.format.order 0 (F n) = some .eq := by
    have e : FloatKind.f64.format.order 0 (F n) = some (compare 0 n) := by
      have := F_order 0 n (by decide) (by unfold Part at hn; omega); rw [F_zero] at this; exact this
    unfold Part at hn
    by_cases h : n = 0
    · subst h; right; rw [e, compare_eq]
    · left; rw [e, compare_lt (by omega)]
  have h2 : FloatKind.f64.format.order (F n) 4787326403894837248 = some .lt ∨ FloatKind.f64.format.order (F n) 4787326403894837248 = some .eq := by
    have e : FloatKind.f64.format.order (F n) 4787326403894837248 = some (compare n 1099511627776) := by
      have := F_order n 1099511627776 (by unfold Part at hn; omega) (by decide); rw [← const_most] at this; exact this
    unfold Part at hn
    by_cases h : n = 1099511627776
    · subst h; right; rw [e, compare_eq]
    · left; rw [e, compare_lt (by omega)]
  have h3 : FloatKind.f64.format.order (F n) (F n) = some .eq := by
    have e := F_order n n (by unfold Part at hn; omega) (by unfold Part at hn; omega)
    rw [compare_eq] at e; exact e
  rcases h1 with h1 | h1 <;> rcases h2 with h2 | h2
  all_goals
    go_enter Try.func22, Try.ntmps22
    go_wp2_with fail
    refine (trunc_any _ _ hn).mono ?_; rintro e w' ⟨rfl, rfl⟩
    go_wp2_with fail
    go_ret
    exact ⟨rfl, rfl⟩

theorem valid_any (a b : Int) (w : World) (ha : Part a) (hb : Part b) :
    Calls Try.prog 20 #[.complex .f64 (F a) (F b)] w fun e w' => e = .returned (.bool true) ∧ w = w' := by
  go_enter Try.func20, Try.ntmps20
  go_wp2_with fail
  refine (validPart_any _ _ ha).mono ?_; rintro e w' ⟨rfl, rfl⟩
  go_wp2_with fail
  refine (validPart_any _ _ hb).mono ?_; rintro e w' ⟨rfl, rfl⟩
  go_wp2_with fail
  go_ret
  exact ⟨rfl, rfl⟩

theorem orZero_any (a b : Int) (w : World) (ha : Part a) (hb : Part b) :
    Calls Try.prog 19 #[.complex .f64 (F a) (F b)] w fun e w' => e = .returned (.complex .f64 (F a) (F b)) ∧ w = w' := by
  go_enter Try.func19, Try.ntmps19
  go_wp2_with fail
  refine (valid_any _ _ _ ha hb).mono ?_; rintro e w' ⟨rfl, rfl⟩
  go_wp2_with fail
  go_ret
  exact ⟨rfl, rfl⟩

theorem num_sub {a c : Int} (ha : Part a) (hc : Part c) : Num (a - c) := by unfold Part Num at *; omega
theorem num_add {a c : Int} (ha : Part a) (hc : Part c) : Num (a + c) := by unfold Part Num at *; omega
theorem num_mul {a c : Int} (ha : Part a) (hc : Part c) : Num (a * c) := by have := Fl.prod_bound ha hc; unfold Num; omega
theorem part_lim (n : Int) : Part (most (up n)) := by unfold Part most up; omega

theorem less_any (a b c d : Int) (w : World) (ha : Part a) (hb : Part b) (hc : Part c) (hd : Part d) :
    Calls Try.prog 17 #[.complex .f64 (F a) (F b), .complex .f64 (F c) (F d)] w fun e w' => e = .returned (.complex .f64 (F (most (up (a - c)))) (F (most (up (b - d))))) ∧ w = w' := by
  have hs : ∀ W t, Sem.run Try.prog (binOp .sub t (.complex .f64 (F a) (F b)) (.complex .f64 (F c) (F d))) W = .ok (.complex .f64 (F (a - c)) (F (b - d))) W := fun W t => run_complex_sum W .sub (.inr rfl) t _ _ _ _ _ _ _ (sub_bits ha hb hc hd)
  go_enter Try.func17, Try.ntmps17
  go_wp2_with fail
  refine (orZero_any _ _ _ ha hb).mono ?_; rintro e w' ⟨rfl, rfl⟩
  go_wp2_with fail
  refine (orZero_any _ _ _ hc hd).mono ?_; rintro e w' ⟨rfl, rfl⟩
  go_wp2_with fail
  refine (limited_any _ _ _ (num_sub ha hc) (num_sub hb hd)).mono ?_; rintro e w' ⟨rfl, rfl⟩
  go_wp2_with fail
  go_ret
  exact ⟨rfl, rfl⟩

/-- How many times, as Times counts it. -/
def fac (n : Int) : Int := most (up n)

theorem order_le (a c : Int) (ha : Part a) (hc : Part c) (h : a ≤ c) : FloatKind.f64.format.order (F a) (F c) = some .lt ∨ FloatKind.f64.format.order (F a) (F c) = some .eq := by
  have e : FloatKind.f64.format.order (F a) (F c) = some (compare a c) := F_order a c (by unfold Part at *; omega) (by unfold Part at *; omega)
  by_cases h2 : a = c
  · subst h2; right; rw [e, compare_eq]
  · left; rw [e, compare_lt (by omega)]
theorem order_gt (a c : Int) (ha : Part a) (hc : Part c) (h : c < a) : FloatKind.f64.format.order (F a) (F c) = some .gt := by
  have e : FloatKind.f64.format.order (F a) (F c) = some (compare a c) := F_order a c (by unfold Part at *; omega) (by unfold Part at *; omega)
  rw [e, compare_gt h]

theorem fits_yes (a b c d : Int) (w : World) (ha : Part a) (hb : Part b) (hc : Part c) (hd : Part d) (h1 : a ≤ c) (h2 : b ≤ d) :
    Calls Try.prog 15 #[.complex .f64 (F a) (F b), .complex .f64 (F c) (F d)] w fun e w' => e = .returned (.bool true) ∧ w = w' := by
  rcases order_le a c ha hc h1 with o1 | o1 <;> rcases order_le b d hb hd h2 with o2 | o2
  all_goals
    go_enter Try.func15, Try.ntmps15
    go_wp2_with fail
    refine (valid_any _ _ _ ha hb).mono ?_; rintro e w' ⟨rfl, rfl⟩
    go_wp2_with fail
    refine (valid_any _ _ _ hc hd).mono ?_; rintro e w' ⟨rfl, rfl⟩
    go_wp2_with fail
    go_ret
    exact ⟨rfl, rfl⟩

theorem fits_no (a b c d : Int) (w : World) (ha : Part a) (hb : Part b) (hc : Part c) (hd : Part d) (h : c < a ∨ d < b) :
    Calls Try.prog 15 #[.complex .f64 (F a) (F b), .complex .f64 (F c) (F d)] w fun e w' => e = .returned (.bool false) ∧ w = w' := by
  by_cases h1 : c < a
  · have o1 := order_gt a c ha hc h1
    clear h h1
    go_enter Try.func15, Try.ntmps15
    go_wp2_with fail
    refine (valid_any _ _ _ ha hb).mono ?_; rintro e w' ⟨rfl, rfl⟩
    go_wp2_with fail
    refine (valid_any _ _ _ hc hd).mono ?_; rintro e w' ⟨rfl, rfl⟩
    go_wp2_with fail
    go_ret
    exact ⟨rfl, rfl⟩
  · have o2 := order_gt b d hb hd (by omega)
    have h3 : a ≤ c := by omega
    clear h h1
    rcases order_le a c ha hc h3 with o1 | o1
    all_goals
      clear h3
      go_enter Try.func15, Try.ntmps15
      go_wp2_with fail
      refine (valid_any _ _ _ ha hb).mono ?_; rintro e w' ⟨rfl, rfl⟩
      go_wp2_with fail
      refine (valid_any _ _ _ hc hd).mono ?_; rintro e w' ⟨rfl, rfl⟩
      go_wp2_with fail
      go_ret
      exact ⟨rfl, rfl⟩

/-- A part of the sum after j elements. -/
def tot (xs : Nat → Int) : Nat → Int
  | 0 => 0
  | j + 1 => most (up (tot xs j + xs j))
theorem tot_part (xs : Nat → Int) (j : Nat) : Part (tot xs j) := by
  cases j with
  | zero => exact ⟨by simp [tot], by simp [tot]⟩
  | succ j => exact part_lim _

/-- The sum of the charges that lie in a slice. -/
theorem sum_any (xs ys : Nat → Int) (n b o cp : Nat) (w : World) (hn : n ≤ 9223372036854775807) (hx : ∀ j, j < n → Part (xs j)) (hy : ∀ j, j < n → Part (ys j))
    (hc : ∀ j, j < n → w.cell? ⟨b, o + j, none⟩ = some (.complex .f64 (F (xs j)) (F (ys j)))) :
    Calls Try.prog 14 #[.slice (some ⟨b, o, none⟩) n cp] w fun e w' => e = .returned (.complex .f64 (F (tot xs n)) (F (tot ys n))) ∧ w = w' := by
  have HX := Lib.hid hx
  have HY := Lib.hid hy
  have HC := Lib.hid hc
  clear hx hy hc
  go_enter Try.func14, Try.ntmps14
  go_wp2_with fail
  go_loop [3, 8] (fun t i => ∃ k : Nat, k ≤ n ∧ i = .int .i64 k ∧ t = .complex .f64 (F (tot xs k)) (F (tot ys k))) (fun _ i => n - (intOf i).toNat)
  case atStart => exact ⟨0, by omega, rfl, rfl⟩
  case round =>
    obtain ⟨k, hk, rfl, rfl⟩ := hrel
    by_cases hlt : k < n
    · have hcell := HC.out k hlt
      have pt := tot_part xs k
      have pu := tot_part ys k
      have px := HX.out k hlt
      have py := HY.out k hlt
      have hs : ∀ W t, Sem.run Try.prog (binOp .add t (.complex .f64 (F (tot xs k)) (F (tot ys k))) (.complex .f64 (F (xs k)) (F (ys k)))) W = .ok (.complex .f64 (F (tot xs k + xs k)) (F (tot ys k + ys k))) W := fun W t => run_complex_sum W .add (.inl rfl) t _ _ _ _ _ _ _ (sum_bits pt pu px py)
      have ex : tot xs (k + 1) = most (up (tot xs k + xs k)) := rfl
      have ey : tot ys (k + 1) = most (up (tot ys k + ys k)) := rfl
      have EX := Lib.hid ex
      have EY := Lib.hid ey
      clear ex ey
      go_wp2_with fail
      refine (orZero_any _ _ _ px py).mono ?_; rintro e w' ⟨rfl, rfl⟩
      go_wp2_with fail
      refine (limited_any _ _ _ (num_add pt px) (num_add pu py)).mono ?_; rintro e w' ⟨rfl, rfl⟩
      go_wp2_with fail
      go_round
      case rel => exact ⟨k + 1, by omega, by go_num, by rw [EX.out, EY.out]⟩
      case measure => simp [intOf]; omega
    · obtain rfl : k = n := by omega
      clear HX HY HC
      go_wp2_with fail
      go_ret
      exact ⟨rfl, rfl⟩

theorem tot_pair (a c : Int) (ha : Part a) (hc : Part c) : tot (fun j => if j = 0 then a else c) 2 = most (a + c) := by
  simp only [tot, if_true]
  unfold Part at *
  unfold most up
  simp only [show ¬ (0 + 1 = 0) by omega, if_false]
  omega

/-- The sum of a literal of two charges. -/
theorem sum_pair (a b c d : Int) (W : World) (N : Nat) (hN : N = W.heap.size) (ha : Part a) (hb : Part b) (hc : Part c) (hd : Part d) :
    Calls Try.prog 14 #[.slice (some ⟨N, 0, none⟩) 2 2] (W.alloc (.cells #[.complex .f64 (F a) (F b), .complex .f64 (F c) (F d)] 23))
      fun e w' => e = .returned (.complex .f64 (F (most (a + c))) (F (most (b + d)))) ∧ W.alloc (.cells #[.complex .f64 (F a) (F b), .complex .f64 (F c) (F d)] 23) = w' := by
  subst hN
  have hsum := sum_any (fun j => if j = 0 then a else c) (fun j => if j = 0 then b else d) 2 W.heap.size 0 2 (W.alloc (.cells #[.complex .f64 (F a) (F b), .complex .f64 (F c) (F d)] 23)) (by omega)
    (fun j hj => by split <;> assumption) (fun j hj => by split <;> assumption)
    (fun j hj => by
      have : j = 0 ∨ j = 1 := by omega
      rcases this with rfl | rfl
      · go_simp
      · go_simp)
  rw [tot_pair a c ha hc, tot_pair b d hb hd] at hsum
  exact hsum

theorem order_same (a : Int) (ha : Part a) : FloatKind.f64.format.order (F a) (F a) = some .eq := by
  have e : FloatKind.f64.format.order (F a) (F a) = some (compare a a) := F_order a a (by unfold Part at *; omega) (by unfold Part at *; omega)
  rw [e, compare_eq]
end Go.Proofs.Ytafcepjkjcnmfaa.Ch
