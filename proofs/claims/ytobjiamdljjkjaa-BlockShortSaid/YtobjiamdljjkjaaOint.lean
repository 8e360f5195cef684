/- Package block: the interval that restarts tell: what BinarySearch of ints and interval answer. -/
import Derived.Test.YtobjiamdljjkjaaOlay
namespace Go.Proofs.Ytobjiamdljjkjaa.Bk
set_option linter.unusedVariables false
set_option linter.unusedSimpArgs false
open Go.RowKit Lift Ik Sk Vn
theorem isnan_any (a : Int) (w : World) : Calls Try.prog 121 #[.int .i64 a] w fun e w' => e = .returned (.bool false) ∧ w = w' := by
  go_enter Try.func121, Try.ntmps121
  go_wp2_with fail
  go_ret
  exact ⟨by simp, rfl⟩
theorem less_any (a b : Int) (w : World) : Calls Try.prog 120 #[.int .i64 a, .int .i64 b] w fun e w' => e = .returned (.bool (decide (a < b))) ∧ w = w' := by
  have HN := Lib.hid (nani_any a w)
  go_enter Try.func120, Try.ntmps120
  go_wp2_with fail
  refine HN.out.mono ?_; rintro e w' ⟨rfl, rfl⟩
  go_wp2_with fail
  go_ret
  exact ⟨rfl, rfl⟩
theorem count_split {xs : List Nat} {lo t : Nat} (hlo : lo ≤ xs.length) (h1 : ∀ k x, k < lo → xs[k]? = some x → x < t) (h2 : ∀ k x, lo ≤ k → xs[k]? = some x → t ≤ x) : xs.countP (fun y => decide (y < t)) = lo := by
  have e : xs.countP (fun y => decide (y < t)) = (xs.take lo).countP (fun y => decide (y < t)) + (xs.drop lo).countP (fun y => decide (y < t)) := by
    rw [← List.countP_append, List.take_append_drop]
  have e1 : (xs.take lo).countP (fun y => decide (y < t)) = (xs.take lo).length := List.countP_eq_length.2 fun y hy => by
    obtain ⟨k, hk⟩ := List.getElem?_of_mem hy
    have hkl : k < lo := by
      have := (List.getElem?_eq_some_iff.1 hk).1
      rw [List.length_take] at this
      omega
    rw [List.getElem?_take_of_lt hkl] at hk
    simpa using h1 k y hkl hk
  have e2 : (xs.drop lo).countP (fun y => decide (y < t)) = 0 := List.countP_eq_zero.2 fun y hy => by
    obtain ⟨k, hk⟩ := List.getElem?_of_mem hy
    rw [List.getElem?_drop] at hk
    have := h2 (lo + k) y (by omega) hk
    simp
    omega
  rw [e, e1, e2, List.length_take]
  omega
theorem rise_le {xs : List Nat} (h : xs.Pairwise (· < ·)) {i j a b : Nat} (hi : xs[i]? = some a) (hj : xs[j]? = some b) (hij : i ≤ j) : a ≤ b := by
  rcases Nat.lt_or_ge i j with h1 | h1
  · obtain ⟨h2, h3⟩ := List.getElem?_eq_some_iff.1 hi
    obtain ⟨h4, h5⟩ := List.getElem?_eq_some_iff.1 hj
    have := List.pairwise_iff_getElem.1 h i j h2 h4 h1
    omega
  · obtain rfl : i = j := by omega
    rw [hi] at hj
    injection hj with hj
    omega
def Fnd (n : Nat) (e : Ending) : Prop := ∃ b : Bool, e = .returned (.tuple #[.int .i64 (n : Int), .bool b])
set_option maxRecDepth 100000 in
set_option maxHeartbeats 1600000 in
theorem obin_any (A : Option Addr) (c t : Nat) (xs : List Nat) (w : World) (hl : Lies w w.heap.size A (xs.map vn)) (hn : xs.length ≤ 100000000) (hs : xs.Pairwise (· < ·)) :
    Calls Try.prog 97 #[.slice A xs.length c, .int .i64 (t : Int)] w fun e w' => Fnd (xs.countP (fun y => decide (y < t))) e ∧ w = w' := by
  have HL := Lib.hid hl
  have HS := Lib.hid hs
  clear hl hs
  go_enter Try.func97, Try.ntmps97
  go_wp2_with fail
  go_loop [7, 8] (fun i j => ∃ lo hi : Nat, lo ≤ hi ∧ hi ≤ xs.length ∧ i = .int .i64 (lo : Int) ∧ j = .int .i64 (hi : Int) ∧ Hid (∀ k x, k < lo → xs[k]? = some x → x < t) ∧ Hid (∀ k x, hi ≤ k → xs[k]? = some x → t ≤ x)) (fun i j => (intOf j).toNat - (intOf i).toNat)
  case atStart => exact ⟨0, xs.length, Nat.zero_le _, Nat.le_refl _, rfl, rfl, Lib.hid fun k x hk => by omega, Lib.hid fun k x hk hx => by have := (List.getElem?_eq_some_iff.1 hx).1; omega⟩
  case round =>
    obtain ⟨lo, hi, hlh, hhi, rfl, rfl, h1, h2⟩ := hrel
    by_cases hlt : lo < hi
    · obtain ⟨m, hm⟩ : ∃ m, m = (lo + hi) / 2 := ⟨_, rfl⟩
      have em : ((lo : Int) + (hi : Int)) / 2 = (m : Int) := by omega
      have hm1 : lo ≤ m := by omega
      have hm2 : m < hi := by omega
      obtain ⟨x, hx⟩ : ∃ x, xs[m]? = some x := ⟨_, List.getElem?_eq_getElem (by omega)⟩
      obtain ⟨ad, hA, -, hcell⟩ := HL.out.place (by rw [List.length_map]; omega)
      subst hA
      have hc0 := nums_at hcell m x hx
      have hml : m < xs.length := by omega
      have HLE := Lib.hid (less_any (x : Int) (t : Int) w)
      have HX := Lib.hid hx
      clear hcell hx hm
      by_cases hxt : x < t
      · have d1 : decide ((x : Int) < (t : Int)) = true := decide_eq_true (by omega)
        have d2 : decide (x < t) = true := decide_eq_true hxt
        have HR : Hid (∀ k y, k < m + 1 → xs[k]? = some y → y < t) := Lib.hid fun k y hk hy => Nat.lt_of_le_of_lt (rise_le HS.out hy HX.out (by omega)) hxt
        rw [d1] at HLE
        clear hxt
        go_wp2_with fail
        refine HLE.out.mono ?_; rintro e w' ⟨rfl, rfl⟩
        go_wp2_with fail
        go_round
        case rel => exact ⟨m + 1, hi, by omega, hhi, by go_num, rfl, HR, h2⟩
        case measure => simp [intOf]; omega
      · have d1 : decide ((x : Int) < (t : Int)) = false := decide_eq_false (by omega)
        have d2 : decide (x < t) = false := decide_eq_false hxt
        have HR : Hid (∀ k y, m ≤ k → xs[k]? = some y → t ≤ y) := Lib.hid fun k y hk hy => by
          have := rise_le HS.out HX.out hy hk
          omega
        rw [d1] at HLE
        clear hxt
        go_wp2_with fail
        refine HLE.out.mono ?_; rintro e w' ⟨rfl, rfl⟩
        go_wp2_with fail
        go_round
        case rel => exact ⟨lo, m, by omega, by omega, rfl, rfl, h1, HR⟩
        case measure => simp [intOf]; omega
    · obtain rfl : lo = hi := by omega
      have HC := Lib.hid (count_split hhi h1.out h2.out)
      by_cases hle : lo < xs.length
      · obtain ⟨x, hx⟩ : ∃ x, xs[lo]? = some x := ⟨_, List.getElem?_eq_getElem hle⟩
        obtain ⟨ad, hA, -, hcell⟩ := HL.out.place (by rw [List.length_map]; omega)
        subst hA
        have hc0 := nums_at hcell lo x hx
        have HN := Lib.hid (isnan_any (x : Int) w)
        clear hcell hx
        by_cases hxt : (x : Int) = (t : Int)
        · have d1 : ((x : Int) == (t : Int)) = true := by rw [beq_iff_eq]; exact hxt
          clear hxt
          go_wp2_with fail
          go_returns
          exact ⟨⟨true, by rw [HC.out]; rfl⟩, rfl⟩
        · have d1 : ((x : Int) == (t : Int)) = false := by rw [beq_eq_false_iff_ne]; exact hxt
          have d2 : decide (x = t) = false := decide_eq_false (by omega)
          clear hxt
          go_wp2_with fail
          refine HN.out.mono ?_; rintro e w' ⟨rfl, rfl⟩
          go_wp2_with fail
          go_returns
          exact ⟨⟨false, by rw [HC.out]; rfl⟩, rfl⟩
      · go_wp2_with fail
        go_returns
        exact ⟨⟨false, by rw [HC.out]; rfl⟩, rfl⟩
set_option maxRecDepth 100000 in
theorem oival_any (A1 A2 : Option Addr) (c1 c2 : Nat) (S R : List Nat) (w : World) (h1 : Lies w w.heap.size A1 (S.map vn)) (h2 : Lies w w.heap.size A2 (R.map vn)) (hn : S.length ≤ 100000000) (hn2 : R.length ≤ 100000000) (hs : S.Pairwise (· < ·)) :
    Calls Try.prog 71 #[.slice A1 S.length c1, .slice A2 R.length c2] w fun e w' => e = .returned (.int .i64 ((ival S R : Nat) : Int)) ∧ w = w' := by
  by_cases hr : R.length < 2
  · have HE : Hid (ival S R = max S.length 1) := Lib.hid (by unfold ival; rw [if_pos hr])
    have HMX : Hid (((max S.length 1 : Nat) : Int) = max (S.length : Int) 1) := Lib.hid (by omega)
    have d2 : (R.length : Int) < 2 := by omega
    clear h1 h2 hs
    go_enter Try.func71, Try.ntmps71
    go_wp2_with fail
    go_ret
    exact ⟨by rw [HE.out, HMX.out]; rfl, rfl⟩
  · obtain ⟨t, ht⟩ : ∃ t, R[1]? = some t := ⟨_, List.getElem?_eq_getElem (by omega)⟩
    have HE : Hid (ival S R = S.countP (fun y => decide (y < t))) := Lib.hid (by unfold ival; rw [if_neg hr, List.getD_eq_getElem?_getD, ht]; rfl)
    have HB := Lib.hid (obin_any A1 c1 t S w h1 hn hs)
    obtain ⟨ad, hA, -, hcell⟩ := h2.place (by rw [List.length_map]; omega)
    subst hA
    have hc0 : w.cell? ⟨ad.block, ad.off + 1, none⟩ = some (.int .i64 (t : Int)) := nums_at hcell 1 t ht
    have d1 : (1 : Int) < (R.length : Int) := by omega
    have d2 : decide ((R.length : Int) < 2) = false := decide_eq_false (by omega)
    clear hcell ht h1 h2 hs
    go_enter Try.func71, Try.ntmps71
    go_wp2_with fail
    refine HB.out.mono ?_; rintro e w' ⟨⟨b, rfl⟩, rfl⟩
    go_wp2_with fail
    go_ret
    exact ⟨by rw [HE.out]; rfl, rfl⟩
end Go.Proofs.Ytobjiamdljjkjaa.Bk
