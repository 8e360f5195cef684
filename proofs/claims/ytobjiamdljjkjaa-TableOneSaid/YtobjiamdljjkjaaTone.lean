/- Plain mathematics of the table of one entry for each of some keys. -/
import Derived.Test.YtobjiamdljjkjaaJd
import Derived.Test.YtobjiamdljjkjaaJf
namespace Go.Proofs.Ytobjiamdljjkjaa.Tb
set_option linter.unusedVariables false
set_option linter.unusedSimpArgs false
open Go.RowKit Lift Ik Sk Vn Bk Bl Sq
/-- Entries that all count k. -/
theorem parts_even {k size q : Nat} (hq : ∀ a, size ≤ k * a ↔ q ≤ a) (h1 : 1 ≤ q) : ∀ (ts cur : List T), (∀ t, t ∈ ts → wgt t = k) → cur ≠ [] → weigh cur = k * cur.length → cur.length ≤ q → (parts size cur ts).length = (cur.length + ts.length + q - 1) / q
  | [], cur, _, hc, _, hl => by
    have h2 := List.length_pos_iff.2 hc
    unfold parts
    rw [if_neg hc, List.length_singleton, List.length_nil]
    rw [show cur.length + 0 + q - 1 = (cur.length - 1) + q * 1 from by omega, Nat.add_mul_div_left _ _ (by omega), Nat.div_eq_of_lt (by omega)]
  | t :: ts, cur, hw, hc, hwc, hl => by
    have h2 := List.length_pos_iff.2 hc
    unfold parts
    by_cases hf : size ≤ weigh cur
    · have hql : q ≤ cur.length := (hq _).1 (by rw [← hwc]; exact hf)
      have ih := parts_even hq h1 ts [t] (fun u hu => hw u (List.mem_cons_of_mem _ hu)) (by simp) (by rw [weigh_cons, hw t (List.mem_cons_self ..)]; simp [weigh]) (by simpa using h1)
      rw [if_pos ⟨hc, hf⟩, List.length_cons, ih]
      simp only [List.length_cons, List.length_nil]
      rw [show cur.length + (ts.length + 1) + q - 1 = (0 + 1 + ts.length + q - 1) + q * 1 from by omega, Nat.add_mul_div_left _ _ (by omega)]
    · have hql : ¬ q ≤ cur.length := fun h => hf (by rw [hwc]; exact (hq _).2 h)
      have ih := parts_even hq h1 ts (cur ++ [t]) (fun u hu => hw u (List.mem_cons_of_mem _ hu)) (by simp) (by rw [weigh_snoc, hw t (List.mem_cons_self ..), hwc, List.length_append, List.length_singleton, Nat.mul_add]; omega) (by rw [List.length_append, List.length_singleton]; omega)
      rw [if_neg (fun h => hf h.2), ih, List.length_append, List.length_singleton, List.length_cons]
      congr 1
      omega
/-- The entry of the i-th key. -/
def oneE (i : Nat) : T := ⟨⟨[2 * i, 7], 9, 1⟩, [i]⟩
def ones (n : Nat) : List T := (List.range n).map oneE
theorem ones_len (n : Nat) : (ones n).length = n := by unfold ones; rw [List.length_map, List.length_range]
theorem ones_at {n i : Nat} (h : i < n) : (ones n)[i]? = some (oneE i) := by unfold ones; rw [List.getElem?_map, List.getElem?_range h]; rfl
theorem ones_next (n : Nat) : ones (n + 1) = ones n ++ [oneE n] := by unfold ones; rw [List.range_succ, List.map_append]; rfl
theorem ones_may {n : Nat} (h1 : 1 ≤ n) (h2 : n ≤ 100) : mayT (ones n) = 0 := by
  have hok : (ones n).all okT = true := List.all_eq_true.2 fun t ht => by
    obtain ⟨i, -, rfl⟩ := List.mem_map.1 ht
    rfl
  have hr : rises (ones n) = true := (rises_iff _).2 fun i a b ha hb => by
    have l1 := (List.getElem?_eq_some_iff.1 ha).1
    have l2 := (List.getElem?_eq_some_iff.1 hb).1
    rw [ones_len] at l1 l2
    rw [ones_at l1] at ha
    rw [ones_at l2] at hb
    injection ha with ha
    injection hb with hb
    subst ha; subst hb
    have : cmpK (oneE i).k (oneE (i + 1)).k = -1 := by
      rw [cmpK_lt]
      left
      show cmpB [2 * i, 7] [2 * (i + 1), 7] = -1
      unfold cmpB
      have h3 : 2 * i < 2 * (i + 1) := by omega
      simp [h3]
    omega
  have htw : twins (ones n) = false := by
    rw [← Bool.not_eq_true, twins_iff]
    rintro ⟨i, a, b, ha, hb, hk, -⟩
    have l1 := (List.getElem?_eq_some_iff.1 ha).1
    have l2 := (List.getElem?_eq_some_iff.1 hb).1
    rw [ones_len] at l1 l2
    rw [ones_at l1] at ha
    rw [ones_at l2] at hb
    injection ha with ha
    injection hb with hb
    subst ha; subst hb
    unfold oneE at hk
    simp at hk
    omega
  have hm : may (ones n) = 0 := by
    unfold may
    rw [if_neg (by rw [hok]; decide), if_neg (by rw [hr]; decide), if_neg (by rw [ones_len]; omega)]
  unfold mayT
  rw [if_neg (by rw [hm]; decide), if_neg (by rw [htw]; decide), if_neg (fun h => by have := congrArg List.length h; rw [ones_len] at this; simp at this; omega)]
/-- Which key has an entry. -/
theorem ones_get {n i : Nat} (h : i < 2 * n) : getT (ones n) [i, 7] 9 = if i % 2 = 0 then some (oneE (i / 2)) else none := by
  unfold getT
  by_cases hi : i % 2 = 0
  · rw [if_pos hi]
    have hj : i / 2 < n := by omega
    rw [List.find?_eq_some_iff_getElem]
    refine ⟨by unfold oneE; simp; omega, i / 2, by rw [ones_len]; exact hj, ?_, fun j hjl => ?_⟩
    · have := ones_at hj
      exact (List.getElem?_eq_some_iff.1 this).2
    · have hjn : j < n := by omega
      have e : (ones n)[j]'(by rw [ones_len]; exact hjn) = oneE j := (List.getElem?_eq_some_iff.1 (ones_at hjn)).2
      rw [e]
      unfold oneE
      simp
      omega
  · rw [if_neg hi, List.find?_eq_none]
    intro t ht
    obtain ⟨j, -, rfl⟩ := List.mem_map.1 ht
    unfold oneE
    simp
    omega
theorem ones_late (n i : Nat) : getT (ones n) [i, 7] 8 = none := by
  unfold getT
  rw [List.find?_eq_none]
  intro t ht
  obtain ⟨j, -, rfl⟩ := List.mem_map.1 ht
  unfold oneE
  simp
/-- How many blocks there are. -/
theorem ones_parts {n size : Nat} (h1 : 1 ≤ n) (hs : 1 ≤ size) : (parts size [] (ones n)).length = (n + (size + 10) / 11 - 1) / ((size + 10) / 11) := by
  have hq : ∀ a, size ≤ 11 * a ↔ (size + 10) / 11 ≤ a := fun a => by omega
  have h2 : 1 ≤ (size + 10) / 11 := by omega
  have hw : ∀ t, t ∈ ones n → wgt t = 11 := fun t ht => by
    obtain ⟨j, -, rfl⟩ := List.mem_map.1 ht
    rfl
  cases ho : ones n with
  | nil => have := ones_len n; rw [ho] at this; simp at this; omega
  | cons t ts =>
    have hl := ones_len n
    rw [ho, List.length_cons] at hl
    rw [ho] at hw
    unfold parts
    rw [if_neg (by simp), List.nil_append]
    have := parts_even hq h2 ts [t] (fun u hu => hw u (List.mem_cons_of_mem _ hu)) (by simp) (by rw [weigh_cons, hw t (List.mem_cons_self ..)]; simp [weigh]) (by simpa using h2)
    rw [this, List.length_singleton]
    congr 1
    omega
end Go.Proofs.Ytobjiamdljjkjaa.Tb
