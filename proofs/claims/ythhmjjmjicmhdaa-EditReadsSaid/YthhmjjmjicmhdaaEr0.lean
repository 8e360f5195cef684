/- Small facts for readers of bytes: what a varint's decoding comes to, parts of slices. (As in XBrd1, XBrd2, XBref1, without package batch.) -/
import Derived.Test.YthhmjjmjicmhdaaGetv
import Derived.Test.YthhmjjmjicmhdaaBm
import Derived.Test.YthhmjjmjicmhdaaSeg
namespace Go.Proofs.Ythhmjjmjicmhdaa.Ed
set_option linter.unusedVariables false
set_option linter.unusedSimpArgs false
open Go.RowKit Lift Ik Vn Vt
theorem slice_at (A : Option Addr) (n c p m : Nat) (h : p + m ≤ n) (hc : n ≤ c) (hm : c ≤ maxLen) :
    ∃ A', (0 < m → A' = A.map (·.add p)) ∧ (A.isSome = true → A'.isSome = true) ∧ ∀ W : World, Sem.run Try.prog (Instr.slice 29 (.slice A n c) (some (.int .i64 (p : Int))) (some (.int .i64 ((p : Int) + (m : Int)))) none) W = .ok (.slice A' m (c - p)) W := by
  unfold maxLen at hm
  by_cases hcp : c = p
  · refine ⟨A, fun h0 => by omega, id, fun W => ?_⟩
    obtain rfl : m = 0 := by omega
    obtain rfl : n = p := by omega
    subst hcp
    go_simp
  · refine ⟨A.map (·.add p), fun _ => rfl, fun h => by simpa using h, fun W => ?_⟩
    go_simp
    rw [if_pos ⟨by omega, by omega⟩, if_pos (by omega), show ((p : Int) + (m : Int)).toNat - p = m by omega]
theorem dec_three : ∀ (l : List Nat) (i y : Nat), (dec l i y).2.2 = 0 ∨ (dec l i y).2.2 = 2 ∨ (dec l i y).2.2 = 4 := by
  intro l
  induction l with
  | nil => intro i y; simp [dec]
  | cons c l ih =>
    intro i y
    simp only [dec]
    split
    · simp
    · split
      · simp
      · exact ih _ _
theorem dec_len : ∀ (l : List Nat) (i y : Nat), (dec l i y).2.2 = 0 → i + 1 ≤ (dec l i y).2.1 ∧ (dec l i y).2.1 ≤ i + l.length := by
  intro l
  induction l with
  | nil => intro i y h; simp [dec] at h
  | cons c l ih =>
    intro i y h
    simp only [dec] at h ⊢
    split
    · rename_i h1
      rw [if_pos h1] at h
      cases h
    · rename_i h1
      rw [if_neg h1] at h
      split
      · simp
      · rename_i h2
        rw [if_neg h2] at h
        have := ih _ _ h
        simp
        omega

theorem res_at (bs : List Nat) (p : Nat) (h : p ≤ bs.length) {x k er : Nat} (hd : dec (bs.drop p) 0 0 = (x, k, er)) : Vt.told (Vt.res bs (p : Int)) = .returned (.tuple #[.int .u64 (x : Int), .int .i64 ((if er = 0 then p + k else 0 : Nat) : Int), .int .i64 (er : Int)]) := by
  have e : decAt bs p = (x, k, er) := hd
  unfold Vt.told Vt.res
  rw [if_neg (by omega), Int.toNat_natCast, e]

theorem sub_lies {w : World} {B p m : Nat} {A A' : Option Addr} {bs : List Nat} (hl : Lies w B A (bs.map vb)) (h : p + m ≤ bs.length) (hA : 0 < m → A' = A.map (·.add p)) : Lies w B A' (((bs.drop p).take m).map vb) := by
  by_cases h0 : m = 0
  · left; subst h0; simp
  · rw [hA (by omega)]
    obtain ⟨ad, rfl, hadb, hcell⟩ := hl.place (by simp; omega)
    refine .inr ⟨ad.add p, rfl, by rw [add_block]; exact hadb, fun j u hj => ?_⟩
    rw [add_add]
    refine hcell _ _ ?_
    rw [← hj, List.getElem?_map, List.getElem?_map, List.getElem?_take_of_lt, List.getElem?_drop]
    have := (List.getElem?_eq_some_iff.1 hj).1
    simp at this
    omega
end Go.Proofs.Ythhmjjmjicmhdaa.Ed
