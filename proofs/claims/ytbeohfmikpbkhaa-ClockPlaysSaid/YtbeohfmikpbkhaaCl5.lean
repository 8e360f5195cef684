/- The document's cache: a new one. -/
import Derived.Test.YtbeohfmikpbkhaaCl4
namespace Go.Proofs.Ytbeohfmikpbkhaa.Ck
set_option linter.unusedVariables false
set_option linter.unusedSimpArgs false
open Go.RowKit Lift Ik
/-- How many bytes there is room for. -/
def roomy (n : Int) : Nat := (min (max n 0) 4611686018427387904).toNat
theorem roomy_le (n : Int) : roomy n ≤ 4611686018427387904 := by unfold roomy; omega
theorem rbetween_any (n : Int) (w : World) : Calls Try.prog 21 #[.int .i64 n, .int .i64 0, .int .i64 4611686018427387904] w fun e w' => e = .returned (.int .i64 (roomy n : Nat)) ∧ w = w' := by
  go_enter Try.func21, Try.ntmps21
  by_cases h1 : n < 0
  · have d1 : decide (n < 0) = true := decide_eq_true h1
    have E : Hid (((roomy n : Nat) : Int) = 0) := Lib.hid (by unfold roomy; omega)
    go_wp2_with fail
    go_ret
    exact ⟨by rw [E.out]; rfl, rfl⟩
  · have d1 : decide (n < 0) = false := decide_eq_false h1
    by_cases h2 : (4611686018427387904 : Int) < n
    · have d2 : decide ((4611686018427387904 : Int) < n) = true := decide_eq_true h2
      have E : Hid (((roomy n : Nat) : Int) = 4611686018427387904) := Lib.hid (by unfold roomy; omega)
      go_wp2_with fail
      go_ret
      exact ⟨by rw [E.out]; rfl, rfl⟩
    · have d2 : decide ((4611686018427387904 : Int) < n) = false := decide_eq_false h2
      have E : Hid (((roomy n : Nat) : Int) = n) := Lib.hid (by unfold roomy; omega)
      go_wp2_with fail
      go_ret
      exact ⟨by rw [E.out]; rfl, rfl⟩
theorem rnew_any (n : Int) (w : World) :
    Calls Try.prog 9 #[.int .i64 n] w fun e w' => e = .returned (.pointer (some ⟨w.heap.size, 0, none⟩)) ∧ RC w' w.heap.size (· = w.heap.size) (roomy n) ([], 0) ∧ Below w.heap.size w w' := by
  have H1 := Lib.hid (rbetween_any n)
  obtain ⟨x, hx⟩ : ∃ x, x = roomy n := ⟨_, rfl⟩
  have hle := roomy_le n
  rw [← hx] at H1 hle ⊢
  have HX := Lib.hid hle
  clear hx hle
  go_enter Try.func9, Try.ntmps9
  go_wp2_with (first | (go_at_call 21; refine (H1.out _).mono ?_; rintro e w' ⟨rfl, rfl⟩))
  go_ret
  exact ⟨rfl, ⟨[], none, 0, ⟨Lift.Box.new w Ty.rcache [vi x, .slice none 0 0, vi (0 : Nat)], World.ownsRow_nil _ _ _ _, fun d hd => (by cases hd), rfl, fun ad h => (by cases h), fun k hk => by rw [hk]; simp, by simp, HX.out, by simp⟩, rfl⟩, Joins.below_alloc1 _ _⟩
end Go.Proofs.Ytbeohfmikpbkhaa.Ck
