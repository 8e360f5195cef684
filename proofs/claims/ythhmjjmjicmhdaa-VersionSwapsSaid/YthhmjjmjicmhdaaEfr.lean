/- Blocks of bytes in new memory. -/
import Derived.Test.YthhmjjmjicmhdaaEops
import Derived.Test.YthhmjjmjicmhdaaOwn
import Derived.Test.YthhmjjmjicmhdaaMade
namespace Go.Proofs.Ythhmjjmjicmhdaa.Ed
set_option linter.unusedVariables false
set_option linter.unusedSimpArgs false
open Go.RowKit Lift Ik
/-- A block of bytes at B or above. -/
def Fresh (B : Nat) (w : World) (k : Nat) : Prop := B ≤ k ∧ k < w.heap.size ∧ ∃ cs fr, w.heap[k]? = some (.cells cs 5 fr)
theorem Fresh.below {B : Nat} {w w' : World} (hb : Below w.heap.size w w') (k : Nat) (h : Fresh B w k) : Fresh B w' k := by
  obtain ⟨h1, h2, cs, fr, h3⟩ := h
  exact ⟨h1, Nat.lt_of_lt_of_le h2 hb.size, cs, fr, (hb.block k h2).trans h3⟩
theorem Fresh.low {B B' : Nat} {w : World} (hB : B' ≤ B) (k : Nat) (h : Fresh B w k) : Fresh B' w k := ⟨Nat.le_trans hB h.1, h.2⟩
/-- Bytes that lie in new memory. -/
structure New (w w' : World) (A : Option Addr) (c : Nat) (b : List Nat) : Prop where
  lies : LiesP w' (Fresh w.heap.size w') A (b.map vb)
  len : b.length ≤ c
  cap : c ≤ maxLen
  b8 : ∀ x, x ∈ b → x < 256
theorem new_nil (w w' : World) : New w w' none 0 [] := ⟨.inl rfl, Nat.le_refl _, by decide, fun _ h => by cases h⟩
end Go.Proofs.Ythhmjjmjicmhdaa.Ed
