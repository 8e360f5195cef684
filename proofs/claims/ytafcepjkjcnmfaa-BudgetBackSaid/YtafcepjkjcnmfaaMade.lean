/- Slices of bytes that a call makes: fresh bytes, what a copy lays into them, and what is handed on. -/
import Derived.Test.YtafcepjkjcnmfaaRows
import Derived.Test.YtafcepjkjcnmfaaLift
import Derived.WalkLawsBesides
import Derived.WalkSpells
namespace Go.Proofs.Ytafcepjkjcnmfaa.Lift
open Go.RowKit

/-- Fresh bytes. -/
def zeros (n : Nat) : Array Value := madeCells #[.int .u8 0] n
theorem zeros_size (n : Nat) : (zeros n).size = n := by
  have := congrArg List.length (toList_madeCells_one (.int .u8 0) n)
  simpa [zeros] using this

/-- A slice of the call's own that holds the bytes bs. -/
def Made (B : Nat) (w : World) (bs : List Nat) (e : Ending) (w' : World) : Prop :=
  ∃ v, e = .returned v ∧ w'.ownsRow B 5 1 v bs.length (bs.map fun c : Nat => Value.int .u8 (c : Int)) ∧ Below B w w'
theorem Made.parts {B : Nat} {w w' : World} {bs : List Nat} {e : Ending} (h : Made B w bs e w') :
    ∃ A c, e = .returned (.slice A bs.length c) ∧ bs.length ≤ c ∧ c ≤ maxLen ∧ Lies w' w'.heap.size A (bs.map fun c : Nat => Value.int .u8 (c : Int)) ∧ Below B w w' := by
  obtain ⟨v, rfl, ho, hb⟩ := h
  obtain ⟨A, c, rfl, hc, hm, hl⟩ := own_parts ho
  exact ⟨A, c, rfl, hc, hm, hl, hb⟩

theorem own_spliced {w : World} {B g n m : Nat} {xs cur : List Value} (hB : B ≤ g) (h : w.heap[g]? = some (.cells (splice cur 0 xs).toArray 5 (0, 0))) (hx : xs.length = n) (hc : cur.length = n + m) (hm : n + m ≤ maxLen) :
    w.ownsRow B 5 1 (.slice (some ⟨g, 0, none⟩) n (n + m)) n xs := by
  refine ⟨by omega, .inr ⟨g, n + m, _, rfl, hB, h, by omega, hm, ?_, ?_⟩⟩
  · simp [splice]; omega
  · simp [splice, hx]

end Go.Proofs.Ytafcepjkjcnmfaa.Lift
