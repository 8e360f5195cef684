/-
  No cell of these rows narrows 'for every input' (looked for: loops, veiled, ifaces, maps, wideKeys, modest, calm, conditions, laid).
  DERIVED. THE GIVEN ROWS OF THIS SEAT. 4 by the template 'for every input the law returns true; each argument reads behind the call as it read before'; 0 by the template 'total and deterministic' (their statements: YtmnhklfljfglhaaTotals.lean).
  GIVEN WITH THE SEED: the statements are not yours to turn. If you find one false, say at which input.
  Laid BY PROGRAM, IN A SANDBOX (cutbox-rows.mjs): the forced cells as the released guide's own fill.sh prints them over the translation 7ccc470330c3a823… (all of the seat's roots in one cut). By AI agents, Wed Nov 11 2026. No macro, syntax, notation, axiom, sorry.
-/
import Derived.Test.YtmnhklfljfglhaaChecked
import GoSem.Claim
import GoSem.ClaimJoined
import GoSem.ClaimMapViews
import Derived.JoinedTies
import Derived.KernelRfl
namespace Go.Proofs.Ytmnhklfljfglhaa
/- THE CELL 'sum', in the pinned program and in every row, IS THE sha256 OF THE DUMP (.gsa) THAT YtmnhklfljfglhaaProg.lean LOADS. Nothing in Lean hashes anything: it is a label: what it is worth is what the hold of that sum in a sandbox is worth. -/
noncomputable def Try.pinned : Pinned := { name := "ytmnhklfljfglhaa", sum := "7ccc470330c3a8239396ed4c20ac4278cd3aeb079a973bd45fab2b0ab5ead0c5", checked := Try.checked }
namespace Rows
def none {H : Type} : Left H := { results := [], args := [] }

/-- 'butterylaw9.SkipPlays': WHATEVER THE INPUT: true; the input reads as it did. -/
def skipPlaysSpec : ChangeSpec := { name := "skipPlays", fn := fun _ => fun
  | [d1, d2, d3] => { results := [.lit (.bool true)], args := [d1, d2, d3] }
  | _ => none }
def skipPlaysRow : OpenClaim := { program := "ytmnhklfljfglhaa", sum := "7ccc470330c3a8239396ed4c20ac4278cd3aeb079a973bd45fab2b0ab5ead0c5", func := "buttery/butterylaw9.SkipPlays", spec := "skipPlays", inPlace := ["internal/bytealg.Compare"], apart := false }
def SkipPlaysSaid : Prop := skipPlaysRow.holds Try.pinned (OpenSpec.ofChange skipPlaysSpec)

/-- ITS FALSE NEIGHBOUR: 'it returns false'. Refute it at one input. -/
def skipPlaysWrong : ChangeSpec := { name := "skipPlays", fn := fun _ => fun
  | [d1, d2, d3] => { results := [.lit (.bool false)], args := [d1, d2, d3] }
  | _ => none }
def SkipPlaysWrongFalsely : Prop := skipPlaysRow.holds Try.pinned (OpenSpec.ofChange skipPlaysWrong)

/-- 'butterylaw10.BuffersPlays': WHATEVER THE INPUT: true; the input reads as it did. -/
def buffersPlaysSpec : ChangeSpec := { name := "buffersPlays", fn := fun _ => fun
  | [d1, d2, d3] => { results := [.lit (.bool true)], args := [d1, d2, d3] }
  | _ => none }
def buffersPlaysRow : OpenClaim := { program := "ytmnhklfljfglhaa", sum := "7ccc470330c3a8239396ed4c20ac4278cd3aeb079a973bd45fab2b0ab5ead0c5", func := "buttery/butterylaw10.BuffersPlays", spec := "buffersPlays", apart := false }
def BuffersPlaysSaid : Prop := buffersPlaysRow.holds Try.pinned (OpenSpec.ofChange buffersPlaysSpec)

/-- ITS FALSE NEIGHBOUR: 'it returns false'. Refute it at one input. -/
def buffersPlaysWrong : ChangeSpec := { name := "buffersPlays", fn := fun _ => fun
  | [d1, d2, d3] => { results := [.lit (.bool false)], args := [d1, d2, d3] }
  | _ => none }
def BuffersPlaysWrongFalsely : Prop := buffersPlaysRow.holds Try.pinned (OpenSpec.ofChange buffersPlaysWrong)

/-- 'butterylaw10.BuffersBudget': WHATEVER THE INPUT: true; the input reads as it did. -/
def buffersBudgetSpec : ChangeSpec := { name := "buffersBudget", fn := fun _ => fun
  | [d1, d2, d3] => { results := [.lit (.bool true)], args := [d1, d2, d3] }
  | _ => none }
def buffersBudgetRow : OpenClaim := { program := "ytmnhklfljfglhaa", sum := "7ccc470330c3a8239396ed4c20ac4278cd3aeb079a973bd45fab2b0ab5ead0c5", func := "buttery/butterylaw10.BuffersBudget", spec := "buffersBudget", apart := false }
def BuffersBudgetSaid : Prop := buffersBudgetRow.holds Try.pinned (OpenSpec.ofChange buffersBudgetSpec)

/-- ITS FALSE NEIGHBOUR: 'it returns false'. Refute it at one input. -/
def buffersBudgetWrong : ChangeSpec := { name := "buffersBudget", fn := fun _ => fun
  | [d1, d2, d3] => { results := [.lit (.bool false)], args := [d1, d2, d3] }
  | _ => none }
def BuffersBudgetWrongFalsely : Prop := buffersBudgetRow.holds Try.pinned (OpenSpec.ofChange buffersBudgetWrong)

/-- 'butterylaw10.BuffersRow': WHATEVER THE INPUT: true; the input reads as it did. -/
def buffersRowSpec : ChangeSpec := { name := "buffersRow", fn := fun _ => fun
  | [d1, d2] => { results := [.lit (.bool true)], args := [d1, d2] }
  | _ => none }
def buffersRowRow : OpenClaim := { program := "ytmnhklfljfglhaa", sum := "7ccc470330c3a8239396ed4c20ac4278cd3aeb079a973bd45fab2b0ab5ead0c5", func := "buttery/butterylaw10.BuffersRow", spec := "buffersRow", apart := false }
def BuffersRowSaid : Prop := buffersRowRow.holds Try.pinned (OpenSpec.ofChange buffersRowSpec)

/-- ITS FALSE NEIGHBOUR: 'it returns false'. Refute it at one input. -/
def buffersRowWrong : ChangeSpec := { name := "buffersRow", fn := fun _ => fun
  | [d1, d2] => { results := [.lit (.bool false)], args := [d1, d2] }
  | _ => none }
def BuffersRowWrongFalsely : Prop := buffersRowRow.holds Try.pinned (OpenSpec.ofChange buffersRowWrong)

/- THE SECOND FORM. 'bulk': how many values and letters a reading holds, each counted each time it is reached (what is shared counts as often as it is met; a slice's spare places count too). A statement '..UptoSaid' is the law's where the arguments, and the package variables that the reading takes, are together of bulk at most 1048576: NARROWER than '..Said'. Prove '..Said' where nothing that the law and all that it calls make is longer than what came in: it says more and counts as full. Else prove '..UptoSaid'. A law counts once. -/
mutual
def uptoBulk {H : Type} : DataW H → Nat
  | .lit (.string bytes) => bytes.length + 1
  | .lit _ => 1
  | .nil => 1
  | .ptr d => uptoBulk d + 1
  | .slice elems spare => uptoBulkAll elems + uptoBulkAll spare + 1
  | .agg parts => uptoBulkAll parts + 1
  | .iface _ d => uptoBulk d + 1
  | .map entries => uptoBulkEntries entries + 1
  | .held _ => 1
def uptoBulkAll {H : Type} : List (DataW H) → Nat
  | [] => 0
  | d :: r => uptoBulk d + uptoBulkAll r
def uptoBulkEntries {H : Type} : List (Lit × DataW H) → Nat
  | [] => 0
  | x :: r => uptoBulkEntry x + uptoBulkEntries r
def uptoBulkEntry {H : Type} : Lit × DataW H → Nat
  | (.string bytes, d) => bytes.length + uptoBulk d + 1
  | (_, d) => uptoBulk d + 1
 end
def uptoSmall : (H : Type) → List (DataW H) → Bool := fun _ ds => decide (uptoBulkAll ds ≤ 1048576)
def OpenSpec.upto (s : _root_.Go.ChangeSpec) : _root_.Go.OpenSpec := { _root_.Go.OpenSpec.ofChange s with cond := some uptoSmall }

/-- 'butterylaw9.SkipPlays', WHERE WHAT IT READS IS OF BULK AT MOST 1048576: true; the input reads as it did. -/
def skipPlaysUptoRow : OpenClaim := { program := "ytmnhklfljfglhaa", sum := "7ccc470330c3a8239396ed4c20ac4278cd3aeb079a973bd45fab2b0ab5ead0c5", func := "buttery/butterylaw9.SkipPlays", spec := "skipPlays", inPlace := ["internal/bytealg.Compare"], apart := false, narrowed := true }
def SkipPlaysUptoSaid : Prop := skipPlaysUptoRow.holds Try.pinned (OpenSpec.upto skipPlaysSpec)

/-- 'butterylaw10.BuffersPlays', WHERE WHAT IT READS IS OF BULK AT MOST 1048576: true; the input reads as it did. -/
def buffersPlaysUptoRow : OpenClaim := { program := "ytmnhklfljfglhaa", sum := "7ccc470330c3a8239396ed4c20ac4278cd3aeb079a973bd45fab2b0ab5ead0c5", func := "buttery/butterylaw10.BuffersPlays", spec := "buffersPlays", apart := false, narrowed := true }
def BuffersPlaysUptoSaid : Prop := buffersPlaysUptoRow.holds Try.pinned (OpenSpec.upto buffersPlaysSpec)

/-- 'butterylaw10.BuffersBudget', WHERE WHAT IT READS IS OF BULK AT MOST 1048576: true; the input reads as it did. -/
def buffersBudgetUptoRow : OpenClaim := { program := "ytmnhklfljfglhaa", sum := "7ccc470330c3a8239396ed4c20ac4278cd3aeb079a973bd45fab2b0ab5ead0c5", func := "buttery/butterylaw10.BuffersBudget", spec := "buffersBudget", apart := false, narrowed := true }
def BuffersBudgetUptoSaid : Prop := buffersBudgetUptoRow.holds Try.pinned (OpenSpec.upto buffersBudgetSpec)

/-- 'butterylaw10.BuffersRow', WHERE WHAT IT READS IS OF BULK AT MOST 1048576: true; the input reads as it did. -/
def buffersRowUptoRow : OpenClaim := { program := "ytmnhklfljfglhaa", sum := "7ccc470330c3a8239396ed4c20ac4278cd3aeb079a973bd45fab2b0ab5ead0c5", func := "buttery/butterylaw10.BuffersRow", spec := "buffersRow", apart := false, narrowed := true }
def BuffersRowUptoSaid : Prop := buffersRowUptoRow.holds Try.pinned (OpenSpec.upto buffersRowSpec)

end Rows
end Go.Proofs.Ytmnhklfljfglhaa
