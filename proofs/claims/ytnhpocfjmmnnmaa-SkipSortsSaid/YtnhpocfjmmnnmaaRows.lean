/-
  No cell of these rows narrows 'for every input' (looked for: loops, veiled, ifaces, maps, wideKeys, modest, calm, conditions, laid).
  DERIVED. THE GIVEN ROWS OF THIS SEAT. 4 by the template 'for every input the law returns true; each argument reads behind the call as it read before'; 0 by the template 'total and deterministic' (their statements: YtnhpocfjmmnnmaaTotals.lean).
  GIVEN WITH THE SEED: the statements are not yours to turn. If you find one false, say at which input.
  Laid BY PROGRAM, IN A SANDBOX (cutbox-rows.mjs): the forced cells as the released guide's own fill.sh prints them over the translation 64d76df6465f91a8… (all of the seat's roots in one cut). By AI agents, Wed Nov 11 2026. No macro, syntax, notation, axiom, sorry.
-/
import Derived.Test.YtnhpocfjmmnnmaaChecked
import GoSem.Claim
import GoSem.ClaimJoined
import GoSem.ClaimMapViews
import Derived.JoinedTies
import Derived.KernelRfl
namespace Go.Proofs.Ytnhpocfjmmnnmaa
/- THE CELL 'sum', in the pinned program and in every row, IS THE sha256 OF THE DUMP (.gsa) THAT YtnhpocfjmmnnmaaProg.lean LOADS. Nothing in Lean hashes anything: it is a label: what it is worth is what the hold of that sum in a sandbox is worth. -/
noncomputable def Try.pinned : Pinned := { name := "ytnhpocfjmmnnmaa", sum := "64d76df6465f91a8488cbe629254ad2e9b7b8a3e4a82eb7633a2b29df18b39a3", checked := Try.checked }
namespace Rows
def none {H : Type} : Left H := { results := [], args := [] }

/-- 'butterylaw9.SkipPlays': WHATEVER THE INPUT: true; the input reads as it did. -/
def skipPlaysSpec : ChangeSpec := { name := "skipPlays", fn := fun _ => fun
  | [d1, d2, d3] => { results := [.lit (.bool true)], args := [d1, d2, d3] }
  | _ => none }
def skipPlaysRow : OpenClaim := { program := "ytnhpocfjmmnnmaa", sum := "64d76df6465f91a8488cbe629254ad2e9b7b8a3e4a82eb7633a2b29df18b39a3", func := "buttery/butterylaw9.SkipPlays", spec := "skipPlays", inPlace := ["internal/bytealg.Compare"], apart := false }
def SkipPlaysSaid : Prop := skipPlaysRow.holds Try.pinned (OpenSpec.ofChange skipPlaysSpec)

/-- ITS FALSE NEIGHBOUR: 'it returns false'. Refute it at one input. -/
def skipPlaysWrong : ChangeSpec := { name := "skipPlays", fn := fun _ => fun
  | [d1, d2, d3] => { results := [.lit (.bool false)], args := [d1, d2, d3] }
  | _ => none }
def SkipPlaysWrongFalsely : Prop := skipPlaysRow.holds Try.pinned (OpenSpec.ofChange skipPlaysWrong)

/-- 'butterylaw9.SkipSorts': WHATEVER THE INPUT: true; the input reads as it did. -/
def skipSortsSpec : ChangeSpec := { name := "skipSorts", fn := fun _ => fun
  | [d1, d2, d3] => { results := [.lit (.bool true)], args := [d1, d2, d3] }
  | _ => none }
def skipSortsRow : OpenClaim := { program := "ytnhpocfjmmnnmaa", sum := "64d76df6465f91a8488cbe629254ad2e9b7b8a3e4a82eb7633a2b29df18b39a3", func := "buttery/butterylaw9.SkipSorts", spec := "skipSorts", inPlace := ["internal/bytealg.Compare"], apart := false }
def SkipSortsSaid : Prop := skipSortsRow.holds Try.pinned (OpenSpec.ofChange skipSortsSpec)

/-- ITS FALSE NEIGHBOUR: 'it returns false'. Refute it at one input. -/
def skipSortsWrong : ChangeSpec := { name := "skipSorts", fn := fun _ => fun
  | [d1, d2, d3] => { results := [.lit (.bool false)], args := [d1, d2, d3] }
  | _ => none }
def SkipSortsWrongFalsely : Prop := skipSortsRow.holds Try.pinned (OpenSpec.ofChange skipSortsWrong)

/-- 'butterylaw9.SkipNewest': WHATEVER THE INPUT: true; the input reads as it did. -/
def skipNewestSpec : ChangeSpec := { name := "skipNewest", fn := fun _ => fun
  | [d1, d2] => { results := [.lit (.bool true)], args := [d1, d2] }
  | _ => none }
def skipNewestRow : OpenClaim := { program := "ytnhpocfjmmnnmaa", sum := "64d76df6465f91a8488cbe629254ad2e9b7b8a3e4a82eb7633a2b29df18b39a3", func := "buttery/butterylaw9.SkipNewest", spec := "skipNewest", inPlace := ["internal/bytealg.Compare"], apart := false }
def SkipNewestSaid : Prop := skipNewestRow.holds Try.pinned (OpenSpec.ofChange skipNewestSpec)

/-- ITS FALSE NEIGHBOUR: 'it returns false'. Refute it at one input. -/
def skipNewestWrong : ChangeSpec := { name := "skipNewest", fn := fun _ => fun
  | [d1, d2] => { results := [.lit (.bool false)], args := [d1, d2] }
  | _ => none }
def SkipNewestWrongFalsely : Prop := skipNewestRow.holds Try.pinned (OpenSpec.ofChange skipNewestWrong)

/-- 'butterylaw9.SkipSeeks': WHATEVER THE INPUT: true; the input reads as it did. -/
def skipSeeksSpec : ChangeSpec := { name := "skipSeeks", fn := fun _ => fun
  | [d1, d2] => { results := [.lit (.bool true)], args := [d1, d2] }
  | _ => none }
def skipSeeksRow : OpenClaim := { program := "ytnhpocfjmmnnmaa", sum := "64d76df6465f91a8488cbe629254ad2e9b7b8a3e4a82eb7633a2b29df18b39a3", func := "buttery/butterylaw9.SkipSeeks", spec := "skipSeeks", inPlace := ["internal/bytealg.Compare"], apart := false }
def SkipSeeksSaid : Prop := skipSeeksRow.holds Try.pinned (OpenSpec.ofChange skipSeeksSpec)

/-- ITS FALSE NEIGHBOUR: 'it returns false'. Refute it at one input. -/
def skipSeeksWrong : ChangeSpec := { name := "skipSeeks", fn := fun _ => fun
  | [d1, d2] => { results := [.lit (.bool false)], args := [d1, d2] }
  | _ => none }
def SkipSeeksWrongFalsely : Prop := skipSeeksRow.holds Try.pinned (OpenSpec.ofChange skipSeeksWrong)

/- THE SECOND FORM. 'bulk': how many values and letters a reading holds, each counted each time it is reached (what is shared counts as often as it is met; a slice's spare places count too). A statement '..UptoSaid' is the law's where the arguments, and the package variables that the reading takes, are together of bulk at most 1048576: NARROWER than '..Said'. Prove '..Said' where nothing that the law and all that it calls make is longer than what came in: it says more and counts as full. Else prove '..UptoSaid'. A law counts once. -/
mutual
def uptoBulk {H : Type} : DataW H → Nat
  | .lit (.string bytes) => bytes.length + 1
  | .lit _ => 1
  | .nil => 1
  | .ptr d => uptoBulk d + 1
  | .slice elems spare => uptoBulkAll elems + uptoBulkAll spare + 1
  | .agg parts => uptoBulkAll parts + 1
  | .iface _ d => uptoBulk d + 1
  | .map entries => uptoBulkEntries entries + 1
  | .held _ => 1
def uptoBulkAll {H : Type} : List (DataW H) → Nat
  | [] => 0
  | d :: r => uptoBulk d + uptoBulkAll r
def uptoBulkEntries {H : Type} : List (Lit × DataW H) → Nat
  | [] => 0
  | x :: r => uptoBulkEntry x + uptoBulkEntries r
def uptoBulkEntry {H : Type} : Lit × DataW H → Nat
  | (.string bytes, d) => bytes.length + uptoBulk d + 1
  | (_, d) => uptoBulk d + 1
 end
def uptoSmall : (H : Type) → List (DataW H) → Bool := fun _ ds => decide (uptoBulkAll ds ≤ 1048576)
def OpenSpec.upto (s : _root_.Go.ChangeSpec) : _root_.Go.OpenSpec := { _root_.Go.OpenSpec.ofChange s with cond := some uptoSmall }

/-- 'butterylaw9.SkipPlays', WHERE WHAT IT READS IS OF BULK AT MOST 1048576: true; the input reads as it did. -/
def skipPlaysUptoRow : OpenClaim := { program := "ytnhpocfjmmnnmaa", sum := "64d76df6465f91a8488cbe629254ad2e9b7b8a3e4a82eb7633a2b29df18b39a3", func := "buttery/butterylaw9.SkipPlays", spec := "skipPlays", inPlace := ["internal/bytealg.Compare"], apart := false, narrowed := true }
def SkipPlaysUptoSaid : Prop := skipPlaysUptoRow.holds Try.pinned (OpenSpec.upto skipPlaysSpec)

/-- 'butterylaw9.SkipSorts', WHERE WHAT IT READS IS OF BULK AT MOST 1048576: true; the input reads as it did. -/
def skipSortsUptoRow : OpenClaim := { program := "ytnhpocfjmmnnmaa", sum := "64d76df6465f91a8488cbe629254ad2e9b7b8a3e4a82eb7633a2b29df18b39a3", func := "buttery/butterylaw9.SkipSorts", spec := "skipSorts", inPlace := ["internal/bytealg.Compare"], apart := false, narrowed := true }
def SkipSortsUptoSaid : Prop := skipSortsUptoRow.holds Try.pinned (OpenSpec.upto skipSortsSpec)

/-- 'butterylaw9.SkipNewest', WHERE WHAT IT READS IS OF BULK AT MOST 1048576: true; the input reads as it did. -/
def skipNewestUptoRow : OpenClaim := { program := "ytnhpocfjmmnnmaa", sum := "64d76df6465f91a8488cbe629254ad2e9b7b8a3e4a82eb7633a2b29df18b39a3", func := "buttery/butterylaw9.SkipNewest", spec := "skipNewest", inPlace := ["internal/bytealg.Compare"], apart := false, narrowed := true }
def SkipNewestUptoSaid : Prop := skipNewestUptoRow.holds Try.pinned (OpenSpec.upto skipNewestSpec)

/-- 'butterylaw9.SkipSeeks', WHERE WHAT IT READS IS OF BULK AT MOST 1048576: true; the input reads as it did. -/
def skipSeeksUptoRow : OpenClaim := { program := "ytnhpocfjmmnnmaa", sum := "64d76df6465f91a8488cbe629254ad2e9b7b8a3e4a82eb7633a2b29df18b39a3", func := "buttery/butterylaw9.SkipSeeks", spec := "skipSeeks", inPlace := ["internal/bytealg.Compare"], apart := false, narrowed := true }
def SkipSeeksUptoSaid : Prop := skipSeeksUptoRow.holds Try.pinned (OpenSpec.upto skipSeeksSpec)

end Rows
end Go.Proofs.Ytnhpocfjmmnnmaa
