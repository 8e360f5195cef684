/-
  No cell of these rows narrows 'for every input' (looked for: loops, veiled, ifaces, maps, wideKeys, modest, calm, conditions, laid).
  DERIVED. THE GIVEN ROWS OF THIS SEAT. 4 by the template 'for every input the law returns true; each argument reads behind the call as it read before'; 0 by the template 'total and deterministic' (their statements: YtbeohfmikpbkhaaTotals.lean).
  GIVEN WITH THE SEED: the statements are not yours to turn. If you find one false, say at which input.
  Laid BY PROGRAM, IN A SANDBOX (cutbox-rows.mjs): the forced cells as the released guide's own fill.sh prints them over the translation e2fb97fbe686c0a0… (all of the seat's roots in one cut). By AI agents, Wed Nov 11 2026. No macro, syntax, notation, axiom, sorry.
-/
import Derived.Test.YtbeohfmikpbkhaaChecked
import GoSem.Claim
import GoSem.ClaimJoined
import GoSem.ClaimMapViews
import Derived.JoinedTies
import Derived.KernelRfl
namespace Go.Proofs.Ytbeohfmikpbkhaa
/- THE CELL 'sum', in the pinned program and in every row, IS THE sha256 OF THE DUMP (.gsa) THAT YtbeohfmikpbkhaaProg.lean LOADS. Nothing in Lean hashes anything: it is a label: what it is worth is what the hold of that sum in a sandbox is worth. -/
noncomputable def Try.pinned : Pinned := { name := "ytbeohfmikpbkhaa", sum := "e2fb97fbe686c0a08426492c40d0b0230dd0f484162c469a1e1d4bc294f71da4", checked := Try.checked }
namespace Rows
def none {H : Type} : Left H := { results := [], args := [] }

/-- 'butterylaw14.ClockPlays': WHATEVER THE INPUT: true; the input reads as it did. -/
def clockPlaysSpec : ChangeSpec := { name := "clockPlays", fn := fun _ => fun
  | [d1, d2] => { results := [.lit (.bool true)], args := [d1, d2] }
  | _ => none }
def clockPlaysRow : OpenClaim := { program := "ytbeohfmikpbkhaa", sum := "e2fb97fbe686c0a08426492c40d0b0230dd0f484162c469a1e1d4bc294f71da4", func := "buttery/butterylaw14.ClockPlays", spec := "clockPlays", unfollowed := true, recurses := true, plainKeys := false, apart := false }
def ClockPlaysSaid : Prop := clockPlaysRow.holds Try.pinned (OpenSpec.ofChange clockPlaysSpec)

/-- ITS FALSE NEIGHBOUR: 'it returns false'. Refute it at one input. -/
def clockPlaysWrong : ChangeSpec := { name := "clockPlays", fn := fun _ => fun
  | [d1, d2] => { results := [.lit (.bool false)], args := [d1, d2] }
  | _ => none }
def ClockPlaysWrongFalsely : Prop := clockPlaysRow.holds Try.pinned (OpenSpec.ofChange clockPlaysWrong)

/-- 'butterylaw14.ClockRoom': WHATEVER THE INPUT: true; the input reads as it did. -/
def clockRoomSpec : ChangeSpec := { name := "clockRoom", fn := fun _ => fun
  | [d1, d2] => { results := [.lit (.bool true)], args := [d1, d2] }
  | _ => none }
def clockRoomRow : OpenClaim := { program := "ytbeohfmikpbkhaa", sum := "e2fb97fbe686c0a08426492c40d0b0230dd0f484162c469a1e1d4bc294f71da4", func := "buttery/butterylaw14.ClockRoom", spec := "clockRoom", unfollowed := true, recurses := true, plainKeys := false, apart := false }
def ClockRoomSaid : Prop := clockRoomRow.holds Try.pinned (OpenSpec.ofChange clockRoomSpec)

/-- ITS FALSE NEIGHBOUR: 'it returns false'. Refute it at one input. -/
def clockRoomWrong : ChangeSpec := { name := "clockRoom", fn := fun _ => fun
  | [d1, d2] => { results := [.lit (.bool false)], args := [d1, d2] }
  | _ => none }
def ClockRoomWrongFalsely : Prop := clockRoomRow.holds Try.pinned (OpenSpec.ofChange clockRoomWrong)

/-- 'butterylaw14.ClockTurns': WHATEVER THE INPUT: true; the input reads as it did. -/
def clockTurnsSpec : ChangeSpec := { name := "clockTurns", fn := fun _ => fun
  | [d1, d2] => { results := [.lit (.bool true)], args := [d1, d2] }
  | _ => none }
def clockTurnsRow : OpenClaim := { program := "ytbeohfmikpbkhaa", sum := "e2fb97fbe686c0a08426492c40d0b0230dd0f484162c469a1e1d4bc294f71da4", func := "buttery/butterylaw14.ClockTurns", spec := "clockTurns", unfollowed := true, recurses := true, plainKeys := false, apart := false }
def ClockTurnsSaid : Prop := clockTurnsRow.holds Try.pinned (OpenSpec.ofChange clockTurnsSpec)

/-- ITS FALSE NEIGHBOUR: 'it returns false'. Refute it at one input. -/
def clockTurnsWrong : ChangeSpec := { name := "clockTurns", fn := fun _ => fun
  | [d1, d2] => { results := [.lit (.bool false)], args := [d1, d2] }
  | _ => none }
def ClockTurnsWrongFalsely : Prop := clockTurnsRow.holds Try.pinned (OpenSpec.ofChange clockTurnsWrong)

/-- 'butterylaw14.ClockWhole': WHATEVER THE INPUT: true; the input reads as it did. -/
def clockWholeSpec : ChangeSpec := { name := "clockWhole", fn := fun _ => fun
  | [d1, d2] => { results := [.lit (.bool true)], args := [d1, d2] }
  | _ => none }
def clockWholeRow : OpenClaim := { program := "ytbeohfmikpbkhaa", sum := "e2fb97fbe686c0a08426492c40d0b0230dd0f484162c469a1e1d4bc294f71da4", func := "buttery/butterylaw14.ClockWhole", spec := "clockWhole", unfollowed := true, recurses := true, plainKeys := false, apart := false }
def ClockWholeSaid : Prop := clockWholeRow.holds Try.pinned (OpenSpec.ofChange clockWholeSpec)

/-- ITS FALSE NEIGHBOUR: 'it returns false'. Refute it at one input. -/
def clockWholeWrong : ChangeSpec := { name := "clockWhole", fn := fun _ => fun
  | [d1, d2] => { results := [.lit (.bool false)], args := [d1, d2] }
  | _ => none }
def ClockWholeWrongFalsely : Prop := clockWholeRow.holds Try.pinned (OpenSpec.ofChange clockWholeWrong)

/- THE SECOND FORM. 'bulk': how many values and letters a reading holds, each counted each time it is reached (what is shared counts as often as it is met; a slice's spare places count too). A statement '..UptoSaid' is the law's where the arguments, and the package variables that the reading takes, are together of bulk at most 1048576: NARROWER than '..Said'. Prove '..Said' where nothing that the law and all that it calls make is longer than what came in: it says more and counts as full. Else prove '..UptoSaid'. A law counts once. -/
mutual
def uptoBulk {H : Type} : DataW H → Nat
  | .lit (.string bytes) => bytes.length + 1
  | .lit _ => 1
  | .nil => 1
  | .ptr d => uptoBulk d + 1
  | .slice elems spare => uptoBulkAll elems + uptoBulkAll spare + 1
  | .agg parts => uptoBulkAll parts + 1
  | .iface _ d => uptoBulk d + 1
  | .map entries => uptoBulkEntries entries + 1
  | .held _ => 1
def uptoBulkAll {H : Type} : List (DataW H) → Nat
  | [] => 0
  | d :: r => uptoBulk d + uptoBulkAll r
def uptoBulkEntries {H : Type} : List (Lit × DataW H) → Nat
  | [] => 0
  | x :: r => uptoBulkEntry x + uptoBulkEntries r
def uptoBulkEntry {H : Type} : Lit × DataW H → Nat
  | (.string bytes, d) => bytes.length + uptoBulk d + 1
  | (_, d) => uptoBulk d + 1
 end
def uptoSmall : (H : Type) → List (DataW H) → Bool := fun _ ds => decide (uptoBulkAll ds ≤ 1048576)
def OpenSpec.upto (s : _root_.Go.ChangeSpec) : _root_.Go.OpenSpec := { _root_.Go.OpenSpec.ofChange s with cond := some uptoSmall }

/-- 'butterylaw14.ClockPlays', WHERE WHAT IT READS IS OF BULK AT MOST 1048576: true; the input reads as it did. -/
def clockPlaysUptoRow : OpenClaim := { program := "ytbeohfmikpbkhaa", sum := "e2fb97fbe686c0a08426492c40d0b0230dd0f484162c469a1e1d4bc294f71da4", func := "buttery/butterylaw14.ClockPlays", spec := "clockPlays", unfollowed := true, recurses := true, plainKeys := false, apart := false, narrowed := true }
def ClockPlaysUptoSaid : Prop := clockPlaysUptoRow.holds Try.pinned (OpenSpec.upto clockPlaysSpec)

/-- 'butterylaw14.ClockRoom', WHERE WHAT IT READS IS OF BULK AT MOST 1048576: true; the input reads as it did. -/
def clockRoomUptoRow : OpenClaim := { program := "ytbeohfmikpbkhaa", sum := "e2fb97fbe686c0a08426492c40d0b0230dd0f484162c469a1e1d4bc294f71da4", func := "buttery/butterylaw14.ClockRoom", spec := "clockRoom", unfollowed := true, recurses := true, plainKeys := false, apart := false, narrowed := true }
def ClockRoomUptoSaid : Prop := clockRoomUptoRow.holds Try.pinned (OpenSpec.upto clockRoomSpec)

/-- 'butterylaw14.ClockTurns', WHERE WHAT IT READS IS OF BULK AT MOST 1048576: true; the input reads as it did. -/
def clockTurnsUptoRow : OpenClaim := { program := "ytbeohfmikpbkhaa", sum := "e2fb97fbe686c0a08426492c40d0b0230dd0f484162c469a1e1d4bc294f71da4", func := "buttery/butterylaw14.ClockTurns", spec := "clockTurns", unfollowed := true, recurses := true, plainKeys := false, apart := false, narrowed := true }
def ClockTurnsUptoSaid : Prop := clockTurnsUptoRow.holds Try.pinned (OpenSpec.upto clockTurnsSpec)

/-- 'butterylaw14.ClockWhole', WHERE WHAT IT READS IS OF BULK AT MOST 1048576: true; the input reads as it did. -/
def clockWholeUptoRow : OpenClaim := { program := "ytbeohfmikpbkhaa", sum := "e2fb97fbe686c0a08426492c40d0b0230dd0f484162c469a1e1d4bc294f71da4", func := "buttery/butterylaw14.ClockWhole", spec := "clockWhole", unfollowed := true, recurses := true, plainKeys := false, apart := false, narrowed := true }
def ClockWholeUptoSaid : Prop := clockWholeUptoRow.holds Try.pinned (OpenSpec.upto clockWholeSpec)

end Rows
end Go.Proofs.Ytbeohfmikpbkhaa
