/-
  DERIVED. GIVEN WITH THE SEED: THE CARDS: each row of YtnbknihaefkllaaDoorRows.lean that lists a variable, with what it lists TIED to the program's text (the seventh form; the later family's looks); each row that meets fmt, with fmt's text TOLD by the authors' own Lean function (tested against real Go, not proved from fmt's source: count such statements apart). THE CARD IS WHAT COUNTS. Prove the row's statement (the work); the ties are given (YtnbknihaefkllaaDoorTie.lean); close each card by the builder's one call (the guide's Derived/Test/ToyasCard.lean, 'card_holds'). Laid BY PROGRAM, IN A SANDBOX (cutbox-door.mjs). By AI agents, Wed Nov 11 2026. No macro, syntax, notation, axiom, sorry.
-/
import Derived.Test.YtnbknihaefkllaaDoorRows
import GoSem.ClaimSeven
namespace Go.Proofs.YtnbknihaefkllaaDoor
namespace Rows

/-- THE TIED CARD OF 'butterylaw8.WalKeeps'. -/
def walKeepsCard : Claim7 := { stood := { row := walKeepsRow, standIns := [], harness := (true, "9135fcd2997674462ee1da01a42a203beea67bef0b367cb95a1ef7ad6c7c8d61"), looks := false }, kinds := [], alts := [], laidByText := true, laidKinds := [.data, .pinned], laidTests := true, laidLooks := .later }
def WalKeepsCardSaid : Prop := Claim7.holds Tryd.pinned (.plain (OpenSpec.ofChange walKeepsSpec)) walKeepsCard

/-- THE TIED CARD OF 'butterylaw8.WalMore'. -/
def walMoreCard : Claim7 := { stood := { row := walMoreRow, standIns := [], harness := (true, "9135fcd2997674462ee1da01a42a203beea67bef0b367cb95a1ef7ad6c7c8d61"), looks := false }, kinds := [], alts := [], laidByText := true, laidKinds := [.data, .pinned], laidTests := true, laidLooks := .later }
def WalMoreCardSaid : Prop := Claim7.holds Tryd.pinned (.plain (OpenSpec.ofChange walMoreSpec)) walMoreCard

/-- THE TIED CARD OF 'butterylaw8.WalTorn'. -/
def walTornCard : Claim7 := { stood := { row := walTornRow, standIns := [], harness := (true, "9135fcd2997674462ee1da01a42a203beea67bef0b367cb95a1ef7ad6c7c8d61"), looks := false }, kinds := [], alts := [], laidByText := true, laidKinds := [.data, .pinned], laidTests := true, laidLooks := .later }
def WalTornCardSaid : Prop := Claim7.holds Tryd.pinned (.plain (OpenSpec.ofChange walTornSpec)) walTornCard

/-- THE SECOND FORM's CARD OF 'butterylaw8.WalKeeps'. -/
def walKeepsUptoCard : Claim7 := { stood := { row := walKeepsUptoRow, standIns := [], harness := (true, "9135fcd2997674462ee1da01a42a203beea67bef0b367cb95a1ef7ad6c7c8d61"), looks := false }, kinds := [], alts := [], laidByText := true, laidKinds := [.data, .pinned], laidTests := true, laidLooks := .later }
def WalKeepsUptoCardSaid : Prop := Claim7.holds Tryd.pinned (.plain (OpenSpec.upto walKeepsSpec)) walKeepsUptoCard

/-- THE SECOND FORM's CARD OF 'butterylaw8.WalMore'. -/
def walMoreUptoCard : Claim7 := { stood := { row := walMoreUptoRow, standIns := [], harness := (true, "9135fcd2997674462ee1da01a42a203beea67bef0b367cb95a1ef7ad6c7c8d61"), looks := false }, kinds := [], alts := [], laidByText := true, laidKinds := [.data, .pinned], laidTests := true, laidLooks := .later }
def WalMoreUptoCardSaid : Prop := Claim7.holds Tryd.pinned (.plain (OpenSpec.upto walMoreSpec)) walMoreUptoCard

/-- THE SECOND FORM's CARD OF 'butterylaw8.WalTorn'. -/
def walTornUptoCard : Claim7 := { stood := { row := walTornUptoRow, standIns := [], harness := (true, "9135fcd2997674462ee1da01a42a203beea67bef0b367cb95a1ef7ad6c7c8d61"), looks := false }, kinds := [], alts := [], laidByText := true, laidKinds := [.data, .pinned], laidTests := true, laidLooks := .later }
def WalTornUptoCardSaid : Prop := Claim7.holds Tryd.pinned (.plain (OpenSpec.upto walTornSpec)) walTornUptoCard
end Rows
end Go.Proofs.YtnbknihaefkllaaDoor
