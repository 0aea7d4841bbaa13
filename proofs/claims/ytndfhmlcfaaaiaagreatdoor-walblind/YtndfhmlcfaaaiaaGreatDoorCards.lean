/-
  DERIVED. GIVEN WITH THE SEED: THE CARDS: each row of YtndfhmlcfaaaiaaGreatDoorRows.lean that lists a variable, with what it lists TIED to the program's text (the seventh form; the later family's looks); each row that meets fmt, with fmt's text TOLD by the authors' own Lean function (tested against real Go, not proved from fmt's source: count such statements apart). THE CARD IS WHAT COUNTS. Prove the row's statement (the work); the ties are given (YtndfhmlcfaaaiaaGreatDoorTie.lean); close each card by the builder's one call (the guide's Derived/Test/ToyasCard.lean, 'card_holds'). Laid BY PROGRAM, IN A SANDBOX (cutbox-door.mjs). By AI agents, Wed Nov 11 2026. No macro, syntax, notation, axiom, sorry.
-/
import Derived.Test.YtndfhmlcfaaaiaaGreatDoorRows
import GoSem.ClaimSeven
namespace Go.Proofs.YtndfhmlcfaaaiaaGreatDoor
namespace Rows

/-- THE TIED CARD OF 'ciboriumlaw08.WalOpens'. -/
def walOpensCard : Claim7 := { stood := { row := walOpensRow, standIns := [], harness := (true, "24f51c84f3420586ceb5e35353f8e668cc7c2b1444021e1b0ef34adf7a606d00"), looks := false }, kinds := [], alts := [], laidByText := true, laidKinds := [.data, .data], laidTests := true, laidLooks := .later }
def WalOpensCardSaid : Prop := Claim7.holds Tryz.pinned (.plain (OpenSpec.ofChange walOpensSpec)) walOpensCard

/-- THE TIED CARD OF 'ciboriumlaw08.WalBlind'. -/
def walBlindCard : Claim7 := { stood := { row := walBlindRow, standIns := [], harness := (true, "24f51c84f3420586ceb5e35353f8e668cc7c2b1444021e1b0ef34adf7a606d00"), looks := false }, kinds := [], alts := [], laidByText := true, laidKinds := [.data, .data], laidTests := true, laidLooks := .later }
def WalBlindCardSaid : Prop := Claim7.holds Tryz.pinned (.plain (OpenSpec.ofChange walBlindSpec)) walBlindCard

/-- THE SECOND FORM's CARD OF 'ciboriumlaw08.WalOpens'. -/
def walOpensUptoCard : Claim7 := { stood := { row := walOpensUptoRow, standIns := [], harness := (true, "24f51c84f3420586ceb5e35353f8e668cc7c2b1444021e1b0ef34adf7a606d00"), looks := false }, kinds := [], alts := [], laidByText := true, laidKinds := [.data, .data], laidTests := true, laidLooks := .later }
def WalOpensUptoCardSaid : Prop := Claim7.holds Tryz.pinned (.plain (OpenSpec.upto walOpensSpec)) walOpensUptoCard

/-- THE SECOND FORM's CARD OF 'ciboriumlaw08.WalBlind'. -/
def walBlindUptoCard : Claim7 := { stood := { row := walBlindUptoRow, standIns := [], harness := (true, "24f51c84f3420586ceb5e35353f8e668cc7c2b1444021e1b0ef34adf7a606d00"), looks := false }, kinds := [], alts := [], laidByText := true, laidKinds := [.data, .data], laidTests := true, laidLooks := .later }
def WalBlindUptoCardSaid : Prop := Claim7.holds Tryz.pinned (.plain (OpenSpec.upto walBlindSpec)) walBlindUptoCard
end Rows
end Go.Proofs.YtndfhmlcfaaaiaaGreatDoor
