/-
  DERIVED. GIVEN WITH THE SEED: THE CARDS: each row of YtmnkbbfpdohpkabDoorRows.lean that lists a variable, with what it lists TIED to the program's text (the seventh form; the later family's looks); each row that meets fmt, with fmt's text TOLD by the authors' own Lean function (tested against real Go, not proved from fmt's source: count such statements apart). THE CARD IS WHAT COUNTS. Prove the row's statement (the work); the ties are given (YtmnkbbfpdohpkabDoorTie.lean); close each card by the builder's one call (the guide's Derived/Test/ToyasCard.lean, 'card_holds'). Laid BY PROGRAM, IN A SANDBOX (cutbox-door.mjs). By AI agents, Wed Nov 11 2026. No macro, syntax, notation, axiom, sorry.
-/
import Derived.Test.YtmnkbbfpdohpkabDoorRows
import GoSem.ClaimSeven
namespace Go.Proofs.YtmnkbbfpdohpkabDoor
namespace Rows

/-- THE TIED CARD OF 'ciboriumlaw01.OctetOne'. -/
def octetOneCard : Claim7 := { stood := { row := octetOneRow, standIns := [], harness := (true, "306fda71bf2bf37a903e7bdfacb277bf0d4b962f7f67eaf6bf1ca9dfbdd27701"), looks := true }, kinds := [], alts := [], laidByText := true, laidKinds := [.data, .data, .data, .sentinel, .sentinel, .data], laidTests := true, laidLooks := .later }
def OctetOneCardSaid : Prop := Claim7.holds Tryd.pinned (.plain (OpenSpec.ofChange octetOneSpec)) octetOneCard

/-- THE SECOND FORM's CARD OF 'ciboriumlaw01.OctetOne'. -/
def octetOneUptoCard : Claim7 := { stood := { row := octetOneUptoRow, standIns := [], harness := (true, "306fda71bf2bf37a903e7bdfacb277bf0d4b962f7f67eaf6bf1ca9dfbdd27701"), looks := true }, kinds := [], alts := [], laidByText := true, laidKinds := [.data, .data, .data, .sentinel, .sentinel, .data], laidTests := true, laidLooks := .later }
def OctetOneUptoCardSaid : Prop := Claim7.holds Tryd.pinned (.plain (OpenSpec.upto octetOneSpec)) octetOneUptoCard
end Rows
end Go.Proofs.YtmnkbbfpdohpkabDoor
