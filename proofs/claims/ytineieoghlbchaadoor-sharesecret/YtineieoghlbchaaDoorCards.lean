/-
  DERIVED. GIVEN WITH THE SEED: THE CARDS: each row of YtineieoghlbchaaDoorRows.lean that lists a variable, with what it lists TIED to the program's text (the seventh form; the later family's looks); each row that meets fmt, with fmt's text TOLD by the authors' own Lean function (tested against real Go, not proved from fmt's source: count such statements apart). THE CARD IS WHAT COUNTS. Prove the row's statement (the work); the ties are given (YtineieoghlbchaaDoorTie.lean); close each card by the builder's one call (the guide's Derived/Test/ToyasCard.lean, 'card_holds'). Laid BY PROGRAM, IN A SANDBOX (cutbox-door.mjs). By AI agents, Wed Nov 11 2026. No macro, syntax, notation, axiom, sorry.
-/
import Derived.Test.YtineieoghlbchaaDoorRows
import GoSem.ClaimSeven
namespace Go.Proofs.YtineieoghlbchaaDoor
namespace Rows

/-- THE TIED CARD OF 'ciboriumlaw04.ShareSplits'. -/
def shareSplitsCard : Claim7 := { stood := { row := shareSplitsRow, standIns := [], harness := (true, "0074b5d88607b0a0db43271dd76a12606bdf744964e879fb4e70b9f499409883"), looks := false }, kinds := [], alts := [], laidByText := true, laidKinds := [.data], laidTests := true, laidLooks := .later }
def ShareSplitsCardSaid : Prop := Claim7.holds Tryd.pinned (.plain (OpenSpec.ofChange shareSplitsSpec)) shareSplitsCard

/-- THE TIED CARD OF 'ciboriumlaw04.ShareCombines'. -/
def shareCombinesCard : Claim7 := { stood := { row := shareCombinesRow, standIns := [], harness := (true, "0074b5d88607b0a0db43271dd76a12606bdf744964e879fb4e70b9f499409883"), looks := false }, kinds := [], alts := [], laidByText := true, laidKinds := [.data], laidTests := true, laidLooks := .later }
def ShareCombinesCardSaid : Prop := Claim7.holds Tryd.pinned (.plain (OpenSpec.ofChange shareCombinesSpec)) shareCombinesCard

/-- THE TIED CARD OF 'ciboriumlaw04.ShareTexts'. -/
def shareTextsCard : Claim7 := { stood := { row := shareTextsRow, standIns := [], harness := (true, "0074b5d88607b0a0db43271dd76a12606bdf744964e879fb4e70b9f499409883"), looks := false }, kinds := [], alts := [], laidByText := true, laidKinds := [.data], laidTests := true, laidLooks := .later }
def ShareTextsCardSaid : Prop := Claim7.holds Tryd.pinned (.plain (OpenSpec.ofChange shareTextsSpec)) shareTextsCard

/-- THE TIED CARD OF 'ciboriumlaw04.ShareBack'. -/
def shareBackCard : Claim7 := { stood := { row := shareBackRow, standIns := [], harness := (true, "0074b5d88607b0a0db43271dd76a12606bdf744964e879fb4e70b9f499409883"), looks := false }, kinds := [], alts := [], laidByText := true, laidKinds := [.data], laidTests := true, laidLooks := .later }
def ShareBackCardSaid : Prop := Claim7.holds Tryd.pinned (.plain (OpenSpec.ofChange shareBackSpec)) shareBackCard

/-- THE TIED CARD OF 'ciboriumlaw04.ShareSecret'. -/
def shareSecretCard : Claim7 := { stood := { row := shareSecretRow, standIns := [], harness := (true, "0074b5d88607b0a0db43271dd76a12606bdf744964e879fb4e70b9f499409883"), looks := false }, kinds := [], alts := [], laidByText := true, laidKinds := [.data], laidTests := true, laidLooks := .later }
def ShareSecretCardSaid : Prop := Claim7.holds Tryd.pinned (.plain (OpenSpec.ofChange shareSecretSpec)) shareSecretCard

/-- THE SECOND FORM's CARD OF 'ciboriumlaw04.ShareSplits'. -/
def shareSplitsUptoCard : Claim7 := { stood := { row := shareSplitsUptoRow, standIns := [], harness := (true, "0074b5d88607b0a0db43271dd76a12606bdf744964e879fb4e70b9f499409883"), looks := false }, kinds := [], alts := [], laidByText := true, laidKinds := [.data], laidTests := true, laidLooks := .later }
def ShareSplitsUptoCardSaid : Prop := Claim7.holds Tryd.pinned (.plain (OpenSpec.upto shareSplitsSpec)) shareSplitsUptoCard

/-- THE SECOND FORM's CARD OF 'ciboriumlaw04.ShareCombines'. -/
def shareCombinesUptoCard : Claim7 := { stood := { row := shareCombinesUptoRow, standIns := [], harness := (true, "0074b5d88607b0a0db43271dd76a12606bdf744964e879fb4e70b9f499409883"), looks := false }, kinds := [], alts := [], laidByText := true, laidKinds := [.data], laidTests := true, laidLooks := .later }
def ShareCombinesUptoCardSaid : Prop := Claim7.holds Tryd.pinned (.plain (OpenSpec.upto shareCombinesSpec)) shareCombinesUptoCard

/-- THE SECOND FORM's CARD OF 'ciboriumlaw04.ShareTexts'. -/
def shareTextsUptoCard : Claim7 := { stood := { row := shareTextsUptoRow, standIns := [], harness := (true, "0074b5d88607b0a0db43271dd76a12606bdf744964e879fb4e70b9f499409883"), looks := false }, kinds := [], alts := [], laidByText := true, laidKinds := [.data], laidTests := true, laidLooks := .later }
def ShareTextsUptoCardSaid : Prop := Claim7.holds Tryd.pinned (.plain (OpenSpec.upto shareTextsSpec)) shareTextsUptoCard

/-- THE SECOND FORM's CARD OF 'ciboriumlaw04.ShareBack'. -/
def shareBackUptoCard : Claim7 := { stood := { row := shareBackUptoRow, standIns := [], harness := (true, "0074b5d88607b0a0db43271dd76a12606bdf744964e879fb4e70b9f499409883"), looks := false }, kinds := [], alts := [], laidByText := true, laidKinds := [.data], laidTests := true, laidLooks := .later }
def ShareBackUptoCardSaid : Prop := Claim7.holds Tryd.pinned (.plain (OpenSpec.upto shareBackSpec)) shareBackUptoCard

/-- THE SECOND FORM's CARD OF 'ciboriumlaw04.ShareSecret'. -/
def shareSecretUptoCard : Claim7 := { stood := { row := shareSecretUptoRow, standIns := [], harness := (true, "0074b5d88607b0a0db43271dd76a12606bdf744964e879fb4e70b9f499409883"), looks := false }, kinds := [], alts := [], laidByText := true, laidKinds := [.data], laidTests := true, laidLooks := .later }
def ShareSecretUptoCardSaid : Prop := Claim7.holds Tryd.pinned (.plain (OpenSpec.upto shareSecretSpec)) shareSecretUptoCard
end Rows
end Go.Proofs.YtineieoghlbchaaDoor
