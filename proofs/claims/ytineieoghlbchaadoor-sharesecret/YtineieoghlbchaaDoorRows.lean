/-
  NARROWER THAN 'FOR EVERY INPUT', by the rows' own cells (each row's printed sentence says how): ShareSplits: laid · ShareCombines: laid · ShareTexts: laid · ShareBack: laid · ShareSecret: laid.
  DERIVED. THE GIVEN ROWS OF THIS SEAT. 5 by the template 'for every input the law returns true; each argument reads behind the call as it read before'; 0 by the template 'total and deterministic' (their statements: YtineieoghlbchaaDoorTotals.lean).
  GIVEN WITH THE SEED: the statements are not yours to turn. If you find one false, say at which input.
  Laid BY PROGRAM, IN A SANDBOX (cutbox-rows.mjs): the forced cells as the released guide's own fill.sh prints them over the translation dd749ecbbb143895… (all of the seat's roots in one cut). By AI agents, Wed Nov 11 2026. No macro, syntax, notation, axiom, sorry.
-/
import Derived.Test.YtineieoghlbchaaDoorChecked
import GoSem.Claim
import GoSem.ClaimJoined
import GoSem.ClaimMapViews
import Derived.JoinedTies
import Derived.KernelRfl
namespace Go.Proofs.YtineieoghlbchaaDoor
/- THE CELL 'sum', in the pinned program and in every row, IS THE sha256 OF THE DUMP (.gsa) THAT YtineieoghlbchaaDoorProg.lean LOADS. Nothing in Lean hashes anything: it is a label: what it is worth is what the hold of that sum in a sandbox is worth. -/
noncomputable def Tryd.pinned : Pinned := { name := "ytineieoghlbchaadoor", sum := "dd749ecbbb1438958f8c94a18af5e675fbd7800a07d6ccd0ce65b8aff708acbf", checked := Tryd.checked }
namespace Rows
def none {H : Type} : Left H := { results := [], args := [] }

/- WHAT THE LISTED PACKAGE-LEVEL VARIABLES READ AS WHEN THE CALL BEGINS. Each datum BY PROGRAM (the guide's laid-datum.mjs) off the statement by which the dump's own 'gosem.cut.vars' lays the variable. In a bare row this is a premise. The card (YtineieoghlbchaaDoorCards.lean) ties it to the program's text. -/
def laid_ciborium_octet_hexDigits {H : Type} : DataW H := .agg [.lit (.int .u8 48), .lit (.int .u8 49), .lit (.int .u8 50), .lit (.int .u8 51), .lit (.int .u8 52), .lit (.int .u8 53), .lit (.int .u8 54), .lit (.int .u8 55), .lit (.int .u8 56), .lit (.int .u8 57), .lit (.int .u8 97), .lit (.int .u8 98), .lit (.int .u8 99), .lit (.int .u8 100), .lit (.int .u8 101), .lit (.int .u8 102)]

/-- 'ciboriumlaw04.ShareSplits': WHATEVER THE INPUT: true; the input reads as it did. -/
def shareSplitsSpec : ChangeSpec := { name := "shareSplits", fn := fun _ => fun
  | [d] => { results := [.lit (.bool true)], args := [d] }
  | _ => none }
def shareSplitsRow : OpenClaim := { program := "ytineieoghlbchaadoor", sum := "dd749ecbbb1438958f8c94a18af5e675fbd7800a07d6ccd0ce65b8aff708acbf", func := "ciborium/ciboriumlaw04.ShareSplits", spec := "shareSplits", inPlace := ["slices.overlaps[byte]"], unfollowed := true, recurses := true, named := ["ciborium/octet.hexDigits"], apart := false, laid := [("ciborium/octet.hexDigits", laid_ciborium_octet_hexDigits)] }
def ShareSplitsSaid : Prop := shareSplitsRow.holds Tryd.pinned (OpenSpec.ofChange shareSplitsSpec)

/-- ITS FALSE NEIGHBOUR: 'it returns false'. Refute it at one input. -/
def shareSplitsWrong : ChangeSpec := { name := "shareSplits", fn := fun _ => fun
  | [d] => { results := [.lit (.bool false)], args := [d] }
  | _ => none }
def ShareSplitsWrongFalsely : Prop := shareSplitsRow.holds Tryd.pinned (OpenSpec.ofChange shareSplitsWrong)

/-- 'ciboriumlaw04.ShareCombines': WHATEVER THE INPUT: true; the input reads as it did. -/
def shareCombinesSpec : ChangeSpec := { name := "shareCombines", fn := fun _ => fun
  | [d1, d2] => { results := [.lit (.bool true)], args := [d1, d2] }
  | _ => none }
def shareCombinesRow : OpenClaim := { program := "ytineieoghlbchaadoor", sum := "dd749ecbbb1438958f8c94a18af5e675fbd7800a07d6ccd0ce65b8aff708acbf", func := "ciborium/ciboriumlaw04.ShareCombines", spec := "shareCombines", inPlace := ["slices.overlaps[byte]"], unfollowed := true, recurses := true, named := ["ciborium/octet.hexDigits"], apart := false, laid := [("ciborium/octet.hexDigits", laid_ciborium_octet_hexDigits)] }
def ShareCombinesSaid : Prop := shareCombinesRow.holds Tryd.pinned (OpenSpec.ofChange shareCombinesSpec)

/-- ITS FALSE NEIGHBOUR: 'it returns false'. Refute it at one input. -/
def shareCombinesWrong : ChangeSpec := { name := "shareCombines", fn := fun _ => fun
  | [d1, d2] => { results := [.lit (.bool false)], args := [d1, d2] }
  | _ => none }
def ShareCombinesWrongFalsely : Prop := shareCombinesRow.holds Tryd.pinned (OpenSpec.ofChange shareCombinesWrong)

/-- 'ciboriumlaw04.ShareTexts': WHATEVER THE INPUT: true; the input reads as it did. -/
def shareTextsSpec : ChangeSpec := { name := "shareTexts", fn := fun _ => fun
  | [d1, d2] => { results := [.lit (.bool true)], args := [d1, d2] }
  | _ => none }
def shareTextsRow : OpenClaim := { program := "ytineieoghlbchaadoor", sum := "dd749ecbbb1438958f8c94a18af5e675fbd7800a07d6ccd0ce65b8aff708acbf", func := "ciborium/ciboriumlaw04.ShareTexts", spec := "shareTexts", inPlace := ["slices.overlaps[byte]"], unfollowed := true, recurses := true, named := ["ciborium/octet.hexDigits"], apart := false, laid := [("ciborium/octet.hexDigits", laid_ciborium_octet_hexDigits)] }
def ShareTextsSaid : Prop := shareTextsRow.holds Tryd.pinned (OpenSpec.ofChange shareTextsSpec)

/-- ITS FALSE NEIGHBOUR: 'it returns false'. Refute it at one input. -/
def shareTextsWrong : ChangeSpec := { name := "shareTexts", fn := fun _ => fun
  | [d1, d2] => { results := [.lit (.bool false)], args := [d1, d2] }
  | _ => none }
def ShareTextsWrongFalsely : Prop := shareTextsRow.holds Tryd.pinned (OpenSpec.ofChange shareTextsWrong)

/-- 'ciboriumlaw04.ShareBack': WHATEVER THE INPUT: true; the input reads as it did. -/
def shareBackSpec : ChangeSpec := { name := "shareBack", fn := fun _ => fun
  | [d] => { results := [.lit (.bool true)], args := [d] }
  | _ => none }
def shareBackRow : OpenClaim := { program := "ytineieoghlbchaadoor", sum := "dd749ecbbb1438958f8c94a18af5e675fbd7800a07d6ccd0ce65b8aff708acbf", func := "ciborium/ciboriumlaw04.ShareBack", spec := "shareBack", inPlace := ["slices.overlaps[byte]"], unfollowed := true, recurses := true, named := ["ciborium/octet.hexDigits"], apart := false, laid := [("ciborium/octet.hexDigits", laid_ciborium_octet_hexDigits)] }
def ShareBackSaid : Prop := shareBackRow.holds Tryd.pinned (OpenSpec.ofChange shareBackSpec)

/-- ITS FALSE NEIGHBOUR: 'it returns false'. Refute it at one input. -/
def shareBackWrong : ChangeSpec := { name := "shareBack", fn := fun _ => fun
  | [d] => { results := [.lit (.bool false)], args := [d] }
  | _ => none }
def ShareBackWrongFalsely : Prop := shareBackRow.holds Tryd.pinned (OpenSpec.ofChange shareBackWrong)

/-- 'ciboriumlaw04.ShareSecret': WHATEVER THE INPUT: true; the input reads as it did. -/
def shareSecretSpec : ChangeSpec := { name := "shareSecret", fn := fun _ => fun
  | [d] => { results := [.lit (.bool true)], args := [d] }
  | _ => none }
def shareSecretRow : OpenClaim := { program := "ytineieoghlbchaadoor", sum := "dd749ecbbb1438958f8c94a18af5e675fbd7800a07d6ccd0ce65b8aff708acbf", func := "ciborium/ciboriumlaw04.ShareSecret", spec := "shareSecret", inPlace := ["slices.overlaps[byte]"], unfollowed := true, recurses := true, named := ["ciborium/octet.hexDigits"], apart := false, laid := [("ciborium/octet.hexDigits", laid_ciborium_octet_hexDigits)] }
def ShareSecretSaid : Prop := shareSecretRow.holds Tryd.pinned (OpenSpec.ofChange shareSecretSpec)

/-- ITS FALSE NEIGHBOUR: 'it returns false'. Refute it at one input. -/
def shareSecretWrong : ChangeSpec := { name := "shareSecret", fn := fun _ => fun
  | [d] => { results := [.lit (.bool false)], args := [d] }
  | _ => none }
def ShareSecretWrongFalsely : Prop := shareSecretRow.holds Tryd.pinned (OpenSpec.ofChange shareSecretWrong)

/- THE SECOND FORM. 'bulk': how many values and letters a reading holds, each counted each time it is reached (what is shared counts as often as it is met; a slice's spare places count too). A statement '..UptoSaid' is the law's where the arguments, and the package variables that the reading takes, are together of bulk at most 1048576: NARROWER than '..Said'. Prove '..Said' where nothing that the law and all that it calls make is longer than what came in: it says more and counts as full. Else prove '..UptoSaid'. A law counts once. -/
mutual
def uptoBulk {H : Type} : DataW H → Nat
  | .lit (.string bytes) => bytes.length + 1
  | .lit _ => 1
  | .nil => 1
  | .ptr d => uptoBulk d + 1
  | .slice elems spare => uptoBulkAll elems + uptoBulkAll spare + 1
  | .agg parts => uptoBulkAll parts + 1
  | .iface _ d => uptoBulk d + 1
  | .map entries => uptoBulkEntries entries + 1
  | .held _ => 1
def uptoBulkAll {H : Type} : List (DataW H) → Nat
  | [] => 0
  | d :: r => uptoBulk d + uptoBulkAll r
def uptoBulkEntries {H : Type} : List (Lit × DataW H) → Nat
  | [] => 0
  | x :: r => uptoBulkEntry x + uptoBulkEntries r
def uptoBulkEntry {H : Type} : Lit × DataW H → Nat
  | (.string bytes, d) => bytes.length + uptoBulk d + 1
  | (_, d) => uptoBulk d + 1
 end
def uptoSmall : (H : Type) → List (DataW H) → Bool := fun _ ds => decide (uptoBulkAll ds ≤ 1048576)
def OpenSpec.upto (s : _root_.Go.ChangeSpec) : _root_.Go.OpenSpec := { _root_.Go.OpenSpec.ofChange s with cond := some uptoSmall }

/-- 'ciboriumlaw04.ShareSplits', WHERE WHAT IT READS IS OF BULK AT MOST 1048576: true; the input reads as it did. -/
def shareSplitsUptoRow : OpenClaim := { program := "ytineieoghlbchaadoor", sum := "dd749ecbbb1438958f8c94a18af5e675fbd7800a07d6ccd0ce65b8aff708acbf", func := "ciborium/ciboriumlaw04.ShareSplits", spec := "shareSplits", inPlace := ["slices.overlaps[byte]"], unfollowed := true, recurses := true, named := ["ciborium/octet.hexDigits"], apart := false, laid := [("ciborium/octet.hexDigits", laid_ciborium_octet_hexDigits)], narrowed := true }
def ShareSplitsUptoSaid : Prop := shareSplitsUptoRow.holds Tryd.pinned (OpenSpec.upto shareSplitsSpec)

/-- 'ciboriumlaw04.ShareCombines', WHERE WHAT IT READS IS OF BULK AT MOST 1048576: true; the input reads as it did. -/
def shareCombinesUptoRow : OpenClaim := { program := "ytineieoghlbchaadoor", sum := "dd749ecbbb1438958f8c94a18af5e675fbd7800a07d6ccd0ce65b8aff708acbf", func := "ciborium/ciboriumlaw04.ShareCombines", spec := "shareCombines", inPlace := ["slices.overlaps[byte]"], unfollowed := true, recurses := true, named := ["ciborium/octet.hexDigits"], apart := false, laid := [("ciborium/octet.hexDigits", laid_ciborium_octet_hexDigits)], narrowed := true }
def ShareCombinesUptoSaid : Prop := shareCombinesUptoRow.holds Tryd.pinned (OpenSpec.upto shareCombinesSpec)

/-- 'ciboriumlaw04.ShareTexts', WHERE WHAT IT READS IS OF BULK AT MOST 1048576: true; the input reads as it did. -/
def shareTextsUptoRow : OpenClaim := { program := "ytineieoghlbchaadoor", sum := "dd749ecbbb1438958f8c94a18af5e675fbd7800a07d6ccd0ce65b8aff708acbf", func := "ciborium/ciboriumlaw04.ShareTexts", spec := "shareTexts", inPlace := ["slices.overlaps[byte]"], unfollowed := true, recurses := true, named := ["ciborium/octet.hexDigits"], apart := false, laid := [("ciborium/octet.hexDigits", laid_ciborium_octet_hexDigits)], narrowed := true }
def ShareTextsUptoSaid : Prop := shareTextsUptoRow.holds Tryd.pinned (OpenSpec.upto shareTextsSpec)

/-- 'ciboriumlaw04.ShareBack', WHERE WHAT IT READS IS OF BULK AT MOST 1048576: true; the input reads as it did. -/
def shareBackUptoRow : OpenClaim := { program := "ytineieoghlbchaadoor", sum := "dd749ecbbb1438958f8c94a18af5e675fbd7800a07d6ccd0ce65b8aff708acbf", func := "ciborium/ciboriumlaw04.ShareBack", spec := "shareBack", inPlace := ["slices.overlaps[byte]"], unfollowed := true, recurses := true, named := ["ciborium/octet.hexDigits"], apart := false, laid := [("ciborium/octet.hexDigits", laid_ciborium_octet_hexDigits)], narrowed := true }
def ShareBackUptoSaid : Prop := shareBackUptoRow.holds Tryd.pinned (OpenSpec.upto shareBackSpec)

/-- 'ciboriumlaw04.ShareSecret', WHERE WHAT IT READS IS OF BULK AT MOST 1048576: true; the input reads as it did. -/
def shareSecretUptoRow : OpenClaim := { program := "ytineieoghlbchaadoor", sum := "dd749ecbbb1438958f8c94a18af5e675fbd7800a07d6ccd0ce65b8aff708acbf", func := "ciborium/ciboriumlaw04.ShareSecret", spec := "shareSecret", inPlace := ["slices.overlaps[byte]"], unfollowed := true, recurses := true, named := ["ciborium/octet.hexDigits"], apart := false, laid := [("ciborium/octet.hexDigits", laid_ciborium_octet_hexDigits)], narrowed := true }
def ShareSecretUptoSaid : Prop := shareSecretUptoRow.holds Tryd.pinned (OpenSpec.upto shareSecretSpec)

end Rows
end Go.Proofs.YtineieoghlbchaaDoor
