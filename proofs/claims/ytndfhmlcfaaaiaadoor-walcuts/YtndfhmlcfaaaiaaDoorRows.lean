/-
  NARROWER THAN 'FOR EVERY INPUT', by the rows' own cells (each row's printed sentence says how): WalNil: laid · WalLasts: laid · WalCuts: laid · WalFrames: laid.
  DERIVED. THE GIVEN ROWS OF THIS SEAT. 4 by the template 'for every input the law returns true; each argument reads behind the call as it read before'; 0 by the template 'total and deterministic' (their statements: YtndfhmlcfaaaiaaDoorTotals.lean).
  GIVEN WITH THE SEED: the statements are not yours to turn. If you find one false, say at which input.
  Laid BY PROGRAM, IN A SANDBOX (cutbox-rows.mjs): the forced cells as the released guide's own fill.sh prints them over the translation 050401edc09e71e2… (all of the seat's roots in one cut). By AI agents, Wed Nov 11 2026. No macro, syntax, notation, axiom, sorry.
-/
import Derived.Test.YtndfhmlcfaaaiaaDoorChecked
import GoSem.Claim
import GoSem.ClaimJoined
import GoSem.ClaimMapViews
import Derived.JoinedTies
import Derived.KernelRfl
namespace Go.Proofs.YtndfhmlcfaaaiaaDoor
/- THE CELL 'sum', in the pinned program and in every row, IS THE sha256 OF THE DUMP (.gsa) THAT YtndfhmlcfaaaiaaDoorProg.lean LOADS. Nothing in Lean hashes anything: it is a label: what it is worth is what the hold of that sum in a sandbox is worth. -/
noncomputable def Tryd.pinned : Pinned := { name := "ytndfhmlcfaaaiaadoor", sum := "050401edc09e71e297348785af8eb56e05c17e94e82fc2e942c51da781c7ce91", checked := Tryd.checked }
namespace Rows
def none {H : Type} : Left H := { results := [], args := [] }

/- WHAT THE LISTED PACKAGE-LEVEL VARIABLES READ AS WHEN THE CALL BEGINS. Each datum BY PROGRAM (the guide's laid-datum.mjs) off the statement by which the dump's own 'gosem.cut.vars' lays the variable. In a bare row this is a premise. The card (YtndfhmlcfaaaiaaDoorCards.lean) ties it to the program's text. -/
def laid_ciborium_wal_lowTurns {H : Type} : DataW H := .agg [.lit (.int .u32 0), .lit (.int .u32 4067132163), .lit (.int .u32 3778769143), .lit (.int .u32 324072436), .lit (.int .u32 3348797215), .lit (.int .u32 904991772), .lit (.int .u32 648144872), .lit (.int .u32 3570033899), .lit (.int .u32 2329499855), .lit (.int .u32 2024987596), .lit (.int .u32 1809983544), .lit (.int .u32 2575936315), .lit (.int .u32 1296289744), .lit (.int .u32 3207089363), .lit (.int .u32 2893594407), .lit (.int .u32 1578318884)]
def laid_ciborium_wal_highTurns {H : Type} : DataW H := .agg [.lit (.int .u32 0), .lit (.int .u32 274646895), .lit (.int .u32 549293790), .lit (.int .u32 820201905), .lit (.int .u32 1098587580), .lit (.int .u32 1361435347), .lit (.int .u32 1640403810), .lit (.int .u32 1905808397), .lit (.int .u32 2197175160), .lit (.int .u32 2460548119), .lit (.int .u32 2722870694), .lit (.int .u32 2987750089), .lit (.int .u32 3280807620), .lit (.int .u32 3553878443), .lit (.int .u32 3811616794), .lit (.int .u32 4084100981)]

/-- 'ciboriumlaw08.WalNil': WHATEVER THE INPUT: true; the input reads as it did. -/
def walNilSpec : ChangeSpec := { name := "walNil", fn := fun _ => fun
  | [d1, d2] => { results := [.lit (.bool true)], args := [d1, d2] }
  | _ => none }
def walNilRow : OpenClaim := { program := "ytndfhmlcfaaaiaadoor", sum := "050401edc09e71e297348785af8eb56e05c17e94e82fc2e942c51da781c7ce91", func := "ciborium/ciboriumlaw08.WalNil", spec := "walNil", unfollowed := true, recurses := true, named := ["ciborium/wal.lowTurns", "ciborium/wal.highTurns"], apart := false, laid := [("ciborium/wal.lowTurns", laid_ciborium_wal_lowTurns), ("ciborium/wal.highTurns", laid_ciborium_wal_highTurns)] }
def WalNilSaid : Prop := walNilRow.holds Tryd.pinned (OpenSpec.ofChange walNilSpec)

/-- ITS FALSE NEIGHBOUR: 'it returns false'. Refute it at one input. -/
def walNilWrong : ChangeSpec := { name := "walNil", fn := fun _ => fun
  | [d1, d2] => { results := [.lit (.bool false)], args := [d1, d2] }
  | _ => none }
def WalNilWrongFalsely : Prop := walNilRow.holds Tryd.pinned (OpenSpec.ofChange walNilWrong)

/-- 'ciboriumlaw08.WalLasts': WHATEVER THE INPUT: true; the input reads as it did. -/
def walLastsSpec : ChangeSpec := { name := "walLasts", fn := fun _ => fun
  | [d1, d2] => { results := [.lit (.bool true)], args := [d1, d2] }
  | _ => none }
def walLastsRow : OpenClaim := { program := "ytndfhmlcfaaaiaadoor", sum := "050401edc09e71e297348785af8eb56e05c17e94e82fc2e942c51da781c7ce91", func := "ciborium/ciboriumlaw08.WalLasts", spec := "walLasts", unfollowed := true, recurses := true, named := ["ciborium/wal.lowTurns", "ciborium/wal.highTurns"], apart := false, laid := [("ciborium/wal.lowTurns", laid_ciborium_wal_lowTurns), ("ciborium/wal.highTurns", laid_ciborium_wal_highTurns)] }
def WalLastsSaid : Prop := walLastsRow.holds Tryd.pinned (OpenSpec.ofChange walLastsSpec)

/-- ITS FALSE NEIGHBOUR: 'it returns false'. Refute it at one input. -/
def walLastsWrong : ChangeSpec := { name := "walLasts", fn := fun _ => fun
  | [d1, d2] => { results := [.lit (.bool false)], args := [d1, d2] }
  | _ => none }
def WalLastsWrongFalsely : Prop := walLastsRow.holds Tryd.pinned (OpenSpec.ofChange walLastsWrong)

/-- 'ciboriumlaw08.WalCuts': WHATEVER THE INPUT: true; the input reads as it did. -/
def walCutsSpec : ChangeSpec := { name := "walCuts", fn := fun _ => fun
  | [d1, d2, d3, d4] => { results := [.lit (.bool true)], args := [d1, d2, d3, d4] }
  | _ => none }
def walCutsRow : OpenClaim := { program := "ytndfhmlcfaaaiaadoor", sum := "050401edc09e71e297348785af8eb56e05c17e94e82fc2e942c51da781c7ce91", func := "ciborium/ciboriumlaw08.WalCuts", spec := "walCuts", unfollowed := true, recurses := true, named := ["ciborium/wal.lowTurns", "ciborium/wal.highTurns"], apart := false, laid := [("ciborium/wal.lowTurns", laid_ciborium_wal_lowTurns), ("ciborium/wal.highTurns", laid_ciborium_wal_highTurns)] }
def WalCutsSaid : Prop := walCutsRow.holds Tryd.pinned (OpenSpec.ofChange walCutsSpec)

/-- ITS FALSE NEIGHBOUR: 'it returns false'. Refute it at one input. -/
def walCutsWrong : ChangeSpec := { name := "walCuts", fn := fun _ => fun
  | [d1, d2, d3, d4] => { results := [.lit (.bool false)], args := [d1, d2, d3, d4] }
  | _ => none }
def WalCutsWrongFalsely : Prop := walCutsRow.holds Tryd.pinned (OpenSpec.ofChange walCutsWrong)

/-- 'ciboriumlaw08.WalFrames': WHATEVER THE INPUT: true; the input reads as it did. -/
def walFramesSpec : ChangeSpec := { name := "walFrames", fn := fun _ => fun
  | [d1, d2] => { results := [.lit (.bool true)], args := [d1, d2] }
  | _ => none }
def walFramesRow : OpenClaim := { program := "ytndfhmlcfaaaiaadoor", sum := "050401edc09e71e297348785af8eb56e05c17e94e82fc2e942c51da781c7ce91", func := "ciborium/ciboriumlaw08.WalFrames", spec := "walFrames", unfollowed := true, recurses := true, named := ["ciborium/wal.lowTurns", "ciborium/wal.highTurns"], apart := false, laid := [("ciborium/wal.lowTurns", laid_ciborium_wal_lowTurns), ("ciborium/wal.highTurns", laid_ciborium_wal_highTurns)] }
def WalFramesSaid : Prop := walFramesRow.holds Tryd.pinned (OpenSpec.ofChange walFramesSpec)

/-- ITS FALSE NEIGHBOUR: 'it returns false'. Refute it at one input. -/
def walFramesWrong : ChangeSpec := { name := "walFrames", fn := fun _ => fun
  | [d1, d2] => { results := [.lit (.bool false)], args := [d1, d2] }
  | _ => none }
def WalFramesWrongFalsely : Prop := walFramesRow.holds Tryd.pinned (OpenSpec.ofChange walFramesWrong)

/- THE SECOND FORM. 'bulk': how many values and letters a reading holds, each counted each time it is reached (what is shared counts as often as it is met; a slice's spare places count too). A statement '..UptoSaid' is the law's where the arguments, and the package variables that the reading takes, are together of bulk at most 1048576: NARROWER than '..Said'. Prove '..Said' where nothing that the law and all that it calls make is longer than what came in: it says more and counts as full. Else prove '..UptoSaid'. A law counts once. -/
mutual
def uptoBulk {H : Type} : DataW H → Nat
  | .lit (.string bytes) => bytes.length + 1
  | .lit _ => 1
  | .nil => 1
  | .ptr d => uptoBulk d + 1
  | .slice elems spare => uptoBulkAll elems + uptoBulkAll spare + 1
  | .agg parts => uptoBulkAll parts + 1
  | .iface _ d => uptoBulk d + 1
  | .map entries => uptoBulkEntries entries + 1
  | .held _ => 1
def uptoBulkAll {H : Type} : List (DataW H) → Nat
  | [] => 0
  | d :: r => uptoBulk d + uptoBulkAll r
def uptoBulkEntries {H : Type} : List (Lit × DataW H) → Nat
  | [] => 0
  | x :: r => uptoBulkEntry x + uptoBulkEntries r
def uptoBulkEntry {H : Type} : Lit × DataW H → Nat
  | (.string bytes, d) => bytes.length + uptoBulk d + 1
  | (_, d) => uptoBulk d + 1
 end
def uptoSmall : (H : Type) → List (DataW H) → Bool := fun _ ds => decide (uptoBulkAll ds ≤ 1048576)
def OpenSpec.upto (s : _root_.Go.ChangeSpec) : _root_.Go.OpenSpec := { _root_.Go.OpenSpec.ofChange s with cond := some uptoSmall }

/-- 'ciboriumlaw08.WalNil', WHERE WHAT IT READS IS OF BULK AT MOST 1048576: true; the input reads as it did. -/
def walNilUptoRow : OpenClaim := { program := "ytndfhmlcfaaaiaadoor", sum := "050401edc09e71e297348785af8eb56e05c17e94e82fc2e942c51da781c7ce91", func := "ciborium/ciboriumlaw08.WalNil", spec := "walNil", unfollowed := true, recurses := true, named := ["ciborium/wal.lowTurns", "ciborium/wal.highTurns"], apart := false, laid := [("ciborium/wal.lowTurns", laid_ciborium_wal_lowTurns), ("ciborium/wal.highTurns", laid_ciborium_wal_highTurns)], narrowed := true }
def WalNilUptoSaid : Prop := walNilUptoRow.holds Tryd.pinned (OpenSpec.upto walNilSpec)

/-- 'ciboriumlaw08.WalLasts', WHERE WHAT IT READS IS OF BULK AT MOST 1048576: true; the input reads as it did. -/
def walLastsUptoRow : OpenClaim := { program := "ytndfhmlcfaaaiaadoor", sum := "050401edc09e71e297348785af8eb56e05c17e94e82fc2e942c51da781c7ce91", func := "ciborium/ciboriumlaw08.WalLasts", spec := "walLasts", unfollowed := true, recurses := true, named := ["ciborium/wal.lowTurns", "ciborium/wal.highTurns"], apart := false, laid := [("ciborium/wal.lowTurns", laid_ciborium_wal_lowTurns), ("ciborium/wal.highTurns", laid_ciborium_wal_highTurns)], narrowed := true }
def WalLastsUptoSaid : Prop := walLastsUptoRow.holds Tryd.pinned (OpenSpec.upto walLastsSpec)

/-- 'ciboriumlaw08.WalCuts', WHERE WHAT IT READS IS OF BULK AT MOST 1048576: true; the input reads as it did. -/
def walCutsUptoRow : OpenClaim := { program := "ytndfhmlcfaaaiaadoor", sum := "050401edc09e71e297348785af8eb56e05c17e94e82fc2e942c51da781c7ce91", func := "ciborium/ciboriumlaw08.WalCuts", spec := "walCuts", unfollowed := true, recurses := true, named := ["ciborium/wal.lowTurns", "ciborium/wal.highTurns"], apart := false, laid := [("ciborium/wal.lowTurns", laid_ciborium_wal_lowTurns), ("ciborium/wal.highTurns", laid_ciborium_wal_highTurns)], narrowed := true }
def WalCutsUptoSaid : Prop := walCutsUptoRow.holds Tryd.pinned (OpenSpec.upto walCutsSpec)

/-- 'ciboriumlaw08.WalFrames', WHERE WHAT IT READS IS OF BULK AT MOST 1048576: true; the input reads as it did. -/
def walFramesUptoRow : OpenClaim := { program := "ytndfhmlcfaaaiaadoor", sum := "050401edc09e71e297348785af8eb56e05c17e94e82fc2e942c51da781c7ce91", func := "ciborium/ciboriumlaw08.WalFrames", spec := "walFrames", unfollowed := true, recurses := true, named := ["ciborium/wal.lowTurns", "ciborium/wal.highTurns"], apart := false, laid := [("ciborium/wal.lowTurns", laid_ciborium_wal_lowTurns), ("ciborium/wal.highTurns", laid_ciborium_wal_highTurns)], narrowed := true }
def WalFramesUptoSaid : Prop := walFramesUptoRow.holds Tryd.pinned (OpenSpec.upto walFramesSpec)

end Rows
end Go.Proofs.YtndfhmlcfaaaiaaDoor
