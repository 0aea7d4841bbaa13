/-
  NARROWER THAN 'FOR EVERY INPUT', by the rows' own cells (each row's printed sentence says how): WalOpens: laid · WalBlind: laid.
  DERIVED. THE GIVEN ROWS OF THIS SEAT. 2 by the template 'for every input the law returns true; each argument reads behind the call as it read before'; 0 by the template 'total and deterministic' (their statements: YtndfhmlcfaaaiaaGreatDoorTotals.lean).
  GIVEN WITH THE SEED: the statements are not yours to turn. If you find one false, say at which input.
  Laid BY PROGRAM, IN A SANDBOX (cutbox-rows.mjs): the forced cells as the released guide's own fill.sh prints them over the translation 5d00e125692076bc… (all of the seat's roots in one cut). By AI agents, Wed Nov 11 2026. No macro, syntax, notation, axiom, sorry.
-/
import Derived.Test.YtndfhmlcfaaaiaaGreatDoorChecked
import GoSem.Claim
import GoSem.ClaimJoined
import GoSem.ClaimMapViews
import Derived.JoinedTies
import Derived.KernelRfl
namespace Go.Proofs.YtndfhmlcfaaaiaaGreatDoor
/- THE CELL 'sum', in the pinned program and in every row, IS THE sha256 OF THE DUMP (.gsa) THAT YtndfhmlcfaaaiaaGreatDoorProg.lean LOADS. Nothing in Lean hashes anything: it is a label: what it is worth is what the hold of that sum in a sandbox is worth. -/
noncomputable def Tryz.pinned : Pinned := { name := "ytndfhmlcfaaaiaagreatdoor", sum := "5d00e125692076bcbaad901bcbd278b636d1727ed91f2358b051ef9d627d8240", checked := Tryz.checked }
namespace Rows
def none {H : Type} : Left H := { results := [], args := [] }

/- WHAT THE LISTED PACKAGE-LEVEL VARIABLES READ AS WHEN THE CALL BEGINS. Each datum BY PROGRAM (the guide's laid-datum.mjs) off the statement by which the dump's own 'gosem.cut.vars' lays the variable. In a bare row this is a premise. The card (YtndfhmlcfaaaiaaGreatDoorCards.lean) ties it to the program's text. -/
def laid_ciborium_wal_lowTurns {H : Type} : DataW H := .agg [.lit (.int .u32 0), .lit (.int .u32 4067132163), .lit (.int .u32 3778769143), .lit (.int .u32 324072436), .lit (.int .u32 3348797215), .lit (.int .u32 904991772), .lit (.int .u32 648144872), .lit (.int .u32 3570033899), .lit (.int .u32 2329499855), .lit (.int .u32 2024987596), .lit (.int .u32 1809983544), .lit (.int .u32 2575936315), .lit (.int .u32 1296289744), .lit (.int .u32 3207089363), .lit (.int .u32 2893594407), .lit (.int .u32 1578318884)]
def laid_ciborium_wal_highTurns {H : Type} : DataW H := .agg [.lit (.int .u32 0), .lit (.int .u32 274646895), .lit (.int .u32 549293790), .lit (.int .u32 820201905), .lit (.int .u32 1098587580), .lit (.int .u32 1361435347), .lit (.int .u32 1640403810), .lit (.int .u32 1905808397), .lit (.int .u32 2197175160), .lit (.int .u32 2460548119), .lit (.int .u32 2722870694), .lit (.int .u32 2987750089), .lit (.int .u32 3280807620), .lit (.int .u32 3553878443), .lit (.int .u32 3811616794), .lit (.int .u32 4084100981)]

/-- 'ciboriumlaw08.WalOpens': WHATEVER THE INPUT: true; the input reads as it did. -/
def walOpensSpec : ChangeSpec := { name := "walOpens", fn := fun _ => fun
  | [d] => { results := [.lit (.bool true)], args := [d] }
  | _ => none }
def walOpensRow : OpenClaim := { program := "ytndfhmlcfaaaiaagreatdoor", sum := "5d00e125692076bcbaad901bcbd278b636d1727ed91f2358b051ef9d627d8240", func := "ciborium/ciboriumlaw08.WalOpens", spec := "walOpens", unfollowed := true, recurses := true, named := ["ciborium/wal.lowTurns", "ciborium/wal.highTurns"], apart := false, laid := [("ciborium/wal.lowTurns", laid_ciborium_wal_lowTurns), ("ciborium/wal.highTurns", laid_ciborium_wal_highTurns)] }
def WalOpensSaid : Prop := walOpensRow.holds Tryz.pinned (OpenSpec.ofChange walOpensSpec)

/-- ITS FALSE NEIGHBOUR: 'it returns false'. Refute it at one input. -/
def walOpensWrong : ChangeSpec := { name := "walOpens", fn := fun _ => fun
  | [d] => { results := [.lit (.bool false)], args := [d] }
  | _ => none }
def WalOpensWrongFalsely : Prop := walOpensRow.holds Tryz.pinned (OpenSpec.ofChange walOpensWrong)

/-- 'ciboriumlaw08.WalBlind': WHATEVER THE INPUT: true; the input reads as it did. -/
def walBlindSpec : ChangeSpec := { name := "walBlind", fn := fun _ => fun
  | [d1, d2] => { results := [.lit (.bool true)], args := [d1, d2] }
  | _ => none }
def walBlindRow : OpenClaim := { program := "ytndfhmlcfaaaiaagreatdoor", sum := "5d00e125692076bcbaad901bcbd278b636d1727ed91f2358b051ef9d627d8240", func := "ciborium/ciboriumlaw08.WalBlind", spec := "walBlind", unfollowed := true, recurses := true, named := ["ciborium/wal.lowTurns", "ciborium/wal.highTurns"], apart := false, laid := [("ciborium/wal.lowTurns", laid_ciborium_wal_lowTurns), ("ciborium/wal.highTurns", laid_ciborium_wal_highTurns)] }
def WalBlindSaid : Prop := walBlindRow.holds Tryz.pinned (OpenSpec.ofChange walBlindSpec)

/-- ITS FALSE NEIGHBOUR: 'it returns false'. Refute it at one input. -/
def walBlindWrong : ChangeSpec := { name := "walBlind", fn := fun _ => fun
  | [d1, d2] => { results := [.lit (.bool false)], args := [d1, d2] }
  | _ => none }
def WalBlindWrongFalsely : Prop := walBlindRow.holds Tryz.pinned (OpenSpec.ofChange walBlindWrong)

/- THE SECOND FORM. 'bulk': how many values and letters a reading holds, each counted each time it is reached (what is shared counts as often as it is met; a slice's spare places count too). A statement '..UptoSaid' is the law's where the arguments, and the package variables that the reading takes, are together of bulk at most 1048576: NARROWER than '..Said'. Prove '..Said' where nothing that the law and all that it calls make is longer than what came in: it says more and counts as full. Else prove '..UptoSaid'. A law counts once. -/
mutual
def uptoBulk {H : Type} : DataW H → Nat
  | .lit (.string bytes) => bytes.length + 1
  | .lit _ => 1
  | .nil => 1
  | .ptr d => uptoBulk d + 1
  | .slice elems spare => uptoBulkAll elems + uptoBulkAll spare + 1
  | .agg parts => uptoBulkAll parts + 1
  | .iface _ d => uptoBulk d + 1
  | .map entries => uptoBulkEntries entries + 1
  | .held _ => 1
def uptoBulkAll {H : Type} : List (DataW H) → Nat
  | [] => 0
  | d :: r => uptoBulk d + uptoBulkAll r
def uptoBulkEntries {H : Type} : List (Lit × DataW H) → Nat
  | [] => 0
  | x :: r => uptoBulkEntry x + uptoBulkEntries r
def uptoBulkEntry {H : Type} : Lit × DataW H → Nat
  | (.string bytes, d) => bytes.length + uptoBulk d + 1
  | (_, d) => uptoBulk d + 1
 end
def uptoSmall : (H : Type) → List (DataW H) → Bool := fun _ ds => decide (uptoBulkAll ds ≤ 1048576)
def OpenSpec.upto (s : _root_.Go.ChangeSpec) : _root_.Go.OpenSpec := { _root_.Go.OpenSpec.ofChange s with cond := some uptoSmall }

/-- 'ciboriumlaw08.WalOpens', WHERE WHAT IT READS IS OF BULK AT MOST 1048576: true; the input reads as it did. -/
def walOpensUptoRow : OpenClaim := { program := "ytndfhmlcfaaaiaagreatdoor", sum := "5d00e125692076bcbaad901bcbd278b636d1727ed91f2358b051ef9d627d8240", func := "ciborium/ciboriumlaw08.WalOpens", spec := "walOpens", unfollowed := true, recurses := true, named := ["ciborium/wal.lowTurns", "ciborium/wal.highTurns"], apart := false, laid := [("ciborium/wal.lowTurns", laid_ciborium_wal_lowTurns), ("ciborium/wal.highTurns", laid_ciborium_wal_highTurns)], narrowed := true }
def WalOpensUptoSaid : Prop := walOpensUptoRow.holds Tryz.pinned (OpenSpec.upto walOpensSpec)

/-- 'ciboriumlaw08.WalBlind', WHERE WHAT IT READS IS OF BULK AT MOST 1048576: true; the input reads as it did. -/
def walBlindUptoRow : OpenClaim := { program := "ytndfhmlcfaaaiaagreatdoor", sum := "5d00e125692076bcbaad901bcbd278b636d1727ed91f2358b051ef9d627d8240", func := "ciborium/ciboriumlaw08.WalBlind", spec := "walBlind", unfollowed := true, recurses := true, named := ["ciborium/wal.lowTurns", "ciborium/wal.highTurns"], apart := false, laid := [("ciborium/wal.lowTurns", laid_ciborium_wal_lowTurns), ("ciborium/wal.highTurns", laid_ciborium_wal_highTurns)], narrowed := true }
def WalBlindUptoSaid : Prop := walBlindUptoRow.holds Tryz.pinned (OpenSpec.upto walBlindSpec)

end Rows
end Go.Proofs.YtndfhmlcfaaaiaaGreatDoor
