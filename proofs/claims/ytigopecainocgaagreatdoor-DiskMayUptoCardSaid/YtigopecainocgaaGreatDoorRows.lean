/-
  NARROWER THAN 'FOR EVERY INPUT', by the rows' own cells (each row's printed sentence says how): DiskMay: laid · DiskFalls: laid · DiskSafe: laid · DiskRooms: laid.
  DERIVED. THE GIVEN ROWS OF THIS SEAT. 4 by the template 'for every input the law returns true; each argument reads behind the call as it read before'; 0 by the template 'total and deterministic' (their statements: YtigopecainocgaaGreatDoorTotals.lean).
  GIVEN WITH THE SEED: the statements are not yours to turn. If you find one false, say at which input.
  Laid BY PROGRAM, IN A SANDBOX (cutbox-rows.mjs): the forced cells as the released guide's own fill.sh prints them over the translation ef1ffb5821ff6ad0… (all of the seat's roots in one cut). By AI agents, Wed Nov 11 2026. No macro, syntax, notation, axiom, sorry.
-/
import Derived.Test.YtigopecainocgaaGreatDoorChecked
import GoSem.Claim
import GoSem.ClaimJoined
import GoSem.ClaimMapViews
import Derived.JoinedTies
import Derived.KernelRfl
namespace Go.Proofs.YtigopecainocgaaGreatDoor
/- THE CELL 'sum', in the pinned program and in every row, IS THE sha256 OF THE DUMP (.gsa) THAT YtigopecainocgaaGreatDoorProg.lean LOADS. Nothing in Lean hashes anything: it is a label: what it is worth is what the hold of that sum in a sandbox is worth. -/
noncomputable def Tryz.pinned : Pinned := { name := "ytigopecainocgaagreatdoor", sum := "ef1ffb5821ff6ad004df141aa01010b9d6ccc61e1f43166ac1b15b0478addc2e", checked := Tryz.checked }
namespace Rows
def none {H : Type} : Left H := { results := [], args := [] }

/- WHAT THE LISTED PACKAGE-LEVEL VARIABLES READ AS WHEN THE CALL BEGINS. Each datum BY PROGRAM (the guide's laid-datum.mjs) off the statement by which the dump's own 'gosem.cut.vars' lays the variable. In a bare row this is a premise. The card (YtigopecainocgaaGreatDoorCards.lean) ties it to the program's text. -/
def laid_puncheon_tree_root {H : Type} : DataW H := .agg [.lit (.string [47]), .lit (.int .i64 1), .lit (.string [])]
def laid_puncheon_tree_shapes {H : Type} : DataW H := .agg [.agg [.lit (.bool false), .lit (.int .i64 0), .lit (.int .i64 0)], .agg [.lit (.bool false), .lit (.int .i64 0), .lit (.int .i64 0)], .agg [.lit (.bool false), .lit (.int .i64 0), .lit (.int .i64 524288)], .agg [.lit (.bool false), .lit (.int .i64 0), .lit (.int .i64 524288)], .agg [.lit (.bool false), .lit (.int .i64 1), .lit (.int .i64 2000)], .agg [.lit (.bool true), .lit (.int .i64 0), .lit (.int .i64 0)], .agg [.lit (.bool false), .lit (.int .i64 0), .lit (.int .i64 0)], .agg [.lit (.bool false), .lit (.int .i64 0), .lit (.int .i64 0)]]

/-- 'puncheonlaw08.DiskMay': WHATEVER THE INPUT: true; the input reads as it did. -/
def diskMaySpec : ChangeSpec := { name := "diskMay", fn := fun _ => fun
  | [d1, d2, d3] => { results := [.lit (.bool true)], args := [d1, d2, d3] }
  | _ => none }
def diskMayRow : OpenClaim := { program := "ytigopecainocgaagreatdoor", sum := "ef1ffb5821ff6ad004df141aa01010b9d6ccc61e1f43166ac1b15b0478addc2e", func := "puncheon/puncheonlaw08.DiskMay", spec := "diskMay", inPlace := ["internal/bytealg.IndexByteString", "internal/bytealg.IndexString", "internal/bytealg.abigen_runtime_cmpstring", "slices.overlaps[puncheon/api.Item]", "internal/bytealg.CountString", "internal/abi.NoEscape", "internal/bytealg.MakeNoZero"], unfollowed := true, recurses := true, named := ["puncheon/tree.root", "internal/bytealg.MaxLen", "puncheon/tree.shapes"], apart := false, laid := [("puncheon/tree.root", laid_puncheon_tree_root), ("puncheon/tree.shapes", laid_puncheon_tree_shapes)] }
def DiskMaySaid : Prop := diskMayRow.holds Tryz.pinned (OpenSpec.ofChange diskMaySpec)

/-- ITS FALSE NEIGHBOUR: 'it returns false'. Refute it at one input. -/
def diskMayWrong : ChangeSpec := { name := "diskMay", fn := fun _ => fun
  | [d1, d2, d3] => { results := [.lit (.bool false)], args := [d1, d2, d3] }
  | _ => none }
def DiskMayWrongFalsely : Prop := diskMayRow.holds Tryz.pinned (OpenSpec.ofChange diskMayWrong)

/-- 'puncheonlaw08.DiskFalls': WHATEVER THE INPUT: true; the input reads as it did. -/
def diskFallsSpec : ChangeSpec := { name := "diskFalls", fn := fun _ => fun
  | [d1, d2, d3] => { results := [.lit (.bool true)], args := [d1, d2, d3] }
  | _ => none }
def diskFallsRow : OpenClaim := { program := "ytigopecainocgaagreatdoor", sum := "ef1ffb5821ff6ad004df141aa01010b9d6ccc61e1f43166ac1b15b0478addc2e", func := "puncheon/puncheonlaw08.DiskFalls", spec := "diskFalls", inPlace := ["internal/bytealg.IndexByteString", "internal/bytealg.IndexString", "internal/bytealg.abigen_runtime_cmpstring", "slices.overlaps[puncheon/api.Item]", "internal/bytealg.CountString", "internal/abi.NoEscape", "internal/bytealg.MakeNoZero"], unfollowed := true, recurses := true, named := ["puncheon/tree.root", "internal/bytealg.MaxLen", "puncheon/tree.shapes"], apart := false, laid := [("puncheon/tree.root", laid_puncheon_tree_root), ("puncheon/tree.shapes", laid_puncheon_tree_shapes)] }
def DiskFallsSaid : Prop := diskFallsRow.holds Tryz.pinned (OpenSpec.ofChange diskFallsSpec)

/-- ITS FALSE NEIGHBOUR: 'it returns false'. Refute it at one input. -/
def diskFallsWrong : ChangeSpec := { name := "diskFalls", fn := fun _ => fun
  | [d1, d2, d3] => { results := [.lit (.bool false)], args := [d1, d2, d3] }
  | _ => none }
def DiskFallsWrongFalsely : Prop := diskFallsRow.holds Tryz.pinned (OpenSpec.ofChange diskFallsWrong)

/-- 'puncheonlaw08.DiskSafe': WHATEVER THE INPUT: true; the input reads as it did. -/
def diskSafeSpec : ChangeSpec := { name := "diskSafe", fn := fun _ => fun
  | [d1, d2, d3] => { results := [.lit (.bool true)], args := [d1, d2, d3] }
  | _ => none }
def diskSafeRow : OpenClaim := { program := "ytigopecainocgaagreatdoor", sum := "ef1ffb5821ff6ad004df141aa01010b9d6ccc61e1f43166ac1b15b0478addc2e", func := "puncheon/puncheonlaw08.DiskSafe", spec := "diskSafe", inPlace := ["internal/bytealg.IndexByteString", "internal/bytealg.IndexString", "internal/bytealg.abigen_runtime_cmpstring", "slices.overlaps[puncheon/api.Item]", "internal/bytealg.CountString", "internal/abi.NoEscape", "internal/bytealg.MakeNoZero"], unfollowed := true, recurses := true, named := ["puncheon/tree.root", "internal/bytealg.MaxLen", "puncheon/tree.shapes"], apart := false, laid := [("puncheon/tree.root", laid_puncheon_tree_root), ("puncheon/tree.shapes", laid_puncheon_tree_shapes)] }
def DiskSafeSaid : Prop := diskSafeRow.holds Tryz.pinned (OpenSpec.ofChange diskSafeSpec)

/-- ITS FALSE NEIGHBOUR: 'it returns false'. Refute it at one input. -/
def diskSafeWrong : ChangeSpec := { name := "diskSafe", fn := fun _ => fun
  | [d1, d2, d3] => { results := [.lit (.bool false)], args := [d1, d2, d3] }
  | _ => none }
def DiskSafeWrongFalsely : Prop := diskSafeRow.holds Tryz.pinned (OpenSpec.ofChange diskSafeWrong)

/-- 'puncheonlaw08.DiskRooms': WHATEVER THE INPUT: true; the input reads as it did. -/
def diskRoomsSpec : ChangeSpec := { name := "diskRooms", fn := fun _ => fun
  | [d1, d2, d3] => { results := [.lit (.bool true)], args := [d1, d2, d3] }
  | _ => none }
def diskRoomsRow : OpenClaim := { program := "ytigopecainocgaagreatdoor", sum := "ef1ffb5821ff6ad004df141aa01010b9d6ccc61e1f43166ac1b15b0478addc2e", func := "puncheon/puncheonlaw08.DiskRooms", spec := "diskRooms", inPlace := ["internal/bytealg.IndexByteString", "internal/bytealg.IndexString", "internal/bytealg.abigen_runtime_cmpstring", "slices.overlaps[puncheon/api.Item]", "internal/bytealg.CountString", "internal/abi.NoEscape", "internal/bytealg.MakeNoZero"], unfollowed := true, recurses := true, named := ["puncheon/tree.root", "internal/bytealg.MaxLen", "puncheon/tree.shapes"], apart := false, laid := [("puncheon/tree.root", laid_puncheon_tree_root), ("puncheon/tree.shapes", laid_puncheon_tree_shapes)] }
def DiskRoomsSaid : Prop := diskRoomsRow.holds Tryz.pinned (OpenSpec.ofChange diskRoomsSpec)

/-- ITS FALSE NEIGHBOUR: 'it returns false'. Refute it at one input. -/
def diskRoomsWrong : ChangeSpec := { name := "diskRooms", fn := fun _ => fun
  | [d1, d2, d3] => { results := [.lit (.bool false)], args := [d1, d2, d3] }
  | _ => none }
def DiskRoomsWrongFalsely : Prop := diskRoomsRow.holds Tryz.pinned (OpenSpec.ofChange diskRoomsWrong)

/- THE SECOND FORM. 'bulk': how many values and letters a reading holds, each counted each time it is reached (what is shared counts as often as it is met; a slice's spare places count too). A statement '..UptoSaid' is the law's where the arguments, and the package variables that the reading takes, are together of bulk at most 1048576: NARROWER than '..Said'. Prove '..Said' where nothing that the law and all that it calls make is longer than what came in: it says more and counts as full. Else prove '..UptoSaid'. A law counts once. -/
mutual
def uptoBulk {H : Type} : DataW H → Nat
  | .lit (.string bytes) => bytes.length + 1
  | .lit _ => 1
  | .nil => 1
  | .ptr d => uptoBulk d + 1
  | .slice elems spare => uptoBulkAll elems + uptoBulkAll spare + 1
  | .agg parts => uptoBulkAll parts + 1
  | .iface _ d => uptoBulk d + 1
  | .map entries => uptoBulkEntries entries + 1
  | .held _ => 1
def uptoBulkAll {H : Type} : List (DataW H) → Nat
  | [] => 0
  | d :: r => uptoBulk d + uptoBulkAll r
def uptoBulkEntries {H : Type} : List (Lit × DataW H) → Nat
  | [] => 0
  | x :: r => uptoBulkEntry x + uptoBulkEntries r
def uptoBulkEntry {H : Type} : Lit × DataW H → Nat
  | (.string bytes, d) => bytes.length + uptoBulk d + 1
  | (_, d) => uptoBulk d + 1
 end
def uptoSmall : (H : Type) → List (DataW H) → Bool := fun _ ds => decide (uptoBulkAll ds ≤ 1048576)
def OpenSpec.upto (s : _root_.Go.ChangeSpec) : _root_.Go.OpenSpec := { _root_.Go.OpenSpec.ofChange s with cond := some uptoSmall }

/-- 'puncheonlaw08.DiskMay', WHERE WHAT IT READS IS OF BULK AT MOST 1048576: true; the input reads as it did. -/
def diskMayUptoRow : OpenClaim := { program := "ytigopecainocgaagreatdoor", sum := "ef1ffb5821ff6ad004df141aa01010b9d6ccc61e1f43166ac1b15b0478addc2e", func := "puncheon/puncheonlaw08.DiskMay", spec := "diskMay", inPlace := ["internal/bytealg.IndexByteString", "internal/bytealg.IndexString", "internal/bytealg.abigen_runtime_cmpstring", "slices.overlaps[puncheon/api.Item]", "internal/bytealg.CountString", "internal/abi.NoEscape", "internal/bytealg.MakeNoZero"], unfollowed := true, recurses := true, named := ["puncheon/tree.root", "internal/bytealg.MaxLen", "puncheon/tree.shapes"], apart := false, laid := [("puncheon/tree.root", laid_puncheon_tree_root), ("puncheon/tree.shapes", laid_puncheon_tree_shapes)], narrowed := true }
def DiskMayUptoSaid : Prop := diskMayUptoRow.holds Tryz.pinned (OpenSpec.upto diskMaySpec)

/-- 'puncheonlaw08.DiskFalls', WHERE WHAT IT READS IS OF BULK AT MOST 1048576: true; the input reads as it did. -/
def diskFallsUptoRow : OpenClaim := { program := "ytigopecainocgaagreatdoor", sum := "ef1ffb5821ff6ad004df141aa01010b9d6ccc61e1f43166ac1b15b0478addc2e", func := "puncheon/puncheonlaw08.DiskFalls", spec := "diskFalls", inPlace := ["internal/bytealg.IndexByteString", "internal/bytealg.IndexString", "internal/bytealg.abigen_runtime_cmpstring", "slices.overlaps[puncheon/api.Item]", "internal/bytealg.CountString", "internal/abi.NoEscape", "internal/bytealg.MakeNoZero"], unfollowed := true, recurses := true, named := ["puncheon/tree.root", "internal/bytealg.MaxLen", "puncheon/tree.shapes"], apart := false, laid := [("puncheon/tree.root", laid_puncheon_tree_root), ("puncheon/tree.shapes", laid_puncheon_tree_shapes)], narrowed := true }
def DiskFallsUptoSaid : Prop := diskFallsUptoRow.holds Tryz.pinned (OpenSpec.upto diskFallsSpec)

/-- 'puncheonlaw08.DiskSafe', WHERE WHAT IT READS IS OF BULK AT MOST 1048576: true; the input reads as it did. -/
def diskSafeUptoRow : OpenClaim := { program := "ytigopecainocgaagreatdoor", sum := "ef1ffb5821ff6ad004df141aa01010b9d6ccc61e1f43166ac1b15b0478addc2e", func := "puncheon/puncheonlaw08.DiskSafe", spec := "diskSafe", inPlace := ["internal/bytealg.IndexByteString", "internal/bytealg.IndexString", "internal/bytealg.abigen_runtime_cmpstring", "slices.overlaps[puncheon/api.Item]", "internal/bytealg.CountString", "internal/abi.NoEscape", "internal/bytealg.MakeNoZero"], unfollowed := true, recurses := true, named := ["puncheon/tree.root", "internal/bytealg.MaxLen", "puncheon/tree.shapes"], apart := false, laid := [("puncheon/tree.root", laid_puncheon_tree_root), ("puncheon/tree.shapes", laid_puncheon_tree_shapes)], narrowed := true }
def DiskSafeUptoSaid : Prop := diskSafeUptoRow.holds Tryz.pinned (OpenSpec.upto diskSafeSpec)

/-- 'puncheonlaw08.DiskRooms', WHERE WHAT IT READS IS OF BULK AT MOST 1048576: true; the input reads as it did. -/
def diskRoomsUptoRow : OpenClaim := { program := "ytigopecainocgaagreatdoor", sum := "ef1ffb5821ff6ad004df141aa01010b9d6ccc61e1f43166ac1b15b0478addc2e", func := "puncheon/puncheonlaw08.DiskRooms", spec := "diskRooms", inPlace := ["internal/bytealg.IndexByteString", "internal/bytealg.IndexString", "internal/bytealg.abigen_runtime_cmpstring", "slices.overlaps[puncheon/api.Item]", "internal/bytealg.CountString", "internal/abi.NoEscape", "internal/bytealg.MakeNoZero"], unfollowed := true, recurses := true, named := ["puncheon/tree.root", "internal/bytealg.MaxLen", "puncheon/tree.shapes"], apart := false, laid := [("puncheon/tree.root", laid_puncheon_tree_root), ("puncheon/tree.shapes", laid_puncheon_tree_shapes)], narrowed := true }
def DiskRoomsUptoSaid : Prop := diskRoomsUptoRow.holds Tryz.pinned (OpenSpec.upto diskRoomsSpec)

end Rows
end Go.Proofs.YtigopecainocgaaGreatDoor
