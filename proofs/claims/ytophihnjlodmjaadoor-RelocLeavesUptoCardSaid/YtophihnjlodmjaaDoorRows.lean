/-
  NARROWER THAN 'FOR EVERY INPUT', by the rows' own cells (each row's printed sentence says how): RelocTells: laid · RelocMoves: laid · RelocLeaves: laid · RelocBack: laid · RelocLong: laid · RelocKeg: laid.
  DERIVED. THE GIVEN ROWS OF THIS SEAT. 6 by the template 'for every input the law returns true; each argument reads behind the call as it read before'; 0 by the template 'total and deterministic' (their statements: YtophihnjlodmjaaDoorTotals.lean).
  GIVEN WITH THE SEED: the statements are not yours to turn. If you find one false, say at which input.
  Laid BY PROGRAM, IN A SANDBOX (cutbox-rows.mjs): the forced cells as the released guide's own fill.sh prints them over the translation d49250471f51f5e5… (all of the seat's roots in one cut). By AI agents, Wed Nov 11 2026. No macro, syntax, notation, axiom, sorry.
-/
import Derived.Test.YtophihnjlodmjaaDoorChecked
import GoSem.PinnedTables
import GoSem.Claim
import GoSem.ClaimJoined
import GoSem.ClaimMapViews
import Derived.JoinedTies
import Derived.KernelRfl
namespace Go.Proofs.YtophihnjlodmjaaDoor
/- THE CELL 'sum', in the pinned program and in every row, IS THE sha256 OF THE DUMP (.gsa) THAT YtophihnjlodmjaaDoorProg.lean LOADS. Nothing in Lean hashes anything: it is a label: what it is worth is what the hold of that sum in a sandbox is worth. -/
noncomputable def Tryd.pinned : Pinned := { name := "ytophihnjlodmjaadoor", sum := "d49250471f51f5e59fb448af762f9769e14bd473a7b6ea0818c23cf0481882a5", checked := Tryd.checked }
namespace Rows
def none {H : Type} : Left H := { results := [], args := [] }

/- WHAT THE LISTED PACKAGE-LEVEL VARIABLES READ AS WHEN THE CALL BEGINS. Each datum BY PROGRAM (the guide's laid-datum.mjs) off the statement by which the dump's own 'gosem.cut.vars' lays the variable. In a bare row this is a premise. The card (YtophihnjlodmjaaDoorCards.lean) ties it to the program's text. -/
def laid_unicode_utf8_acceptRanges {H : Type} : DataW H := .agg [.agg [.lit (.int .u8 128), .lit (.int .u8 191)], .agg [.lit (.int .u8 160), .lit (.int .u8 191)], .agg [.lit (.int .u8 128), .lit (.int .u8 159)], .agg [.lit (.int .u8 144), .lit (.int .u8 191)], .agg [.lit (.int .u8 128), .lit (.int .u8 143)], .agg [.lit (.int .u8 0), .lit (.int .u8 0)], .agg [.lit (.int .u8 0), .lit (.int .u8 0)], .agg [.lit (.int .u8 0), .lit (.int .u8 0)], .agg [.lit (.int .u8 0), .lit (.int .u8 0)], .agg [.lit (.int .u8 0), .lit (.int .u8 0)], .agg [.lit (.int .u8 0), .lit (.int .u8 0)], .agg [.lit (.int .u8 0), .lit (.int .u8 0)], .agg [.lit (.int .u8 0), .lit (.int .u8 0)], .agg [.lit (.int .u8 0), .lit (.int .u8 0)], .agg [.lit (.int .u8 0), .lit (.int .u8 0)], .agg [.lit (.int .u8 0), .lit (.int .u8 0)]]
/-- One of Go's own tables, pinned by name: the form's constant. -/
def laid_unicode_utf8_first : DataW Unit := Go.Pinned.utf8First

/-- 'puncheonlaw14.RelocTells': WHATEVER THE INPUT: true; the input reads as it did. -/
def relocTellsSpec : ChangeSpec := { name := "relocTells", fn := fun _ => fun
  | [d] => { results := [.lit (.bool true)], args := [d] }
  | _ => none }
def relocTellsRow : OpenClaim := { program := "ytophihnjlodmjaadoor", sum := "d49250471f51f5e59fb448af762f9769e14bd473a7b6ea0818c23cf0481882a5", func := "puncheon/puncheonlaw14.RelocTells", spec := "relocTells", inPlace := ["internal/bytealg.IndexByteString", "internal/bytealg.IndexString", "internal/bytealg.IndexByte", "internal/bytealg.Index"], unfollowed := true, recurses := true, named := ["internal/bytealg.MaxLen", "unicode/utf8.first", "unicode/utf8.acceptRanges"], apart := false, laid := [("unicode/utf8.acceptRanges", laid_unicode_utf8_acceptRanges), ("unicode/utf8.first", laid_unicode_utf8_first)] }
def RelocTellsSaid : Prop := relocTellsRow.holds Tryd.pinned (OpenSpec.ofChange relocTellsSpec)

/-- ITS FALSE NEIGHBOUR: 'it returns false'. Refute it at one input. -/
def relocTellsWrong : ChangeSpec := { name := "relocTells", fn := fun _ => fun
  | [d] => { results := [.lit (.bool false)], args := [d] }
  | _ => none }
def RelocTellsWrongFalsely : Prop := relocTellsRow.holds Tryd.pinned (OpenSpec.ofChange relocTellsWrong)

/-- 'puncheonlaw14.RelocMoves': WHATEVER THE INPUT: true; the input reads as it did. -/
def relocMovesSpec : ChangeSpec := { name := "relocMoves", fn := fun _ => fun
  | [d] => { results := [.lit (.bool true)], args := [d] }
  | _ => none }
def relocMovesRow : OpenClaim := { program := "ytophihnjlodmjaadoor", sum := "d49250471f51f5e59fb448af762f9769e14bd473a7b6ea0818c23cf0481882a5", func := "puncheon/puncheonlaw14.RelocMoves", spec := "relocMoves", inPlace := ["internal/bytealg.IndexByteString", "internal/bytealg.IndexString", "internal/bytealg.IndexByte", "internal/bytealg.Index"], unfollowed := true, recurses := true, named := ["internal/bytealg.MaxLen", "unicode/utf8.first", "unicode/utf8.acceptRanges"], apart := false, laid := [("unicode/utf8.acceptRanges", laid_unicode_utf8_acceptRanges), ("unicode/utf8.first", laid_unicode_utf8_first)] }
def RelocMovesSaid : Prop := relocMovesRow.holds Tryd.pinned (OpenSpec.ofChange relocMovesSpec)

/-- ITS FALSE NEIGHBOUR: 'it returns false'. Refute it at one input. -/
def relocMovesWrong : ChangeSpec := { name := "relocMoves", fn := fun _ => fun
  | [d] => { results := [.lit (.bool false)], args := [d] }
  | _ => none }
def RelocMovesWrongFalsely : Prop := relocMovesRow.holds Tryd.pinned (OpenSpec.ofChange relocMovesWrong)

/-- 'puncheonlaw14.RelocLeaves': WHATEVER THE INPUT: true; the input reads as it did. -/
def relocLeavesSpec : ChangeSpec := { name := "relocLeaves", fn := fun _ => fun
  | [d1, d2, d3] => { results := [.lit (.bool true)], args := [d1, d2, d3] }
  | _ => none }
def relocLeavesRow : OpenClaim := { program := "ytophihnjlodmjaadoor", sum := "d49250471f51f5e59fb448af762f9769e14bd473a7b6ea0818c23cf0481882a5", func := "puncheon/puncheonlaw14.RelocLeaves", spec := "relocLeaves", inPlace := ["internal/bytealg.IndexByteString", "internal/bytealg.IndexString", "internal/bytealg.IndexByte", "internal/bytealg.Index", "internal/bytealg.abigen_runtime_cmpstring"], unfollowed := true, recurses := true, named := ["internal/bytealg.MaxLen", "unicode/utf8.first", "unicode/utf8.acceptRanges"], apart := false, laid := [("unicode/utf8.acceptRanges", laid_unicode_utf8_acceptRanges), ("unicode/utf8.first", laid_unicode_utf8_first)] }
def RelocLeavesSaid : Prop := relocLeavesRow.holds Tryd.pinned (OpenSpec.ofChange relocLeavesSpec)

/-- ITS FALSE NEIGHBOUR: 'it returns false'. Refute it at one input. -/
def relocLeavesWrong : ChangeSpec := { name := "relocLeaves", fn := fun _ => fun
  | [d1, d2, d3] => { results := [.lit (.bool false)], args := [d1, d2, d3] }
  | _ => none }
def RelocLeavesWrongFalsely : Prop := relocLeavesRow.holds Tryd.pinned (OpenSpec.ofChange relocLeavesWrong)

/-- 'puncheonlaw14.RelocBack': WHATEVER THE INPUT: true; the input reads as it did. -/
def relocBackSpec : ChangeSpec := { name := "relocBack", fn := fun _ => fun
  | [d] => { results := [.lit (.bool true)], args := [d] }
  | _ => none }
def relocBackRow : OpenClaim := { program := "ytophihnjlodmjaadoor", sum := "d49250471f51f5e59fb448af762f9769e14bd473a7b6ea0818c23cf0481882a5", func := "puncheon/puncheonlaw14.RelocBack", spec := "relocBack", inPlace := ["internal/bytealg.IndexByteString", "internal/bytealg.IndexString", "internal/bytealg.IndexByte", "internal/bytealg.Index", "internal/bytealg.CountString"], unfollowed := true, recurses := true, named := ["internal/bytealg.MaxLen", "unicode/utf8.first", "unicode/utf8.acceptRanges"], apart := false, laid := [("unicode/utf8.acceptRanges", laid_unicode_utf8_acceptRanges), ("unicode/utf8.first", laid_unicode_utf8_first)] }
def RelocBackSaid : Prop := relocBackRow.holds Tryd.pinned (OpenSpec.ofChange relocBackSpec)

/-- ITS FALSE NEIGHBOUR: 'it returns false'. Refute it at one input. -/
def relocBackWrong : ChangeSpec := { name := "relocBack", fn := fun _ => fun
  | [d] => { results := [.lit (.bool false)], args := [d] }
  | _ => none }
def RelocBackWrongFalsely : Prop := relocBackRow.holds Tryd.pinned (OpenSpec.ofChange relocBackWrong)

/-- 'puncheonlaw14.RelocLong': WHATEVER THE INPUT: true; the input reads as it did. -/
def relocLongSpec : ChangeSpec := { name := "relocLong", fn := fun _ => fun
  | [d] => { results := [.lit (.bool true)], args := [d] }
  | _ => none }
def relocLongRow : OpenClaim := { program := "ytophihnjlodmjaadoor", sum := "d49250471f51f5e59fb448af762f9769e14bd473a7b6ea0818c23cf0481882a5", func := "puncheon/puncheonlaw14.RelocLong", spec := "relocLong", inPlace := ["internal/bytealg.IndexByteString", "internal/bytealg.IndexString", "internal/bytealg.IndexByte", "internal/bytealg.Index", "internal/bytealg.CountString"], unfollowed := true, recurses := true, named := ["internal/bytealg.MaxLen", "unicode/utf8.first", "unicode/utf8.acceptRanges"], apart := false, laid := [("unicode/utf8.acceptRanges", laid_unicode_utf8_acceptRanges), ("unicode/utf8.first", laid_unicode_utf8_first)] }
def RelocLongSaid : Prop := relocLongRow.holds Tryd.pinned (OpenSpec.ofChange relocLongSpec)

/-- ITS FALSE NEIGHBOUR: 'it returns false'. Refute it at one input. -/
def relocLongWrong : ChangeSpec := { name := "relocLong", fn := fun _ => fun
  | [d] => { results := [.lit (.bool false)], args := [d] }
  | _ => none }
def RelocLongWrongFalsely : Prop := relocLongRow.holds Tryd.pinned (OpenSpec.ofChange relocLongWrong)

/-- 'puncheonlaw14.RelocKeg': WHATEVER THE INPUT: true; the input reads as it did. -/
def relocKegSpec : ChangeSpec := { name := "relocKeg", fn := fun _ => fun
  | [d1, d2, d3] => { results := [.lit (.bool true)], args := [d1, d2, d3] }
  | _ => none }
def relocKegRow : OpenClaim := { program := "ytophihnjlodmjaadoor", sum := "d49250471f51f5e59fb448af762f9769e14bd473a7b6ea0818c23cf0481882a5", func := "puncheon/puncheonlaw14.RelocKeg", spec := "relocKeg", inPlace := ["internal/bytealg.IndexByteString", "internal/bytealg.IndexString", "internal/bytealg.IndexByte", "internal/bytealg.Index", "internal/bytealg.abigen_runtime_cmpstring", "internal/bytealg.CountString"], unfollowed := true, recurses := true, named := ["internal/bytealg.MaxLen", "unicode/utf8.first", "unicode/utf8.acceptRanges"], apart := false, laid := [("unicode/utf8.acceptRanges", laid_unicode_utf8_acceptRanges), ("unicode/utf8.first", laid_unicode_utf8_first)] }
def RelocKegSaid : Prop := relocKegRow.holds Tryd.pinned (OpenSpec.ofChange relocKegSpec)

/-- ITS FALSE NEIGHBOUR: 'it returns false'. Refute it at one input. -/
def relocKegWrong : ChangeSpec := { name := "relocKeg", fn := fun _ => fun
  | [d1, d2, d3] => { results := [.lit (.bool false)], args := [d1, d2, d3] }
  | _ => none }
def RelocKegWrongFalsely : Prop := relocKegRow.holds Tryd.pinned (OpenSpec.ofChange relocKegWrong)

/- THE SECOND FORM. 'bulk': how many values and letters a reading holds, each counted each time it is reached (what is shared counts as often as it is met; a slice's spare places count too). A statement '..UptoSaid' is the law's where the arguments, and the package variables that the reading takes, are together of bulk at most 1048576: NARROWER than '..Said'. Prove '..Said' where nothing that the law and all that it calls make is longer than what came in: it says more and counts as full. Else prove '..UptoSaid'. A law counts once. -/
mutual
def uptoBulk {H : Type} : DataW H → Nat
  | .lit (.string bytes) => bytes.length + 1
  | .lit _ => 1
  | .nil => 1
  | .ptr d => uptoBulk d + 1
  | .slice elems spare => uptoBulkAll elems + uptoBulkAll spare + 1
  | .agg parts => uptoBulkAll parts + 1
  | .iface _ d => uptoBulk d + 1
  | .map entries => uptoBulkEntries entries + 1
  | .held _ => 1
def uptoBulkAll {H : Type} : List (DataW H) → Nat
  | [] => 0
  | d :: r => uptoBulk d + uptoBulkAll r
def uptoBulkEntries {H : Type} : List (Lit × DataW H) → Nat
  | [] => 0
  | x :: r => uptoBulkEntry x + uptoBulkEntries r
def uptoBulkEntry {H : Type} : Lit × DataW H → Nat
  | (.string bytes, d) => bytes.length + uptoBulk d + 1
  | (_, d) => uptoBulk d + 1
 end
def uptoSmall : (H : Type) → List (DataW H) → Bool := fun _ ds => decide (uptoBulkAll ds ≤ 1048576)
def OpenSpec.upto (s : _root_.Go.ChangeSpec) : _root_.Go.OpenSpec := { _root_.Go.OpenSpec.ofChange s with cond := some uptoSmall }

/-- 'puncheonlaw14.RelocTells', WHERE WHAT IT READS IS OF BULK AT MOST 1048576: true; the input reads as it did. -/
def relocTellsUptoRow : OpenClaim := { program := "ytophihnjlodmjaadoor", sum := "d49250471f51f5e59fb448af762f9769e14bd473a7b6ea0818c23cf0481882a5", func := "puncheon/puncheonlaw14.RelocTells", spec := "relocTells", inPlace := ["internal/bytealg.IndexByteString", "internal/bytealg.IndexString", "internal/bytealg.IndexByte", "internal/bytealg.Index"], unfollowed := true, recurses := true, named := ["internal/bytealg.MaxLen", "unicode/utf8.first", "unicode/utf8.acceptRanges"], apart := false, laid := [("unicode/utf8.acceptRanges", laid_unicode_utf8_acceptRanges), ("unicode/utf8.first", laid_unicode_utf8_first)], narrowed := true }
def RelocTellsUptoSaid : Prop := relocTellsUptoRow.holds Tryd.pinned (OpenSpec.upto relocTellsSpec)

/-- 'puncheonlaw14.RelocMoves', WHERE WHAT IT READS IS OF BULK AT MOST 1048576: true; the input reads as it did. -/
def relocMovesUptoRow : OpenClaim := { program := "ytophihnjlodmjaadoor", sum := "d49250471f51f5e59fb448af762f9769e14bd473a7b6ea0818c23cf0481882a5", func := "puncheon/puncheonlaw14.RelocMoves", spec := "relocMoves", inPlace := ["internal/bytealg.IndexByteString", "internal/bytealg.IndexString", "internal/bytealg.IndexByte", "internal/bytealg.Index"], unfollowed := true, recurses := true, named := ["internal/bytealg.MaxLen", "unicode/utf8.first", "unicode/utf8.acceptRanges"], apart := false, laid := [("unicode/utf8.acceptRanges", laid_unicode_utf8_acceptRanges), ("unicode/utf8.first", laid_unicode_utf8_first)], narrowed := true }
def RelocMovesUptoSaid : Prop := relocMovesUptoRow.holds Tryd.pinned (OpenSpec.upto relocMovesSpec)

/-- 'puncheonlaw14.RelocLeaves', WHERE WHAT IT READS IS OF BULK AT MOST 1048576: true; the input reads as it did. -/
def relocLeavesUptoRow : OpenClaim := { program := "ytophihnjlodmjaadoor", sum := "d49250471f51f5e59fb448af762f9769e14bd473a7b6ea0818c23cf0481882a5", func := "puncheon/puncheonlaw14.RelocLeaves", spec := "relocLeaves", inPlace := ["internal/bytealg.IndexByteString", "internal/bytealg.IndexString", "internal/bytealg.IndexByte", "internal/bytealg.Index", "internal/bytealg.abigen_runtime_cmpstring"], unfollowed := true, recurses := true, named := ["internal/bytealg.MaxLen", "unicode/utf8.first", "unicode/utf8.acceptRanges"], apart := false, laid := [("unicode/utf8.acceptRanges", laid_unicode_utf8_acceptRanges), ("unicode/utf8.first", laid_unicode_utf8_first)], narrowed := true }
def RelocLeavesUptoSaid : Prop := relocLeavesUptoRow.holds Tryd.pinned (OpenSpec.upto relocLeavesSpec)

/-- 'puncheonlaw14.RelocBack', WHERE WHAT IT READS IS OF BULK AT MOST 1048576: true; the input reads as it did. -/
def relocBackUptoRow : OpenClaim := { program := "ytophihnjlodmjaadoor", sum := "d49250471f51f5e59fb448af762f9769e14bd473a7b6ea0818c23cf0481882a5", func := "puncheon/puncheonlaw14.RelocBack", spec := "relocBack", inPlace := ["internal/bytealg.IndexByteString", "internal/bytealg.IndexString", "internal/bytealg.IndexByte", "internal/bytealg.Index", "internal/bytealg.CountString"], unfollowed := true, recurses := true, named := ["internal/bytealg.MaxLen", "unicode/utf8.first", "unicode/utf8.acceptRanges"], apart := false, laid := [("unicode/utf8.acceptRanges", laid_unicode_utf8_acceptRanges), ("unicode/utf8.first", laid_unicode_utf8_first)], narrowed := true }
def RelocBackUptoSaid : Prop := relocBackUptoRow.holds Tryd.pinned (OpenSpec.upto relocBackSpec)

/-- 'puncheonlaw14.RelocLong', WHERE WHAT IT READS IS OF BULK AT MOST 1048576: true; the input reads as it did. -/
def relocLongUptoRow : OpenClaim := { program := "ytophihnjlodmjaadoor", sum := "d49250471f51f5e59fb448af762f9769e14bd473a7b6ea0818c23cf0481882a5", func := "puncheon/puncheonlaw14.RelocLong", spec := "relocLong", inPlace := ["internal/bytealg.IndexByteString", "internal/bytealg.IndexString", "internal/bytealg.IndexByte", "internal/bytealg.Index", "internal/bytealg.CountString"], unfollowed := true, recurses := true, named := ["internal/bytealg.MaxLen", "unicode/utf8.first", "unicode/utf8.acceptRanges"], apart := false, laid := [("unicode/utf8.acceptRanges", laid_unicode_utf8_acceptRanges), ("unicode/utf8.first", laid_unicode_utf8_first)], narrowed := true }
def RelocLongUptoSaid : Prop := relocLongUptoRow.holds Tryd.pinned (OpenSpec.upto relocLongSpec)

/-- 'puncheonlaw14.RelocKeg', WHERE WHAT IT READS IS OF BULK AT MOST 1048576: true; the input reads as it did. -/
def relocKegUptoRow : OpenClaim := { program := "ytophihnjlodmjaadoor", sum := "d49250471f51f5e59fb448af762f9769e14bd473a7b6ea0818c23cf0481882a5", func := "puncheon/puncheonlaw14.RelocKeg", spec := "relocKeg", inPlace := ["internal/bytealg.IndexByteString", "internal/bytealg.IndexString", "internal/bytealg.IndexByte", "internal/bytealg.Index", "internal/bytealg.abigen_runtime_cmpstring", "internal/bytealg.CountString"], unfollowed := true, recurses := true, named := ["internal/bytealg.MaxLen", "unicode/utf8.first", "unicode/utf8.acceptRanges"], apart := false, laid := [("unicode/utf8.acceptRanges", laid_unicode_utf8_acceptRanges), ("unicode/utf8.first", laid_unicode_utf8_first)], narrowed := true }
def RelocKegUptoSaid : Prop := relocKegUptoRow.holds Tryd.pinned (OpenSpec.upto relocKegSpec)

end Rows
end Go.Proofs.YtophihnjlodmjaaDoor
