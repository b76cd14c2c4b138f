/-
  NARROWER THAN 'FOR EVERY INPUT', by the rows' own cells (each row's printed sentence says how): TreeApart: laid · TreeBack: laid · TreeOnce: laid · WalkLeads: laid · WalkLooks: laid · WalkEnds: laid · WalkPlain: laid · WalkStacks: laid.
  DERIVED. THE GIVEN ROWS OF THIS SEAT. 8 by the template 'for every input the law returns true; each argument reads behind the call as it read before'; 0 by the template 'total and deterministic' (their statements: YtiakedoebecgpaaDoorTotals.lean).
  GIVEN WITH THE SEED: the statements are not yours to turn. If you find one false, say at which input.
  Laid BY PROGRAM, IN A SANDBOX (cutbox-rows.mjs): the forced cells as the released guide's own fill.sh prints them over the translation c7866ec45e9d6cc8… (all of the seat's roots in one cut). By AI agents, Wed Nov 11 2026. No macro, syntax, notation, axiom, sorry.
-/
import Derived.Test.YtiakedoebecgpaaDoorChecked
import GoSem.PinnedTables
import GoSem.Claim
import GoSem.ClaimJoined
import GoSem.ClaimMapViews
import Derived.JoinedTies
import Derived.KernelRfl
namespace Go.Proofs.YtiakedoebecgpaaDoor
/- THE CELL 'sum', in the pinned program and in every row, IS THE sha256 OF THE DUMP (.gsa) THAT YtiakedoebecgpaaDoorProg.lean LOADS. Nothing in Lean hashes anything: it is a label: what it is worth is what the hold of that sum in a sandbox is worth. -/
noncomputable def Tryd.pinned : Pinned := { name := "ytiakedoebecgpaadoor", sum := "c7866ec45e9d6cc8938be0bcf605ac510cba83266a62c098b4faf90edd7b6dbb", checked := Tryd.checked }
namespace Rows
def none {H : Type} : Left H := { results := [], args := [] }

/- WHAT THE LISTED PACKAGE-LEVEL VARIABLES READ AS WHEN THE CALL BEGINS. Each datum BY PROGRAM (the guide's laid-datum.mjs) off the statement by which the dump's own 'gosem.cut.vars' lays the variable. In a bare row this is a premise. The card (YtiakedoebecgpaaDoorCards.lean) ties it to the program's text. -/
def laid_puncheon_tree_root {H : Type} : DataW H := .agg [.lit (.string [47]), .lit (.int .i64 1), .lit (.string [])]
def laid_puncheon_tree_shapes {H : Type} : DataW H := .agg [.agg [.lit (.bool false), .lit (.int .i64 0), .lit (.int .i64 0)], .agg [.lit (.bool false), .lit (.int .i64 0), .lit (.int .i64 0)], .agg [.lit (.bool false), .lit (.int .i64 0), .lit (.int .i64 524288)], .agg [.lit (.bool false), .lit (.int .i64 0), .lit (.int .i64 524288)], .agg [.lit (.bool false), .lit (.int .i64 1), .lit (.int .i64 2000)], .agg [.lit (.bool true), .lit (.int .i64 0), .lit (.int .i64 0)], .agg [.lit (.bool false), .lit (.int .i64 0), .lit (.int .i64 0)], .agg [.lit (.bool false), .lit (.int .i64 0), .lit (.int .i64 0)]]
def laid_unicode_utf8_acceptRanges {H : Type} : DataW H := .agg [.agg [.lit (.int .u8 128), .lit (.int .u8 191)], .agg [.lit (.int .u8 160), .lit (.int .u8 191)], .agg [.lit (.int .u8 128), .lit (.int .u8 159)], .agg [.lit (.int .u8 144), .lit (.int .u8 191)], .agg [.lit (.int .u8 128), .lit (.int .u8 143)], .agg [.lit (.int .u8 0), .lit (.int .u8 0)], .agg [.lit (.int .u8 0), .lit (.int .u8 0)], .agg [.lit (.int .u8 0), .lit (.int .u8 0)], .agg [.lit (.int .u8 0), .lit (.int .u8 0)], .agg [.lit (.int .u8 0), .lit (.int .u8 0)], .agg [.lit (.int .u8 0), .lit (.int .u8 0)], .agg [.lit (.int .u8 0), .lit (.int .u8 0)], .agg [.lit (.int .u8 0), .lit (.int .u8 0)], .agg [.lit (.int .u8 0), .lit (.int .u8 0)], .agg [.lit (.int .u8 0), .lit (.int .u8 0)], .agg [.lit (.int .u8 0), .lit (.int .u8 0)]]
def laid_puncheon_walk_root {H : Type} : DataW H := .agg [.lit (.string [47]), .lit (.int .i64 1), .lit (.string [])]
/-- One of Go's own tables, pinned by name: the form's constant. -/
def laid_unicode_utf8_first : DataW Unit := Go.Pinned.utf8First

/-- 'puncheonlaw06.TreeApart': WHATEVER THE INPUT: true; the input reads as it did. -/
def treeApartSpec : ChangeSpec := { name := "treeApart", fn := fun _ => fun
  | [d1, d2] => { results := [.lit (.bool true)], args := [d1, d2] }
  | _ => none }
def treeApartRow : OpenClaim := { program := "ytiakedoebecgpaadoor", sum := "c7866ec45e9d6cc8938be0bcf605ac510cba83266a62c098b4faf90edd7b6dbb", func := "puncheon/puncheonlaw06.TreeApart", spec := "treeApart", inPlace := ["internal/bytealg.IndexByteString", "internal/bytealg.IndexString", "internal/bytealg.abigen_runtime_cmpstring", "slices.overlaps[puncheon/api.Item]", "internal/bytealg.CountString", "internal/abi.NoEscape", "internal/bytealg.MakeNoZero"], unfollowed := true, recurses := true, named := ["puncheon/tree.root", "internal/bytealg.MaxLen", "puncheon/tree.shapes"], apart := false, laid := [("puncheon/tree.root", laid_puncheon_tree_root), ("puncheon/tree.shapes", laid_puncheon_tree_shapes)] }
def TreeApartSaid : Prop := treeApartRow.holds Tryd.pinned (OpenSpec.ofChange treeApartSpec)

/-- ITS FALSE NEIGHBOUR: 'it returns false'. Refute it at one input. -/
def treeApartWrong : ChangeSpec := { name := "treeApart", fn := fun _ => fun
  | [d1, d2] => { results := [.lit (.bool false)], args := [d1, d2] }
  | _ => none }
def TreeApartWrongFalsely : Prop := treeApartRow.holds Tryd.pinned (OpenSpec.ofChange treeApartWrong)

/-- 'puncheonlaw06.TreeBack': WHATEVER THE INPUT: true; the input reads as it did. -/
def treeBackSpec : ChangeSpec := { name := "treeBack", fn := fun _ => fun
  | [d1, d2] => { results := [.lit (.bool true)], args := [d1, d2] }
  | _ => none }
def treeBackRow : OpenClaim := { program := "ytiakedoebecgpaadoor", sum := "c7866ec45e9d6cc8938be0bcf605ac510cba83266a62c098b4faf90edd7b6dbb", func := "puncheon/puncheonlaw06.TreeBack", spec := "treeBack", inPlace := ["internal/bytealg.IndexByteString", "internal/bytealg.IndexString", "internal/bytealg.abigen_runtime_cmpstring", "slices.overlaps[puncheon/api.Item]", "internal/bytealg.CountString", "internal/abi.NoEscape", "internal/bytealg.MakeNoZero"], unfollowed := true, recurses := true, named := ["puncheon/tree.root", "internal/bytealg.MaxLen", "puncheon/tree.shapes"], apart := false, laid := [("puncheon/tree.root", laid_puncheon_tree_root), ("puncheon/tree.shapes", laid_puncheon_tree_shapes)] }
def TreeBackSaid : Prop := treeBackRow.holds Tryd.pinned (OpenSpec.ofChange treeBackSpec)

/-- ITS FALSE NEIGHBOUR: 'it returns false'. Refute it at one input. -/
def treeBackWrong : ChangeSpec := { name := "treeBack", fn := fun _ => fun
  | [d1, d2] => { results := [.lit (.bool false)], args := [d1, d2] }
  | _ => none }
def TreeBackWrongFalsely : Prop := treeBackRow.holds Tryd.pinned (OpenSpec.ofChange treeBackWrong)

/-- 'puncheonlaw06.TreeOnce': WHATEVER THE INPUT: true; the input reads as it did. -/
def treeOnceSpec : ChangeSpec := { name := "treeOnce", fn := fun _ => fun
  | [d1, d2, d3] => { results := [.lit (.bool true)], args := [d1, d2, d3] }
  | _ => none }
def treeOnceRow : OpenClaim := { program := "ytiakedoebecgpaadoor", sum := "c7866ec45e9d6cc8938be0bcf605ac510cba83266a62c098b4faf90edd7b6dbb", func := "puncheon/puncheonlaw06.TreeOnce", spec := "treeOnce", inPlace := ["internal/bytealg.IndexByteString", "internal/bytealg.IndexString", "internal/bytealg.abigen_runtime_cmpstring", "slices.overlaps[puncheon/api.Item]", "internal/bytealg.CountString", "internal/abi.NoEscape", "internal/bytealg.MakeNoZero"], unfollowed := true, recurses := true, named := ["puncheon/tree.root", "internal/bytealg.MaxLen", "puncheon/tree.shapes"], apart := false, laid := [("puncheon/tree.root", laid_puncheon_tree_root), ("puncheon/tree.shapes", laid_puncheon_tree_shapes)] }
def TreeOnceSaid : Prop := treeOnceRow.holds Tryd.pinned (OpenSpec.ofChange treeOnceSpec)

/-- ITS FALSE NEIGHBOUR: 'it returns false'. Refute it at one input. -/
def treeOnceWrong : ChangeSpec := { name := "treeOnce", fn := fun _ => fun
  | [d1, d2, d3] => { results := [.lit (.bool false)], args := [d1, d2, d3] }
  | _ => none }
def TreeOnceWrongFalsely : Prop := treeOnceRow.holds Tryd.pinned (OpenSpec.ofChange treeOnceWrong)

/-- 'puncheonlaw07.WalkLeads': WHATEVER THE INPUT: true; the input reads as it did. -/
def walkLeadsSpec : ChangeSpec := { name := "walkLeads", fn := fun _ => fun
  | [d1, d2, d3] => { results := [.lit (.bool true)], args := [d1, d2, d3] }
  | _ => none }
def walkLeadsRow : OpenClaim := { program := "ytiakedoebecgpaadoor", sum := "c7866ec45e9d6cc8938be0bcf605ac510cba83266a62c098b4faf90edd7b6dbb", func := "puncheon/puncheonlaw07.WalkLeads", spec := "walkLeads", inPlace := ["internal/bytealg.IndexByteString", "internal/bytealg.IndexString", "internal/bytealg.CountString"], unfollowed := true, recurses := true, named := ["puncheon/tree.root", "internal/bytealg.MaxLen", "puncheon/walk.root", "unicode/utf8.first", "unicode/utf8.acceptRanges"], apart := false, laid := [("unicode/utf8.acceptRanges", laid_unicode_utf8_acceptRanges), ("puncheon/tree.root", laid_puncheon_tree_root), ("puncheon/walk.root", laid_puncheon_walk_root), ("unicode/utf8.first", laid_unicode_utf8_first)] }
def WalkLeadsSaid : Prop := walkLeadsRow.holds Tryd.pinned (OpenSpec.ofChange walkLeadsSpec)

/-- ITS FALSE NEIGHBOUR: 'it returns false'. Refute it at one input. -/
def walkLeadsWrong : ChangeSpec := { name := "walkLeads", fn := fun _ => fun
  | [d1, d2, d3] => { results := [.lit (.bool false)], args := [d1, d2, d3] }
  | _ => none }
def WalkLeadsWrongFalsely : Prop := walkLeadsRow.holds Tryd.pinned (OpenSpec.ofChange walkLeadsWrong)

/-- 'puncheonlaw07.WalkLooks': WHATEVER THE INPUT: true; the input reads as it did. -/
def walkLooksSpec : ChangeSpec := { name := "walkLooks", fn := fun _ => fun
  | [d1, d2, d3] => { results := [.lit (.bool true)], args := [d1, d2, d3] }
  | _ => none }
def walkLooksRow : OpenClaim := { program := "ytiakedoebecgpaadoor", sum := "c7866ec45e9d6cc8938be0bcf605ac510cba83266a62c098b4faf90edd7b6dbb", func := "puncheon/puncheonlaw07.WalkLooks", spec := "walkLooks", inPlace := ["internal/bytealg.IndexByteString", "internal/bytealg.IndexString", "internal/bytealg.CountString"], unfollowed := true, recurses := true, named := ["puncheon/tree.root", "internal/bytealg.MaxLen", "puncheon/walk.root", "unicode/utf8.first", "unicode/utf8.acceptRanges"], apart := false, laid := [("unicode/utf8.acceptRanges", laid_unicode_utf8_acceptRanges), ("puncheon/tree.root", laid_puncheon_tree_root), ("puncheon/walk.root", laid_puncheon_walk_root), ("unicode/utf8.first", laid_unicode_utf8_first)] }
def WalkLooksSaid : Prop := walkLooksRow.holds Tryd.pinned (OpenSpec.ofChange walkLooksSpec)

/-- ITS FALSE NEIGHBOUR: 'it returns false'. Refute it at one input. -/
def walkLooksWrong : ChangeSpec := { name := "walkLooks", fn := fun _ => fun
  | [d1, d2, d3] => { results := [.lit (.bool false)], args := [d1, d2, d3] }
  | _ => none }
def WalkLooksWrongFalsely : Prop := walkLooksRow.holds Tryd.pinned (OpenSpec.ofChange walkLooksWrong)

/-- 'puncheonlaw07.WalkEnds': WHATEVER THE INPUT: true; the input reads as it did. -/
def walkEndsSpec : ChangeSpec := { name := "walkEnds", fn := fun _ => fun
  | [d1, d2, d3] => { results := [.lit (.bool true)], args := [d1, d2, d3] }
  | _ => none }
def walkEndsRow : OpenClaim := { program := "ytiakedoebecgpaadoor", sum := "c7866ec45e9d6cc8938be0bcf605ac510cba83266a62c098b4faf90edd7b6dbb", func := "puncheon/puncheonlaw07.WalkEnds", spec := "walkEnds", inPlace := ["internal/bytealg.IndexByteString", "internal/bytealg.IndexString", "internal/bytealg.CountString", "internal/bytealg.abigen_runtime_cmpstring"], unfollowed := true, recurses := true, named := ["puncheon/tree.root", "internal/bytealg.MaxLen", "puncheon/walk.root", "unicode/utf8.first", "unicode/utf8.acceptRanges"], apart := false, laid := [("unicode/utf8.acceptRanges", laid_unicode_utf8_acceptRanges), ("puncheon/tree.root", laid_puncheon_tree_root), ("puncheon/walk.root", laid_puncheon_walk_root), ("unicode/utf8.first", laid_unicode_utf8_first)] }
def WalkEndsSaid : Prop := walkEndsRow.holds Tryd.pinned (OpenSpec.ofChange walkEndsSpec)

/-- ITS FALSE NEIGHBOUR: 'it returns false'. Refute it at one input. -/
def walkEndsWrong : ChangeSpec := { name := "walkEnds", fn := fun _ => fun
  | [d1, d2, d3] => { results := [.lit (.bool false)], args := [d1, d2, d3] }
  | _ => none }
def WalkEndsWrongFalsely : Prop := walkEndsRow.holds Tryd.pinned (OpenSpec.ofChange walkEndsWrong)

/-- 'puncheonlaw07.WalkPlain': WHATEVER THE INPUT: true; the input reads as it did. -/
def walkPlainSpec : ChangeSpec := { name := "walkPlain", fn := fun _ => fun
  | [d1, d2, d3] => { results := [.lit (.bool true)], args := [d1, d2, d3] }
  | _ => none }
def walkPlainRow : OpenClaim := { program := "ytiakedoebecgpaadoor", sum := "c7866ec45e9d6cc8938be0bcf605ac510cba83266a62c098b4faf90edd7b6dbb", func := "puncheon/puncheonlaw07.WalkPlain", spec := "walkPlain", inPlace := ["internal/bytealg.IndexByteString", "internal/bytealg.IndexString", "internal/bytealg.CountString", "internal/abi.NoEscape", "internal/bytealg.MakeNoZero"], unfollowed := true, recurses := true, named := ["puncheon/tree.root", "internal/bytealg.MaxLen", "puncheon/walk.root", "unicode/utf8.first", "unicode/utf8.acceptRanges"], apart := false, laid := [("unicode/utf8.acceptRanges", laid_unicode_utf8_acceptRanges), ("puncheon/tree.root", laid_puncheon_tree_root), ("puncheon/walk.root", laid_puncheon_walk_root), ("unicode/utf8.first", laid_unicode_utf8_first)] }
def WalkPlainSaid : Prop := walkPlainRow.holds Tryd.pinned (OpenSpec.ofChange walkPlainSpec)

/-- ITS FALSE NEIGHBOUR: 'it returns false'. Refute it at one input. -/
def walkPlainWrong : ChangeSpec := { name := "walkPlain", fn := fun _ => fun
  | [d1, d2, d3] => { results := [.lit (.bool false)], args := [d1, d2, d3] }
  | _ => none }
def WalkPlainWrongFalsely : Prop := walkPlainRow.holds Tryd.pinned (OpenSpec.ofChange walkPlainWrong)

/-- 'puncheonlaw07.WalkStacks': WHATEVER THE INPUT: true; the input reads as it did. -/
def walkStacksSpec : ChangeSpec := { name := "walkStacks", fn := fun _ => fun
  | [d1, d2, d3] => { results := [.lit (.bool true)], args := [d1, d2, d3] }
  | _ => none }
def walkStacksRow : OpenClaim := { program := "ytiakedoebecgpaadoor", sum := "c7866ec45e9d6cc8938be0bcf605ac510cba83266a62c098b4faf90edd7b6dbb", func := "puncheon/puncheonlaw07.WalkStacks", spec := "walkStacks", inPlace := ["internal/bytealg.IndexByteString", "internal/bytealg.IndexString", "internal/bytealg.CountString"], unfollowed := true, recurses := true, named := ["puncheon/tree.root", "internal/bytealg.MaxLen", "puncheon/walk.root", "unicode/utf8.first", "unicode/utf8.acceptRanges"], apart := false, laid := [("unicode/utf8.acceptRanges", laid_unicode_utf8_acceptRanges), ("puncheon/tree.root", laid_puncheon_tree_root), ("puncheon/walk.root", laid_puncheon_walk_root), ("unicode/utf8.first", laid_unicode_utf8_first)] }
def WalkStacksSaid : Prop := walkStacksRow.holds Tryd.pinned (OpenSpec.ofChange walkStacksSpec)

/-- ITS FALSE NEIGHBOUR: 'it returns false'. Refute it at one input. -/
def walkStacksWrong : ChangeSpec := { name := "walkStacks", fn := fun _ => fun
  | [d1, d2, d3] => { results := [.lit (.bool false)], args := [d1, d2, d3] }
  | _ => none }
def WalkStacksWrongFalsely : Prop := walkStacksRow.holds Tryd.pinned (OpenSpec.ofChange walkStacksWrong)

/- THE SECOND FORM. 'bulk': how many values and letters a reading holds, each counted each time it is reached (what is shared counts as often as it is met; a slice's spare places count too). A statement '..UptoSaid' is the law's where the arguments, and the package variables that the reading takes, are together of bulk at most 1048576: NARROWER than '..Said'. Prove '..Said' where nothing that the law and all that it calls make is longer than what came in: it says more and counts as full. Else prove '..UptoSaid'. A law counts once. -/
mutual
def uptoBulk {H : Type} : DataW H → Nat
  | .lit (.string bytes) => bytes.length + 1
  | .lit _ => 1
  | .nil => 1
  | .ptr d => uptoBulk d + 1
  | .slice elems spare => uptoBulkAll elems + uptoBulkAll spare + 1
  | .agg parts => uptoBulkAll parts + 1
  | .iface _ d => uptoBulk d + 1
  | .map entries => uptoBulkEntries entries + 1
  | .held _ => 1
def uptoBulkAll {H : Type} : List (DataW H) → Nat
  | [] => 0
  | d :: r => uptoBulk d + uptoBulkAll r
def uptoBulkEntries {H : Type} : List (Lit × DataW H) → Nat
  | [] => 0
  | x :: r => uptoBulkEntry x + uptoBulkEntries r
def uptoBulkEntry {H : Type} : Lit × DataW H → Nat
  | (.string bytes, d) => bytes.length + uptoBulk d + 1
  | (_, d) => uptoBulk d + 1
 end
def uptoSmall : (H : Type) → List (DataW H) → Bool := fun _ ds => decide (uptoBulkAll ds ≤ 1048576)
def OpenSpec.upto (s : _root_.Go.ChangeSpec) : _root_.Go.OpenSpec := { _root_.Go.OpenSpec.ofChange s with cond := some uptoSmall }

/-- 'puncheonlaw06.TreeApart', WHERE WHAT IT READS IS OF BULK AT MOST 1048576: true; the input reads as it did. -/
def treeApartUptoRow : OpenClaim := { program := "ytiakedoebecgpaadoor", sum := "c7866ec45e9d6cc8938be0bcf605ac510cba83266a62c098b4faf90edd7b6dbb", func := "puncheon/puncheonlaw06.TreeApart", spec := "treeApart", inPlace := ["internal/bytealg.IndexByteString", "internal/bytealg.IndexString", "internal/bytealg.abigen_runtime_cmpstring", "slices.overlaps[puncheon/api.Item]", "internal/bytealg.CountString", "internal/abi.NoEscape", "internal/bytealg.MakeNoZero"], unfollowed := true, recurses := true, named := ["puncheon/tree.root", "internal/bytealg.MaxLen", "puncheon/tree.shapes"], apart := false, laid := [("puncheon/tree.root", laid_puncheon_tree_root), ("puncheon/tree.shapes", laid_puncheon_tree_shapes)], narrowed := true }
def TreeApartUptoSaid : Prop := treeApartUptoRow.holds Tryd.pinned (OpenSpec.upto treeApartSpec)

/-- 'puncheonlaw06.TreeBack', WHERE WHAT IT READS IS OF BULK AT MOST 1048576: true; the input reads as it did. -/
def treeBackUptoRow : OpenClaim := { program := "ytiakedoebecgpaadoor", sum := "c7866ec45e9d6cc8938be0bcf605ac510cba83266a62c098b4faf90edd7b6dbb", func := "puncheon/puncheonlaw06.TreeBack", spec := "treeBack", inPlace := ["internal/bytealg.IndexByteString", "internal/bytealg.IndexString", "internal/bytealg.abigen_runtime_cmpstring", "slices.overlaps[puncheon/api.Item]", "internal/bytealg.CountString", "internal/abi.NoEscape", "internal/bytealg.MakeNoZero"], unfollowed := true, recurses := true, named := ["puncheon/tree.root", "internal/bytealg.MaxLen", "puncheon/tree.shapes"], apart := false, laid := [("puncheon/tree.root", laid_puncheon_tree_root), ("puncheon/tree.shapes", laid_puncheon_tree_shapes)], narrowed := true }
def TreeBackUptoSaid : Prop := treeBackUptoRow.holds Tryd.pinned (OpenSpec.upto treeBackSpec)

/-- 'puncheonlaw06.TreeOnce', WHERE WHAT IT READS IS OF BULK AT MOST 1048576: true; the input reads as it did. -/
def treeOnceUptoRow : OpenClaim := { program := "ytiakedoebecgpaadoor", sum := "c7866ec45e9d6cc8938be0bcf605ac510cba83266a62c098b4faf90edd7b6dbb", func := "puncheon/puncheonlaw06.TreeOnce", spec := "treeOnce", inPlace := ["internal/bytealg.IndexByteString", "internal/bytealg.IndexString", "internal/bytealg.abigen_runtime_cmpstring", "slices.overlaps[puncheon/api.Item]", "internal/bytealg.CountString", "internal/abi.NoEscape", "internal/bytealg.MakeNoZero"], unfollowed := true, recurses := true, named := ["puncheon/tree.root", "internal/bytealg.MaxLen", "puncheon/tree.shapes"], apart := false, laid := [("puncheon/tree.root", laid_puncheon_tree_root), ("puncheon/tree.shapes", laid_puncheon_tree_shapes)], narrowed := true }
def TreeOnceUptoSaid : Prop := treeOnceUptoRow.holds Tryd.pinned (OpenSpec.upto treeOnceSpec)

/-- 'puncheonlaw07.WalkLeads', WHERE WHAT IT READS IS OF BULK AT MOST 1048576: true; the input reads as it did. -/
def walkLeadsUptoRow : OpenClaim := { program := "ytiakedoebecgpaadoor", sum := "c7866ec45e9d6cc8938be0bcf605ac510cba83266a62c098b4faf90edd7b6dbb", func := "puncheon/puncheonlaw07.WalkLeads", spec := "walkLeads", inPlace := ["internal/bytealg.IndexByteString", "internal/bytealg.IndexString", "internal/bytealg.CountString"], unfollowed := true, recurses := true, named := ["puncheon/tree.root", "internal/bytealg.MaxLen", "puncheon/walk.root", "unicode/utf8.first", "unicode/utf8.acceptRanges"], apart := false, laid := [("unicode/utf8.acceptRanges", laid_unicode_utf8_acceptRanges), ("puncheon/tree.root", laid_puncheon_tree_root), ("puncheon/walk.root", laid_puncheon_walk_root), ("unicode/utf8.first", laid_unicode_utf8_first)], narrowed := true }
def WalkLeadsUptoSaid : Prop := walkLeadsUptoRow.holds Tryd.pinned (OpenSpec.upto walkLeadsSpec)

/-- 'puncheonlaw07.WalkLooks', WHERE WHAT IT READS IS OF BULK AT MOST 1048576: true; the input reads as it did. -/
def walkLooksUptoRow : OpenClaim := { program := "ytiakedoebecgpaadoor", sum := "c7866ec45e9d6cc8938be0bcf605ac510cba83266a62c098b4faf90edd7b6dbb", func := "puncheon/puncheonlaw07.WalkLooks", spec := "walkLooks", inPlace := ["internal/bytealg.IndexByteString", "internal/bytealg.IndexString", "internal/bytealg.CountString"], unfollowed := true, recurses := true, named := ["puncheon/tree.root", "internal/bytealg.MaxLen", "puncheon/walk.root", "unicode/utf8.first", "unicode/utf8.acceptRanges"], apart := false, laid := [("unicode/utf8.acceptRanges", laid_unicode_utf8_acceptRanges), ("puncheon/tree.root", laid_puncheon_tree_root), ("puncheon/walk.root", laid_puncheon_walk_root), ("unicode/utf8.first", laid_unicode_utf8_first)], narrowed := true }
def WalkLooksUptoSaid : Prop := walkLooksUptoRow.holds Tryd.pinned (OpenSpec.upto walkLooksSpec)

/-- 'puncheonlaw07.WalkEnds', WHERE WHAT IT READS IS OF BULK AT MOST 1048576: true; the input reads as it did. -/
def walkEndsUptoRow : OpenClaim := { program := "ytiakedoebecgpaadoor", sum := "c7866ec45e9d6cc8938be0bcf605ac510cba83266a62c098b4faf90edd7b6dbb", func := "puncheon/puncheonlaw07.WalkEnds", spec := "walkEnds", inPlace := ["internal/bytealg.IndexByteString", "internal/bytealg.IndexString", "internal/bytealg.CountString", "internal/bytealg.abigen_runtime_cmpstring"], unfollowed := true, recurses := true, named := ["puncheon/tree.root", "internal/bytealg.MaxLen", "puncheon/walk.root", "unicode/utf8.first", "unicode/utf8.acceptRanges"], apart := false, laid := [("unicode/utf8.acceptRanges", laid_unicode_utf8_acceptRanges), ("puncheon/tree.root", laid_puncheon_tree_root), ("puncheon/walk.root", laid_puncheon_walk_root), ("unicode/utf8.first", laid_unicode_utf8_first)], narrowed := true }
def WalkEndsUptoSaid : Prop := walkEndsUptoRow.holds Tryd.pinned (OpenSpec.upto walkEndsSpec)

/-- 'puncheonlaw07.WalkPlain', WHERE WHAT IT READS IS OF BULK AT MOST 1048576: true; the input reads as it did. -/
def walkPlainUptoRow : OpenClaim := { program := "ytiakedoebecgpaadoor", sum := "c7866ec45e9d6cc8938be0bcf605ac510cba83266a62c098b4faf90edd7b6dbb", func := "puncheon/puncheonlaw07.WalkPlain", spec := "walkPlain", inPlace := ["internal/bytealg.IndexByteString", "internal/bytealg.IndexString", "internal/bytealg.CountString", "internal/abi.NoEscape", "internal/bytealg.MakeNoZero"], unfollowed := true, recurses := true, named := ["puncheon/tree.root", "internal/bytealg.MaxLen", "puncheon/walk.root", "unicode/utf8.first", "unicode/utf8.acceptRanges"], apart := false, laid := [("unicode/utf8.acceptRanges", laid_unicode_utf8_acceptRanges), ("puncheon/tree.root", laid_puncheon_tree_root), ("puncheon/walk.root", laid_puncheon_walk_root), ("unicode/utf8.first", laid_unicode_utf8_first)], narrowed := true }
def WalkPlainUptoSaid : Prop := walkPlainUptoRow.holds Tryd.pinned (OpenSpec.upto walkPlainSpec)

/-- 'puncheonlaw07.WalkStacks', WHERE WHAT IT READS IS OF BULK AT MOST 1048576: true; the input reads as it did. -/
def walkStacksUptoRow : OpenClaim := { program := "ytiakedoebecgpaadoor", sum := "c7866ec45e9d6cc8938be0bcf605ac510cba83266a62c098b4faf90edd7b6dbb", func := "puncheon/puncheonlaw07.WalkStacks", spec := "walkStacks", inPlace := ["internal/bytealg.IndexByteString", "internal/bytealg.IndexString", "internal/bytealg.CountString"], unfollowed := true, recurses := true, named := ["puncheon/tree.root", "internal/bytealg.MaxLen", "puncheon/walk.root", "unicode/utf8.first", "unicode/utf8.acceptRanges"], apart := false, laid := [("unicode/utf8.acceptRanges", laid_unicode_utf8_acceptRanges), ("puncheon/tree.root", laid_puncheon_tree_root), ("puncheon/walk.root", laid_puncheon_walk_root), ("unicode/utf8.first", laid_unicode_utf8_first)], narrowed := true }
def WalkStacksUptoSaid : Prop := walkStacksUptoRow.holds Tryd.pinned (OpenSpec.upto walkStacksSpec)

end Rows
end Go.Proofs.YtiakedoebecgpaaDoor
