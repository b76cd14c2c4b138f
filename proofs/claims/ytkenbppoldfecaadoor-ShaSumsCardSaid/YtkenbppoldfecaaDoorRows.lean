/-
  NARROWER THAN 'FOR EVERY INPUT', by the rows' own cells (each row's printed sentence says how): ShaSums: laid · ShaTexts: laid · ShaParts: laid · ShaBack: laid · ShaRest: laid.
  DERIVED. THE GIVEN ROWS OF THIS SEAT. 5 by the template 'for every input the law returns true; each argument reads behind the call as it read before'; 0 by the template 'total and deterministic' (their statements: YtkenbppoldfecaaDoorTotals.lean).
  GIVEN WITH THE SEED: the statements are not yours to turn. If you find one false, say at which input.
  Laid BY PROGRAM, IN A SANDBOX (cutbox-rows.mjs): the forced cells as the released guide's own fill.sh prints them over the translation 7e671609765af96b… (all of the seat's roots in one cut). By AI agents, Wed Nov 11 2026. No macro, syntax, notation, axiom, sorry.
-/
import Derived.Test.YtkenbppoldfecaaDoorChecked
import GoSem.Claim
import GoSem.ClaimJoined
import GoSem.ClaimMapViews
import Derived.JoinedTies
import Derived.KernelRfl
namespace Go.Proofs.YtkenbppoldfecaaDoor
/- THE CELL 'sum', in the pinned program and in every row, IS THE sha256 OF THE DUMP (.gsa) THAT YtkenbppoldfecaaDoorProg.lean LOADS. Nothing in Lean hashes anything: it is a label: what it is worth is what the hold of that sum in a sandbox is worth. -/
noncomputable def Tryd.pinned : Pinned := { name := "ytkenbppoldfecaadoor", sum := "7e671609765af96bb3515a795e7dbc7ed391d0157f5369da289223521b8d5b41", checked := Tryd.checked }
namespace Rows
def none {H : Type} : Left H := { results := [], args := [] }

/- WHAT THE LISTED PACKAGE-LEVEL VARIABLES READ AS WHEN THE CALL BEGINS. Each datum BY PROGRAM (the guide's laid-datum.mjs) off the statement by which the dump's own 'gosem.cut.vars' lays the variable. In a bare row this is a premise. The card (YtkenbppoldfecaaDoorCards.lean) ties it to the program's text. -/
def laid_puncheon_sha_primes {H : Type} : DataW H := .agg [.lit (.int .u64 2), .lit (.int .u64 3), .lit (.int .u64 5), .lit (.int .u64 7), .lit (.int .u64 11), .lit (.int .u64 13), .lit (.int .u64 17), .lit (.int .u64 19), .lit (.int .u64 23), .lit (.int .u64 29), .lit (.int .u64 31), .lit (.int .u64 37), .lit (.int .u64 41), .lit (.int .u64 43), .lit (.int .u64 47), .lit (.int .u64 53), .lit (.int .u64 59), .lit (.int .u64 61), .lit (.int .u64 67), .lit (.int .u64 71), .lit (.int .u64 73), .lit (.int .u64 79), .lit (.int .u64 83), .lit (.int .u64 89), .lit (.int .u64 97), .lit (.int .u64 101), .lit (.int .u64 103), .lit (.int .u64 107), .lit (.int .u64 109), .lit (.int .u64 113), .lit (.int .u64 127), .lit (.int .u64 131), .lit (.int .u64 137), .lit (.int .u64 139), .lit (.int .u64 149), .lit (.int .u64 151), .lit (.int .u64 157), .lit (.int .u64 163), .lit (.int .u64 167), .lit (.int .u64 173), .lit (.int .u64 179), .lit (.int .u64 181), .lit (.int .u64 191), .lit (.int .u64 193), .lit (.int .u64 197), .lit (.int .u64 199), .lit (.int .u64 211), .lit (.int .u64 223), .lit (.int .u64 227), .lit (.int .u64 229), .lit (.int .u64 233), .lit (.int .u64 239), .lit (.int .u64 241), .lit (.int .u64 251), .lit (.int .u64 257), .lit (.int .u64 263), .lit (.int .u64 269), .lit (.int .u64 271), .lit (.int .u64 277), .lit (.int .u64 281), .lit (.int .u64 283), .lit (.int .u64 293), .lit (.int .u64 307), .lit (.int .u64 311)]

/-- 'puncheonlaw03.ShaSums': WHATEVER THE INPUT: true; the input reads as it did. -/
def shaSumsSpec : ChangeSpec := { name := "shaSums", fn := fun _ => fun
  | [d] => { results := [.lit (.bool true)], args := [d] }
  | _ => none }
def shaSumsRow : OpenClaim := { program := "ytkenbppoldfecaadoor", sum := "7e671609765af96bb3515a795e7dbc7ed391d0157f5369da289223521b8d5b41", func := "puncheon/puncheonlaw03.ShaSums", spec := "shaSums", inPlace := ["internal/bytealg.IndexByteString", "math/bits.Add64"], unfollowed := true, recurses := true, named := ["puncheon/sha.primes"], apart := false, laid := [("puncheon/sha.primes", laid_puncheon_sha_primes)] }
def ShaSumsSaid : Prop := shaSumsRow.holds Tryd.pinned (OpenSpec.ofChange shaSumsSpec)

/-- ITS FALSE NEIGHBOUR: 'it returns false'. Refute it at one input. -/
def shaSumsWrong : ChangeSpec := { name := "shaSums", fn := fun _ => fun
  | [d] => { results := [.lit (.bool false)], args := [d] }
  | _ => none }
def ShaSumsWrongFalsely : Prop := shaSumsRow.holds Tryd.pinned (OpenSpec.ofChange shaSumsWrong)

/-- 'puncheonlaw03.ShaTexts': WHATEVER THE INPUT: true; the input reads as it did. -/
def shaTextsSpec : ChangeSpec := { name := "shaTexts", fn := fun _ => fun
  | [d1, d2] => { results := [.lit (.bool true)], args := [d1, d2] }
  | _ => none }
def shaTextsRow : OpenClaim := { program := "ytkenbppoldfecaadoor", sum := "7e671609765af96bb3515a795e7dbc7ed391d0157f5369da289223521b8d5b41", func := "puncheon/puncheonlaw03.ShaTexts", spec := "shaTexts", inPlace := ["internal/bytealg.IndexByteString"], unfollowed := true, recurses := true, named := ["puncheon/sha.primes"], apart := false, laid := [("puncheon/sha.primes", laid_puncheon_sha_primes)] }
def ShaTextsSaid : Prop := shaTextsRow.holds Tryd.pinned (OpenSpec.ofChange shaTextsSpec)

/-- ITS FALSE NEIGHBOUR: 'it returns false'. Refute it at one input. -/
def shaTextsWrong : ChangeSpec := { name := "shaTexts", fn := fun _ => fun
  | [d1, d2] => { results := [.lit (.bool false)], args := [d1, d2] }
  | _ => none }
def ShaTextsWrongFalsely : Prop := shaTextsRow.holds Tryd.pinned (OpenSpec.ofChange shaTextsWrong)

/-- 'puncheonlaw03.ShaParts': WHATEVER THE INPUT: true; the input reads as it did. -/
def shaPartsSpec : ChangeSpec := { name := "shaParts", fn := fun _ => fun
  | [d1, d2] => { results := [.lit (.bool true)], args := [d1, d2] }
  | _ => none }
def shaPartsRow : OpenClaim := { program := "ytkenbppoldfecaadoor", sum := "7e671609765af96bb3515a795e7dbc7ed391d0157f5369da289223521b8d5b41", func := "puncheon/puncheonlaw03.ShaParts", spec := "shaParts", inPlace := ["internal/bytealg.IndexByteString"], unfollowed := true, recurses := true, named := ["puncheon/sha.primes"], apart := false, laid := [("puncheon/sha.primes", laid_puncheon_sha_primes)] }
def ShaPartsSaid : Prop := shaPartsRow.holds Tryd.pinned (OpenSpec.ofChange shaPartsSpec)

/-- ITS FALSE NEIGHBOUR: 'it returns false'. Refute it at one input. -/
def shaPartsWrong : ChangeSpec := { name := "shaParts", fn := fun _ => fun
  | [d1, d2] => { results := [.lit (.bool false)], args := [d1, d2] }
  | _ => none }
def ShaPartsWrongFalsely : Prop := shaPartsRow.holds Tryd.pinned (OpenSpec.ofChange shaPartsWrong)

/-- 'puncheonlaw03.ShaBack': WHATEVER THE INPUT: true; the input reads as it did. -/
def shaBackSpec : ChangeSpec := { name := "shaBack", fn := fun _ => fun
  | [d1, d2] => { results := [.lit (.bool true)], args := [d1, d2] }
  | _ => none }
def shaBackRow : OpenClaim := { program := "ytkenbppoldfecaadoor", sum := "7e671609765af96bb3515a795e7dbc7ed391d0157f5369da289223521b8d5b41", func := "puncheon/puncheonlaw03.ShaBack", spec := "shaBack", inPlace := ["internal/bytealg.IndexByteString"], unfollowed := true, recurses := true, named := ["puncheon/sha.primes"], apart := false, laid := [("puncheon/sha.primes", laid_puncheon_sha_primes)] }
def ShaBackSaid : Prop := shaBackRow.holds Tryd.pinned (OpenSpec.ofChange shaBackSpec)

/-- ITS FALSE NEIGHBOUR: 'it returns false'. Refute it at one input. -/
def shaBackWrong : ChangeSpec := { name := "shaBack", fn := fun _ => fun
  | [d1, d2] => { results := [.lit (.bool false)], args := [d1, d2] }
  | _ => none }
def ShaBackWrongFalsely : Prop := shaBackRow.holds Tryd.pinned (OpenSpec.ofChange shaBackWrong)

/-- 'puncheonlaw03.ShaRest': WHATEVER THE INPUT: true; the input reads as it did. -/
def shaRestSpec : ChangeSpec := { name := "shaRest", fn := fun _ => fun
  | [d1, d2] => { results := [.lit (.bool true)], args := [d1, d2] }
  | _ => none }
def shaRestRow : OpenClaim := { program := "ytkenbppoldfecaadoor", sum := "7e671609765af96bb3515a795e7dbc7ed391d0157f5369da289223521b8d5b41", func := "puncheon/puncheonlaw03.ShaRest", spec := "shaRest", inPlace := ["internal/bytealg.IndexByteString"], unfollowed := true, recurses := true, named := ["puncheon/sha.primes"], apart := false, laid := [("puncheon/sha.primes", laid_puncheon_sha_primes)] }
def ShaRestSaid : Prop := shaRestRow.holds Tryd.pinned (OpenSpec.ofChange shaRestSpec)

/-- ITS FALSE NEIGHBOUR: 'it returns false'. Refute it at one input. -/
def shaRestWrong : ChangeSpec := { name := "shaRest", fn := fun _ => fun
  | [d1, d2] => { results := [.lit (.bool false)], args := [d1, d2] }
  | _ => none }
def ShaRestWrongFalsely : Prop := shaRestRow.holds Tryd.pinned (OpenSpec.ofChange shaRestWrong)

/- THE SECOND FORM. 'bulk': how many values and letters a reading holds, each counted each time it is reached (what is shared counts as often as it is met; a slice's spare places count too). A statement '..UptoSaid' is the law's where the arguments, and the package variables that the reading takes, are together of bulk at most 1048576: NARROWER than '..Said'. Prove '..Said' where nothing that the law and all that it calls make is longer than what came in: it says more and counts as full. Else prove '..UptoSaid'. A law counts once. -/
mutual
def uptoBulk {H : Type} : DataW H → Nat
  | .lit (.string bytes) => bytes.length + 1
  | .lit _ => 1
  | .nil => 1
  | .ptr d => uptoBulk d + 1
  | .slice elems spare => uptoBulkAll elems + uptoBulkAll spare + 1
  | .agg parts => uptoBulkAll parts + 1
  | .iface _ d => uptoBulk d + 1
  | .map entries => uptoBulkEntries entries + 1
  | .held _ => 1
def uptoBulkAll {H : Type} : List (DataW H) → Nat
  | [] => 0
  | d :: r => uptoBulk d + uptoBulkAll r
def uptoBulkEntries {H : Type} : List (Lit × DataW H) → Nat
  | [] => 0
  | x :: r => uptoBulkEntry x + uptoBulkEntries r
def uptoBulkEntry {H : Type} : Lit × DataW H → Nat
  | (.string bytes, d) => bytes.length + uptoBulk d + 1
  | (_, d) => uptoBulk d + 1
 end
def uptoSmall : (H : Type) → List (DataW H) → Bool := fun _ ds => decide (uptoBulkAll ds ≤ 1048576)
def OpenSpec.upto (s : _root_.Go.ChangeSpec) : _root_.Go.OpenSpec := { _root_.Go.OpenSpec.ofChange s with cond := some uptoSmall }

/-- 'puncheonlaw03.ShaSums', WHERE WHAT IT READS IS OF BULK AT MOST 1048576: true; the input reads as it did. -/
def shaSumsUptoRow : OpenClaim := { program := "ytkenbppoldfecaadoor", sum := "7e671609765af96bb3515a795e7dbc7ed391d0157f5369da289223521b8d5b41", func := "puncheon/puncheonlaw03.ShaSums", spec := "shaSums", inPlace := ["internal/bytealg.IndexByteString", "math/bits.Add64"], unfollowed := true, recurses := true, named := ["puncheon/sha.primes"], apart := false, laid := [("puncheon/sha.primes", laid_puncheon_sha_primes)], narrowed := true }
def ShaSumsUptoSaid : Prop := shaSumsUptoRow.holds Tryd.pinned (OpenSpec.upto shaSumsSpec)

/-- 'puncheonlaw03.ShaTexts', WHERE WHAT IT READS IS OF BULK AT MOST 1048576: true; the input reads as it did. -/
def shaTextsUptoRow : OpenClaim := { program := "ytkenbppoldfecaadoor", sum := "7e671609765af96bb3515a795e7dbc7ed391d0157f5369da289223521b8d5b41", func := "puncheon/puncheonlaw03.ShaTexts", spec := "shaTexts", inPlace := ["internal/bytealg.IndexByteString"], unfollowed := true, recurses := true, named := ["puncheon/sha.primes"], apart := false, laid := [("puncheon/sha.primes", laid_puncheon_sha_primes)], narrowed := true }
def ShaTextsUptoSaid : Prop := shaTextsUptoRow.holds Tryd.pinned (OpenSpec.upto shaTextsSpec)

/-- 'puncheonlaw03.ShaParts', WHERE WHAT IT READS IS OF BULK AT MOST 1048576: true; the input reads as it did. -/
def shaPartsUptoRow : OpenClaim := { program := "ytkenbppoldfecaadoor", sum := "7e671609765af96bb3515a795e7dbc7ed391d0157f5369da289223521b8d5b41", func := "puncheon/puncheonlaw03.ShaParts", spec := "shaParts", inPlace := ["internal/bytealg.IndexByteString"], unfollowed := true, recurses := true, named := ["puncheon/sha.primes"], apart := false, laid := [("puncheon/sha.primes", laid_puncheon_sha_primes)], narrowed := true }
def ShaPartsUptoSaid : Prop := shaPartsUptoRow.holds Tryd.pinned (OpenSpec.upto shaPartsSpec)

/-- 'puncheonlaw03.ShaBack', WHERE WHAT IT READS IS OF BULK AT MOST 1048576: true; the input reads as it did. -/
def shaBackUptoRow : OpenClaim := { program := "ytkenbppoldfecaadoor", sum := "7e671609765af96bb3515a795e7dbc7ed391d0157f5369da289223521b8d5b41", func := "puncheon/puncheonlaw03.ShaBack", spec := "shaBack", inPlace := ["internal/bytealg.IndexByteString"], unfollowed := true, recurses := true, named := ["puncheon/sha.primes"], apart := false, laid := [("puncheon/sha.primes", laid_puncheon_sha_primes)], narrowed := true }
def ShaBackUptoSaid : Prop := shaBackUptoRow.holds Tryd.pinned (OpenSpec.upto shaBackSpec)

/-- 'puncheonlaw03.ShaRest', WHERE WHAT IT READS IS OF BULK AT MOST 1048576: true; the input reads as it did. -/
def shaRestUptoRow : OpenClaim := { program := "ytkenbppoldfecaadoor", sum := "7e671609765af96bb3515a795e7dbc7ed391d0157f5369da289223521b8d5b41", func := "puncheon/puncheonlaw03.ShaRest", spec := "shaRest", inPlace := ["internal/bytealg.IndexByteString"], unfollowed := true, recurses := true, named := ["puncheon/sha.primes"], apart := false, laid := [("puncheon/sha.primes", laid_puncheon_sha_primes)], narrowed := true }
def ShaRestUptoSaid : Prop := shaRestUptoRow.holds Tryd.pinned (OpenSpec.upto shaRestSpec)

end Rows
end Go.Proofs.YtkenbppoldfecaaDoor
