/- The contracts of the library's functions that the program calls, laid at this program's numbers: each is one application of the guide's own theorem. | The contracts of the library's functions that the program calls, laid at this program's numbers: each is one application of the guide's own theorem. | The contracts of the library's functions that the program calls, laid at this program's numbers: each is one application of the guide's own theorem. | Plain words on versions: which may be, and their order. Nothing of the program stands here. | Proved here: cutLetters and validTag of package version. | Proved here: valid of package version: whether a version may be. | Proved here: compare of package version, and what it calls: which of two versions stands ahead. | Proved here: Check and Compare of package version. | Proved here: number of package version: digits that say a number of at most so much. | Proved here: strings.Cut at one byte, and readTag of package version. -/
import Derived.Shelf.Strings.OnBuilder
import Derived.Shelf.Strings.Builder1
import Derived.Shelf.Small.Strs
import Derived.Shelf.Small.Wraps
import Derived.Shelf.Strings.BuilderF
import Derived.Shelf.Strings.BuilderK
import Derived.Shelf.Strconv.Itoa0
import Derived.Shelf.Strconv.Itoa1
import Derived.Shelf.LaysM
import Derived.Shelf.Strconv.Itoa2
import Derived.Shelf.Strconv.Itoa3
import Derived.Shelf.Strings.Search1
import Derived.Shelf.Strings.Search2
import Derived.Shelf.Strings.Search3
import Derived.Lib.Strings
import Derived.WalkKit
import Derived.Lib.Hide
import Derived.WalkSpells
import Derived.WalkLawsBesides
import Derived.Lib.IndexBytes
import Derived.Deep.QuietTactic
import Derived.BigQuiet
import Derived.StillTailTactics
import Derived.Deep.RegionHeld3
import Derived.Test.YtlfehjjnepiljaaGreatDoorProg
import Derived.Test.YtlfehjjnepiljaaGreatDoorRows
namespace Go.Proofs
open Go.Shelf
def Tryz.lays156_ren : Go.Shelf.Ren := ⟨fun | 156 => 62 | 165 => 82 | 166 => 83 | 169 => 84 | 240 => 96 | 241 => 97 | 276 => 121 | 277 => 122 | n => n, fun | 31 => 23 | 9 => 9 | 3 => 3 | 4 => 4 | 0 => 0 | 20 => 20 | 72 => 114 | 76 => 118 | 70 => 111 | 37 => 112 | 75 => 117 | 127 => 133 | 164 => 152 | 5 => 5 | 80 => 120 | n => n, fun | n => n⟩
theorem Tryz.lays156 : Go.Proofs.Lays.n156 Tryz.prog Tryz.lays156_ren := {
  mixed := by kernel_rfl
  f156 := Tryz.func62.trans (congrArg some (by kernel_rfl))
  f165 := Tryz.func82.trans (congrArg some (by kernel_rfl))
  f166 := Tryz.func83.trans (congrArg some (by kernel_rfl))
  f169 := Tryz.func84.trans (congrArg some (by kernel_rfl))
  f240 := Tryz.func96.trans (congrArg some (by kernel_rfl))
  f241 := Tryz.func97.trans (congrArg some (by kernel_rfl))
  f276 := Tryz.func121.trans (congrArg some (by kernel_rfl))
  f277 := Tryz.func122.trans (congrArg some (by kernel_rfl))
  t0 := Tryz.underlying0
  a0 := Tryz.isAgg0
  z0 := Tryz.sizeOf0
  v0 := Tryz.zeroValue0
  t3 := Tryz.underlying3
  a3 := Tryz.isAgg3
  z3 := Tryz.sizeOf3
  v3 := Tryz.zeroValue3
  t4 := Tryz.underlying4
  a4 := Tryz.isAgg4
  z4 := Tryz.sizeOf4
  v4 := Tryz.zeroValue4
  t9 := Tryz.underlying9
  a9 := Tryz.isAgg9
  z9 := Tryz.sizeOf9
  v9 := Tryz.zeroValue9
  t20 := Tryz.underlying20
  a20 := Tryz.isAgg20
  z20 := Tryz.sizeOf20
  v20 := Tryz.zeroValue20
  t31 := Tryz.underlying23
  a31 := Tryz.isAgg23
  z31 := Tryz.sizeOf23
  v31 := Tryz.zeroValue23
  t37 := Tryz.underlying112
  a37 := Tryz.isAgg112
  z37 := Tryz.sizeOf112
  v37 := Tryz.zeroValue112
  t70 := Tryz.underlying111
  a70 := Tryz.isAgg111
  z70 := Tryz.sizeOf111
  v70 := Tryz.zeroValue111
  t72 := Tryz.underlying114
  a72 := Tryz.isAgg114
  z72 := Tryz.sizeOf114
  v72 := Tryz.zeroValue114
  t75 := Tryz.underlying117
  a75 := Tryz.isAgg117
  z75 := Tryz.sizeOf117
  v75 := Tryz.zeroValue117
  t76 := Tryz.underlying118
  a76 := Tryz.isAgg118
  z76 := Tryz.sizeOf118
  v76 := Tryz.zeroValue118
  t127 := Tryz.underlying133
  a127 := Tryz.isAgg133
  z127 := Tryz.sizeOf133
  v127 := Tryz.zeroValue133
  t164 := Tryz.underlying152
  a164 := Tryz.isAgg152
  z164 := Tryz.sizeOf152
  v164 := Tryz.zeroValue152 }
theorem Tryz.Builder_Extra_156 : Builder.Extra Tryz.prog Tryz.lays156_ren := {
  sizeBuilder := by kernel_rfl
  liesBuilder := by kernel_rfl
  t5 := Tryz.underlying5
  a5 := Tryz.isAgg5
  z5 := Tryz.sizeOf5
  v5 := Tryz.zeroValue5
  infoByte := by kernel_rfl
  cellsByte := by kernel_rfl
  sizeByte := by kernel_rfl
  neB5 := by decide }
open Go.RowKit in
theorem Tryz.strings_Join_none (a : Option Addr) (c : Nat) (sep : ByteArray) (w : World) :
    Calls Tryz.prog 62 #[.slice a 0 c, .string sep] w fun e w' => e = .returned (.string ⟨#[]⟩) ∧ w' = w := Any.strings_Join_none Tryz.lays156 Tryz.Builder_Extra_156 a c sep w
open Go.RowKit in
theorem Tryz.strings_Join (bk o c : Nat) (xs : List ByteArray) (sep : ByteArray) (w : World) (hcells : ∀ (j : Nat) x, xs[j]? = some x → w.cell? ⟨bk, o + j, none⟩ = some (.string x)) (hbk : bk < w.heap.size) (hN : xs.length ≤ 140737488355328) (hcap : xs.length ≤ c) (hlen : (Lib.join (xs.map (·.data.toList)) sep.data.toList).length ≤ 140737488355328) :
    Calls Tryz.prog 62 #[.slice (some ⟨bk, o, none⟩) xs.length c, .string sep] w fun e w' => e = .returned (.string ⟨(Lib.join (xs.map (·.data.toList)) sep.data.toList).toArray⟩) ∧ Below w.heap.size w w' := Any.strings_Join Tryz.lays156 Tryz.Builder_Extra_156 bk o c xs sep w hcells hbk hN hcap hlen
end Go.Proofs

namespace Go.Proofs
open Go.Shelf
def Tryz.lays103_ren : Go.Shelf.Ren := ⟨fun | 103 => 125 | 210 => 140 | 206 => 148 | n => n, fun | 9 => 9 | 4 => 4 | 24 => 155 | 3 => 3 | n => n, fun | n => n⟩
theorem Tryz.lays103 : Go.Proofs.Lays.n103 Tryz.prog Tryz.lays103_ren := {
  mixed := by kernel_rfl
  f103 := Tryz.func125.trans (congrArg some (by kernel_rfl))
  f206 := Tryz.func148.trans (congrArg some (by kernel_rfl))
  f210 := Tryz.func140.trans (congrArg some (by kernel_rfl))
  t3 := Tryz.underlying3
  a3 := Tryz.isAgg3
  z3 := Tryz.sizeOf3
  v3 := Tryz.zeroValue3
  t4 := Tryz.underlying4
  a4 := Tryz.isAgg4
  z4 := Tryz.sizeOf4
  v4 := Tryz.zeroValue4
  t9 := Tryz.underlying9
  a9 := Tryz.isAgg9
  z9 := Tryz.sizeOf9
  v9 := Tryz.zeroValue9
  t24 := Tryz.underlying155
  a24 := Tryz.isAgg155
  z24 := Tryz.sizeOf155
  v24 := Tryz.zeroValue155 }
open Go.RowKit in
theorem Tryz.strings_CutPrefix (s p : ByteArray) (w : World) :
    Calls Tryz.prog 125 #[.string s, .string p] w fun e w' => e = .returned (.tuple #[.string ⟨(Lib.trimPrefix s.data.toList p.data.toList).toArray⟩, .bool (Lib.hasPrefix s.data.toList p.data.toList)]) ∧ w' = w := Any.strings_CutPrefix Tryz.lays103 s p w
def Tryz.lays104_ren : Go.Shelf.Ren := ⟨fun | 104 => 126 | 211 => 141 | 207 => 149 | n => n, fun | 9 => 9 | 4 => 4 | 24 => 155 | 3 => 3 | n => n, fun | n => n⟩
theorem Tryz.lays104 : Go.Proofs.Lays.n104 Tryz.prog Tryz.lays104_ren := {
  mixed := by kernel_rfl
  f104 := Tryz.func126.trans (congrArg some (by kernel_rfl))
  f207 := Tryz.func149.trans (congrArg some (by kernel_rfl))
  f211 := Tryz.func141.trans (congrArg some (by kernel_rfl))
  t3 := Tryz.underlying3
  a3 := Tryz.isAgg3
  z3 := Tryz.sizeOf3
  v3 := Tryz.zeroValue3
  t4 := Tryz.underlying4
  a4 := Tryz.isAgg4
  z4 := Tryz.sizeOf4
  v4 := Tryz.zeroValue4
  t9 := Tryz.underlying9
  a9 := Tryz.isAgg9
  z9 := Tryz.sizeOf9
  v9 := Tryz.zeroValue9
  t24 := Tryz.underlying155
  a24 := Tryz.isAgg155
  z24 := Tryz.sizeOf155
  v24 := Tryz.zeroValue155 }
open Go.RowKit in
theorem Tryz.strings_CutSuffix (s p : ByteArray) (w : World) (hs : s.size ≤ 9223372036854775807) :
    Calls Tryz.prog 126 #[.string s, .string p] w fun e w' => e = .returned (.tuple #[.string ⟨(Lib.trimSuffix s.data.toList p.data.toList).toArray⟩, .bool (Lib.hasSuffix s.data.toList p.data.toList)]) ∧ w' = w := Any.strings_CutSuffix Tryz.lays104 s p w hs
end Go.Proofs

namespace Go.Proofs
open Go.Shelf
def Tryz.lays169_ren : Go.Shelf.Ren := ⟨fun | 169 => 84 | n => n, fun | 70 => 111 | 9 => 9 | 0 => 0 | 72 => 114 | 37 => 112 | 127 => 133 | 3 => 3 | 5 => 5 | n => n, fun | n => n⟩
theorem Tryz.lays169 : Go.Proofs.Lays.n169 Tryz.prog Tryz.lays169_ren := {
  mixed := by kernel_rfl
  f169 := Tryz.func84.trans (congrArg some (by kernel_rfl))
  t0 := Tryz.underlying0
  a0 := Tryz.isAgg0
  z0 := Tryz.sizeOf0
  v0 := Tryz.zeroValue0
  t3 := Tryz.underlying3
  a3 := Tryz.isAgg3
  z3 := Tryz.sizeOf3
  v3 := Tryz.zeroValue3
  t9 := Tryz.underlying9
  a9 := Tryz.isAgg9
  z9 := Tryz.sizeOf9
  v9 := Tryz.zeroValue9
  t37 := Tryz.underlying112
  a37 := Tryz.isAgg112
  z37 := Tryz.sizeOf112
  v37 := Tryz.zeroValue112
  t70 := Tryz.underlying111
  a70 := Tryz.isAgg111
  z70 := Tryz.sizeOf111
  v70 := Tryz.zeroValue111
  t72 := Tryz.underlying114
  a72 := Tryz.isAgg114
  z72 := Tryz.sizeOf114
  v72 := Tryz.zeroValue114
  t127 := Tryz.underlying133
  a127 := Tryz.isAgg133
  z127 := Tryz.sizeOf133
  v127 := Tryz.zeroValue133 }
theorem Tryz.Builder_Extra_169 : Builder.Extra Tryz.prog Tryz.lays169_ren := {
  sizeBuilder := by kernel_rfl
  liesBuilder := by kernel_rfl
  t5 := Tryz.underlying5
  a5 := Tryz.isAgg5
  z5 := Tryz.sizeOf5
  v5 := Tryz.zeroValue5
  infoByte := by kernel_rfl
  cellsByte := by kernel_rfl
  sizeByte := by kernel_rfl
  neB5 := by decide }
def Tryz.lays106_ren : Go.Shelf.Ren := ⟨fun | 106 => 94 | 213 => 119 | 265 => 134 | n => n, fun | 9 => 9 | 3 => 3 | n => n, fun | n => n⟩
theorem Tryz.lays106 : Go.Proofs.Lays.n106 Tryz.prog Tryz.lays106_ren := {
  mixed := by kernel_rfl
  f106 := Tryz.func94.trans (congrArg some (by kernel_rfl))
  f213 := Tryz.func119.trans (congrArg some (by kernel_rfl))
  f265 := Tryz.func134.trans (congrArg some (by kernel_rfl))
  t3 := Tryz.underlying3
  a3 := Tryz.isAgg3
  z3 := Tryz.sizeOf3
  v3 := Tryz.zeroValue3
  t9 := Tryz.underlying9
  a9 := Tryz.isAgg9
  z9 := Tryz.sizeOf9
  v9 := Tryz.zeroValue9 }
open Go.RowKit in
theorem Tryz.strings_Compare (a b : ByteArray) (w : World) :
    Calls Tryz.prog 94 #[.string a, .string b] w fun e w' => e = .returned (.int .i64 (Lib.compareBytes a.data.toList b.data.toList)) ∧ w' = w := Any.strings_Compare Tryz.lays106 a b w
def Tryz.lays122_ren : Go.Shelf.Ren := ⟨fun | 122 => 78 | 215 => 93 | n => n, fun | 3 => 3 | 4 => 4 | n => n, fun | n => n⟩
theorem Tryz.lays122 : Go.Proofs.Lays.n122 Tryz.prog Tryz.lays122_ren := {
  mixed := by kernel_rfl
  f122 := Tryz.func78.trans (congrArg some (by kernel_rfl))
  f215 := Tryz.func93.trans (congrArg some (by kernel_rfl))
  t3 := Tryz.underlying3
  a3 := Tryz.isAgg3
  z3 := Tryz.sizeOf3
  v3 := Tryz.zeroValue3
  t4 := Tryz.underlying4
  a4 := Tryz.isAgg4
  z4 := Tryz.sizeOf4
  v4 := Tryz.zeroValue4 }
open Go.RowKit in
theorem Tryz.cmp_Compare_int (x y : Int) (w : World) :
    Calls Tryz.prog 78 #[.int .i64 x, .int .i64 y] w fun e w' => e = .returned (.int .i64 (Lib.compareInt x y)) ∧ w' = w := Any.cmp_Compare_int Tryz.lays122 x y w
open Go.RowKit in
theorem Tryz.Builder_String_any_k (B b : Nat) (l : List UInt8) (w : World) (h : Lib.IsBuilderF 114 5 B b (Lib.byteCells l) w) (hBw : B ≤ w.heap.size) :
    Calls Tryz.prog 84 #[.pointer (some ⟨b, 0, none⟩)] w fun e w' => e = .returned (.string ⟨l.toArray⟩) ∧ (Lib.IsBuilderF 114 5 B b (Lib.byteCells l) w' ∧ Below B w w' ∧ Lib.OthersKept 5 (some b) w w') := Any.Builder_String_any_k Tryz.lays169 Tryz.Builder_Extra_169 B b l w h hBw
def Tryz.laysM171_ren : Go.Shelf.Ren := ⟨fun | 171 => 120 | 243 => 135 | 246 => 145 | 283 => 153 | 284 => 154 | 285 => 155 | 286 => 156 | 129 => 118 | 317 => 159 | 318 => 160 | 319 => 161 | 320 => 162 | 337 => 163 | 338 => 164 | n => n, fun | 3 => 3 | 9 => 9 | 2 => 2 | 4 => 4 | 171 => 184 | 0 => 0 | 53 => 151 | 37 => 112 | 5 => 5 | 173 => 186 | 212 => 190 | 51 => 149 | 20 => 20 | 213 => 191 | 46 => 128 | 232 => 192 | 233 => 193 | n => n, fun | 17 => 4 | 18 => 5 | 19 => 6 | n => n⟩
theorem Tryz.laysM171 : Go.Proofs.LaysM.n171 Tryz.prog Tryz.laysM171_ren := {
  mixed := by kernel_rfl
  f129 := Tryz.func118.trans (congrArg some (by kernel_rfl))
  f171 := Tryz.func120.trans (congrArg some (by kernel_rfl))
  f243 := Tryz.func135.trans (congrArg some (by kernel_rfl))
  f246 := Tryz.func145.trans (congrArg some (by kernel_rfl))
  f283 := Tryz.func153.trans (congrArg some (by kernel_rfl))
  f284 := Tryz.func154.trans (congrArg some (by kernel_rfl))
  f285 := Tryz.func155.trans (congrArg some (by kernel_rfl))
  f286 := Tryz.func156.trans (congrArg some (by kernel_rfl))
  f317 := Tryz.func159.trans (congrArg some (by kernel_rfl))
  f318 := Tryz.func160.trans (congrArg some (by kernel_rfl))
  f319 := Tryz.func161.trans (congrArg some (by kernel_rfl))
  f320 := Tryz.func162.trans (congrArg some (by kernel_rfl))
  f337 := Tryz.func163.trans (congrArg some (by kernel_rfl))
  f338 := Tryz.func164.trans (congrArg some (by kernel_rfl))
  t0 := Tryz.underlying0
  a0 := Tryz.isAgg0
  z0 := Tryz.sizeOf0
  v0 := Tryz.zeroValue0
  t2 := Tryz.underlying2
  a2 := Tryz.isAgg2
  z2 := Tryz.sizeOf2
  v2 := Tryz.zeroValue2
  t3 := Tryz.underlying3
  a3 := Tryz.isAgg3
  z3 := Tryz.sizeOf3
  v3 := Tryz.zeroValue3
  t4 := Tryz.underlying4
  a4 := Tryz.isAgg4
  z4 := Tryz.sizeOf4
  v4 := Tryz.zeroValue4
  t5 := Tryz.underlying5
  a5 := Tryz.isAgg5
  z5 := Tryz.sizeOf5
  v5 := Tryz.zeroValue5
  t9 := Tryz.underlying9
  a9 := Tryz.isAgg9
  z9 := Tryz.sizeOf9
  v9 := Tryz.zeroValue9
  t20 := Tryz.underlying20
  a20 := Tryz.isAgg20
  z20 := Tryz.sizeOf20
  v20 := Tryz.zeroValue20
  t37 := Tryz.underlying112
  a37 := Tryz.isAgg112
  z37 := Tryz.sizeOf112
  v37 := Tryz.zeroValue112
  t46 := Tryz.underlying128
  a46 := Tryz.isAgg128
  z46 := Tryz.sizeOf128
  v46 := Tryz.zeroValue128
  t51 := Tryz.underlying149
  a51 := Tryz.isAgg149
  z51 := Tryz.sizeOf149
  v51 := Tryz.zeroValue149
  t53 := Tryz.underlying151
  a53 := Tryz.isAgg151
  z53 := Tryz.sizeOf151
  v53 := Tryz.zeroValue151
  t171 := Tryz.underlying184
  a171 := Tryz.isAgg184
  z171 := Tryz.sizeOf184
  v171 := Tryz.zeroValue184
  t173 := Tryz.underlying186
  a173 := Tryz.isAgg186
  z173 := Tryz.sizeOf186
  v173 := Tryz.zeroValue186
  t212 := Tryz.underlying190
  a212 := Tryz.isAgg190
  z212 := Tryz.sizeOf190
  v212 := Tryz.zeroValue190
  t213 := Tryz.underlying191
  a213 := Tryz.isAgg191
  z213 := Tryz.sizeOf191
  t232 := Tryz.underlying192
  a232 := Tryz.isAgg192
  z232 := Tryz.sizeOf192
  v232 := Tryz.zeroValue192
  t233 := Tryz.underlying193
  a233 := Tryz.isAgg193
  z233 := Tryz.sizeOf193
  v233 := Tryz.zeroValue193
  g17 := by kernel_rfl
  g18 := by kernel_rfl
  g19 := by kernel_rfl
  i0 := by kernel_rfl
  i2 := by kernel_rfl
  i3 := by kernel_rfl
  i4 := by kernel_rfl
  i5 := by kernel_rfl
  i9 := by kernel_rfl
  i20 := by kernel_rfl
  i37 := by kernel_rfl
  i46 := by kernel_rfl
  i51 := by kernel_rfl
  i53 := by kernel_rfl
  i171 := by kernel_rfl
  i173 := by kernel_rfl
  i212 := by kernel_rfl
  i232 := by kernel_rfl
  i233 := by kernel_rfl
  m17 := by kernel_rfl
  m18 := by kernel_rfl
  m19 := by kernel_rfl }
open Go.RowKit Go.Sort Go.Lib in
theorem Tryz.strconv_Itoa (n : Int) (h0 : -9223372036854775808 ≤ n) (h1 : n ≤ 9223372036854775807) (w : World) (htab : Lib.TabIs Tryz.prog w "internal/strconv.uint64pow10" .u64 Lib.pow10Tab) :
    Calls Tryz.prog 120 #[.int .i64 n] w fun e w' => e = .returned (.string ⟨(Lib.itoa n).toArray⟩) ∧ ∃ k os, w' = grow (w.drewN k) os := Any.strconv_Itoa Tryz.laysM171 n h0 h1 w htab
def Tryz.lays219_ren : Go.Shelf.Ren := ⟨fun | 219 => 124 | 217 => 136 | 225 => 137 | 224 => 138 | 267 => 139 | 266 => 146 | 314 => 147 | n => n, fun | 9 => 9 | 3 => 3 | 4 => 4 | 5 => 5 | 46 => 128 | 146 => 175 | 51 => 149 | n => n, fun | 1 => 1 | n => n⟩
theorem Tryz.lays219 : Go.Proofs.Lays.n219 Tryz.prog Tryz.lays219_ren := {
  mixed := by kernel_rfl
  f217 := Tryz.func136.trans (congrArg some (by kernel_rfl))
  f219 := Tryz.func124.trans (congrArg some (by kernel_rfl))
  f224 := Tryz.func138.trans (congrArg some (by kernel_rfl))
  f225 := Tryz.func137.trans (congrArg some (by kernel_rfl))
  f266 := Tryz.func146.trans (congrArg some (by kernel_rfl))
  f267 := Tryz.func139.trans (congrArg some (by kernel_rfl))
  f314 := Tryz.func147.trans (congrArg some (by kernel_rfl))
  t3 := Tryz.underlying3
  a3 := Tryz.isAgg3
  z3 := Tryz.sizeOf3
  v3 := Tryz.zeroValue3
  t4 := Tryz.underlying4
  a4 := Tryz.isAgg4
  z4 := Tryz.sizeOf4
  v4 := Tryz.zeroValue4
  t5 := Tryz.underlying5
  a5 := Tryz.isAgg5
  z5 := Tryz.sizeOf5
  v5 := Tryz.zeroValue5
  t9 := Tryz.underlying9
  a9 := Tryz.isAgg9
  z9 := Tryz.sizeOf9
  v9 := Tryz.zeroValue9
  t46 := Tryz.underlying128
  a46 := Tryz.isAgg128
  z46 := Tryz.sizeOf128
  v46 := Tryz.zeroValue128
  t51 := Tryz.underlying149
  a51 := Tryz.isAgg149
  z51 := Tryz.sizeOf149
  v51 := Tryz.zeroValue149
  t146 := Tryz.underlying175
  a146 := Tryz.isAgg175
  z146 := Tryz.sizeOf175
  v146 := Tryz.zeroValue175
  g1 := by kernel_rfl }
open Go.RowKit Go.Lib in
theorem Tryz.stringslite_Index_one (s : ByteArray) (c : UInt8) (w : World) :
    Calls Tryz.prog 124 #[.string s, .string ⟨#[c]⟩] w fun e w' => e = .returned (.int .i64 (Lib.indexByte s.data.toList c)) ∧ w' = w := Any.stringslite_Index_one Tryz.lays219 s c w
def Tryz.lays143_ren : Go.Shelf.Ren := ⟨fun | 143 => 100 | 219 => 124 | 217 => 136 | 225 => 137 | 224 => 138 | 267 => 139 | 266 => 146 | 314 => 147 | n => n, fun | 9 => 9 | 3 => 3 | 4 => 4 | 5 => 5 | 46 => 128 | 146 => 175 | 51 => 149 | n => n, fun | 1 => 1 | n => n⟩
theorem Tryz.lays143 : Go.Proofs.Lays.n143 Tryz.prog Tryz.lays143_ren := {
  mixed := by kernel_rfl
  f143 := Tryz.func100.trans (congrArg some (by kernel_rfl))
  f217 := Tryz.func136.trans (congrArg some (by kernel_rfl))
  f219 := Tryz.func124.trans (congrArg some (by kernel_rfl))
  f224 := Tryz.func138.trans (congrArg some (by kernel_rfl))
  f225 := Tryz.func137.trans (congrArg some (by kernel_rfl))
  f266 := Tryz.func146.trans (congrArg some (by kernel_rfl))
  f267 := Tryz.func139.trans (congrArg some (by kernel_rfl))
  f314 := Tryz.func147.trans (congrArg some (by kernel_rfl))
  t3 := Tryz.underlying3
  a3 := Tryz.isAgg3
  z3 := Tryz.sizeOf3
  v3 := Tryz.zeroValue3
  t4 := Tryz.underlying4
  a4 := Tryz.isAgg4
  z4 := Tryz.sizeOf4
  v4 := Tryz.zeroValue4
  t5 := Tryz.underlying5
  a5 := Tryz.isAgg5
  z5 := Tryz.sizeOf5
  v5 := Tryz.zeroValue5
  t9 := Tryz.underlying9
  a9 := Tryz.isAgg9
  z9 := Tryz.sizeOf9
  v9 := Tryz.zeroValue9
  t46 := Tryz.underlying128
  a46 := Tryz.isAgg128
  z46 := Tryz.sizeOf128
  v46 := Tryz.zeroValue128
  t51 := Tryz.underlying149
  a51 := Tryz.isAgg149
  z51 := Tryz.sizeOf149
  v51 := Tryz.zeroValue149
  t146 := Tryz.underlying175
  a146 := Tryz.isAgg175
  z146 := Tryz.sizeOf175
  v146 := Tryz.zeroValue175
  g1 := by kernel_rfl }
open Go.RowKit Go.Lib in
theorem Tryz.strings_Index_one (s : ByteArray) (c : UInt8) (w : World) :
    Calls Tryz.prog 100 #[.string s, .string ⟨#[c]⟩] w fun e w' => e = .returned (.int .i64 (Lib.indexByte s.data.toList c)) ∧ w' = w := Any.strings_Index_one Tryz.lays143 s c w
end Go.Proofs

namespace Go.Proofs.YtlfehjjnepiljaaGreatDoor
open Go.RowKit

abbrev Str := List UInt8

/-- A version as it goes by value: its four numbers, how many count, its tag, its step. -/
structure Ver where
  n0 : Int
  n1 : Int
  n2 : Int
  n3 : Int
  many : Int
  tag : ByteArray
  step : Int
deriving DecidableEq
def Ver.cells (v : Ver) : List Value := [.int .i64 v.n0, .int .i64 v.n1, .int .i64 v.n2, .int .i64 v.n3, .int .i64 v.many, .string v.tag, .int .i64 v.step]
def Ver.arr (v : Ver) : Array Value := #[.int .i64 v.n0, .int .i64 v.n1, .int .i64 v.n2, .int .i64 v.n3, .int .i64 v.many, .string v.tag, .int .i64 v.step]
def Ver.zero : Ver := ⟨0, 0, 0, 0, 0, ⟨#[]⟩, 0⟩
def Ver.num (v : Ver) (j : Nat) : Int := if j = 0 then v.n0 else if j = 1 then v.n1 else if j = 2 then v.n2 else v.n3

def lowB (c : UInt8) : Bool := decide (97 ≤ c.toNat ∧ c.toNat ≤ 122)
def tagB (l : Str) : Bool := decide (l ≠ [] ∧ l.length ≤ 6) && l.all lowB
/-- May the number at this place be, so many being counted? -/
def numB (many : Int) (j : Nat) (x : Int) : Bool := decide (0 ≤ x ∧ x ≤ 9999 ∧ ((j : Int) < many ∨ x = 0))
def Ver.numsB (v : Ver) : Bool := numB v.many 0 v.n0 && numB v.many 1 v.n1 && numB v.many 2 v.n2 && numB v.many 3 v.n3
def Ver.endB (v : Ver) : Bool := if v.tag.data.toList = [] then decide (v.step = 0) else tagB v.tag.data.toList && decide (0 ≤ v.step ∧ v.step ≤ 999)
def Ver.ok (v : Ver) : Bool := decide (1 ≤ v.many ∧ v.many ≤ 4) && v.numsB && v.endB

theorem nums_yes (v : Ver) (h : ∀ j, j < 4 → numB v.many j (v.num j) = true) : v.numsB = true := by
  have h0 := h 0 (by omega)
  have h1 := h 1 (by omega)
  have h2 := h 2 (by omega)
  have h3 := h 3 (by omega)
  simp only [Ver.num] at h0 h1 h2 h3
  unfold Ver.numsB
  simp only [Nat.reduceEqDiff, if_true, if_false] at h0 h1 h2 h3
  rw [h0, h1, h2, h3]
  rfl
theorem nums_no (v : Ver) (k : Nat) (hk : k < 4) (h : numB v.many k (v.num k) = false) : v.numsB = false := by
  unfold Ver.numsB
  rcases (by omega : k = 0 ∨ k = 1 ∨ k = 2 ∨ k = 3) with rfl | rfl | rfl | rfl <;> simp [Ver.num] at h <;> simp [h]
theorem num_get (v : Ver) (k : Nat) (hk : k < 4) : (#[Value.int .i64 v.n0, .int .i64 v.n1, .int .i64 v.n2, .int .i64 v.n3])[k]? = some (.int .i64 (v.num k)) := by
  rcases (by omega : k = 0 ∨ k = 1 ∨ k = 2 ∨ k = 3) with rfl | rfl | rfl | rfl <;> rfl
theorem all_take {l : Str} {p : UInt8 → Bool} {k : Nat} (hk : ∀ j c, j < k → l[j]? = some c → p c = true) (hs : ∀ c, l[k]? = some c → p c = false) : l.takeWhile p = l.take k ∧ l.dropWhile p = l.drop k := by
  induction l generalizing k with
  | nil => simp
  | cons c l ih =>
    cases k with
    | zero =>
      have := hs c rfl
      simp [this]
    | succ k =>
      have h0 := hk 0 c (by omega) rfl
      have := ih (k := k) (fun j x hj hx => hk (j + 1) x (by omega) (by simpa using hx)) (fun x hx => hs x (by simpa using hx))
      simp [h0, this.1, this.2]
theorem drop_nil_all (l : Str) (p : UInt8 → Bool) : l.dropWhile p = [] ↔ l.all p = true := by
  induction l with
  | nil => simp
  | cons c l ih =>
    rw [List.dropWhile_cons, List.all_cons]
    by_cases h : p c = true
    · rw [if_pos h, h, Bool.true_and]
      exact ih
    · rw [if_neg h]
      simp [h]
end Go.Proofs.YtlfehjjnepiljaaGreatDoor

namespace Go.Proofs.YtlfehjjnepiljaaGreatDoor
open Go.RowKit Go.Shelf

def LetR (s : ByteArray) (w : World) (e : Ending) (w' : World) : Prop := ∃ a b : ByteArray, e = .returned (.tuple #[.string a, .string b]) ∧ a.data.toList = s.data.toList.takeWhile lowB ∧ b.data.toList = s.data.toList.dropWhile lowB ∧ Below w.heap.size w w'

theorem below_drewN {B : Nat} {a w : World} (h : Below B a w) (n : Nat) : Below B a (w.drewN n) := ⟨h.os, h.tape, h.output, h.size, h.block⟩
theorem bch {w w1 w2 : World} (h : Below w.heap.size w w1) (h2 : Below w1.heap.size w1 w2) : Below w.heap.size w w2 := h.trans (h2.mono h.size)
theorem ext_to (p : ByteArray) (k : Nat) : (p.extract 0 k).data.toList = p.data.toList.take k := by rw [Lib.extract_data, List.drop_zero]; rfl
theorem ba_empty (b : ByteArray) (h : b.data.toList = []) : b = ⟨#[]⟩ := by
  cases b with
  | mk d =>
    congr 1
    cases d
    simp at h
    rw [h]

set_option maxRecDepth 100000 in
set_option maxHeartbeats 2000000 in
theorem letters_any (s : ByteArray) (w : World) : Calls Tryz.prog 92 #[.string s] w (LetR s w) := by
  go_enter Tryz.func92, Tryz.ntmps92
  go_wp2
  go_loopw [4, 5, 8, 9, 10, 11, 12, 13, 14, 15, 16, 17] (fun _ _ _ _ _ _ _ _ _ _ _ _ w' => ∃ pos : Nat, w' = w.iter s pos ∧ pos ≤ s.size ∧ Hid (∀ (j : Nat) (c : UInt8), j < pos → s.data.toList[j]? = some c → lowB c = true)) (fun _ _ _ _ _ _ _ _ _ _ _ _ w' => s.size - w'.iterPos w.heap.size)
  case atStart => exact ⟨0, rfl, Nat.zero_le _, Lib.hid (fun j _ hj => absurd hj (Nat.not_lt_zero _))⟩
  case round =>
    obtain ⟨pos, rfl, hp, HOK⟩ := hrel
    have hsl : s.data.toList.length = s.size := rfl
    by_cases hlt : pos < s.size
    · have hget : s.data.toList[pos]? = some (s[pos]'hlt) := List.getElem?_eq_getElem (by omega)
      have HG := Lib.hid hget
      have HSL := Lib.hid hsl
      clear hget hsl
      by_cases ha : (s[pos]'hlt).toNat < 128
      · have hnx : ∀ ty, (Instr.next (.pointer (some ⟨w.heap.size, 0, none⟩)) true ty).run Tryz.prog (w.iter s pos) = _ := fun ty => run_next_ascii w s pos ty hlt ha
        obtain ⟨c, hc⟩ : ∃ c, c = s[pos]'hlt := ⟨_, rfl⟩
        rw [← hc] at hnx ha HG
        clear hc
        by_cases hd : 97 ≤ c.toNat ∧ c.toNat ≤ 122
        · obtain ⟨d1, d2⟩ := hd
          have HD : Hid (lowB c = true) := Lib.hid (decide_eq_true ⟨d1, d2⟩)
          go_wp2
          go_roundw
          case rel => exact ⟨pos + 1, rfl, hlt, Lib.hid (fun j x hj hx => by
            rcases Nat.lt_or_ge j pos with h | h
            · exact HOK.out j x h hx
            · obtain rfl : j = pos := by omega
              have := HG.out.symm.trans hx
              cases this
              exact HD.out)⟩
          case measure => simp; omega
        · have HE := Lib.hid (all_take (k := pos) HOK.out (fun x hx => by
            have := HG.out.symm.trans hx
            cases this
            exact decide_eq_false hd))
          have p1 : (0 : Int) ≤ (pos : Int) := by omega
          have p2 : (pos : Int) ≤ (s.size : Int) := by omega
          go_wp2
          all_goals go_quiet (fail)
          all_goals go_wp2
          all_goals (go_ret2; exact ⟨_, _, rfl, (ext_to s pos).trans HE.out.1.symm, (Lib.extract_to_end s pos).trans HE.out.2.symm, below_drewN ((Below.refl _ _).alloc (Nat.le_refl _) _) _⟩)
      · have hnx : ∀ ty, (Instr.next (.pointer (some ⟨w.heap.size, 0, none⟩)) true ty).run Tryz.prog (w.iter s pos) = _ := fun ty => run_next_any w s pos ty hlt
        have hd := decode_high s pos hlt (by omega)
        have hd' : ¬ ((Utf8.decode s pos).1 : Int) < 97 := by omega
        have hd2 : (122 : Int) < ((Utf8.decode s pos).1 : Int) := by omega
        have HE := Lib.hid (all_take (k := pos) HOK.out (fun x hx => by
          have := HG.out.symm.trans hx
          cases this
          exact decide_eq_false (by omega)))
        have p1 : (0 : Int) ≤ (pos : Int) := by omega
        have p2 : (pos : Int) ≤ (s.size : Int) := by omega
        clear hd
        go_wp2
        all_goals go_quiet (fail)
        all_goals go_wp2
        all_goals (go_ret2; exact ⟨_, _, rfl, (ext_to s pos).trans HE.out.1.symm, (Lib.extract_to_end s pos).trans HE.out.2.symm, below_drewN ((Below.refl _ _).alloc (Nat.le_refl _) _) _⟩)
    · have hnx : ∀ ty, (Instr.next (.pointer (some ⟨w.heap.size, 0, none⟩)) true ty).run Tryz.prog (w.iter s pos) = _ := fun ty => run_next_end w s pos ty hlt
      have HE := Lib.hid (all_take (k := pos) HOK.out (fun x hx => by
        have := (List.getElem?_eq_some_iff.1 hx).1
        omega))
      clear hsl
      go_wp2
      go_ret2
      have hps : pos = s.size := by omega
      exact ⟨_, _, rfl, by rw [HE.out.1, hps]; exact (List.take_of_length_le (Nat.le_refl _)).symm, by rw [HE.out.2, hps]; exact (List.drop_of_length_le (Nat.le_refl _)).symm, (Below.refl _ _).alloc (Nat.le_refl _) _⟩
theorem isEmpty_no {l : List UInt8} (h : l ≠ []) : l.isEmpty = false := by cases l <;> simp_all
theorem tagB_no (l : Str) (h : l = [] ∨ 6 < l.length) : tagB l = false := by
  unfold tagB
  rw [decide_eq_false (by rcases h with h | h <;> simp_all; try omega)]
  rfl
theorem tagB_mid (l : Str) (h1 : l ≠ []) (h2 : l.length ≤ 6) : tagB l = l.all lowB := by
  unfold tagB
  rw [decide_eq_true ⟨h1, h2⟩, Bool.true_and]
theorem ret_bool {a b : Bool} (h : a = b) : Ending.returned (.bool a) = .returned (.bool b) := by rw [h]

set_option maxRecDepth 100000 in
set_option maxHeartbeats 1000000 in
theorem vtag_any (s : ByteArray) (w : World) : Calls Tryz.prog 75 #[.string s] w fun e w' => e = .returned (.bool (tagB s.data.toList)) ∧ Below w.heap.size w w' := by
  have hl : s.data.toList.length = s.size := rfl
  by_cases h1 : s.toList = [] ∨ (6 : Int) < (s.size : Int)
  · rw [tagB_no _ (by
      rw [Lib.toList_data] at h1
      rcases h1 with h | h
      · exact .inl h
      · exact .inr (by omega))]
    go_enter Tryz.func75, Tryz.ntmps75
    go_wp2_with fail
    all_goals first | (go_ret; exact ⟨rfl, Below.refl _ _⟩) | (exfalso; simp_all; done) | (exfalso; simp_all; omega)
  · have e1 : s.toList ≠ [] := fun h => h1 (.inl h)
    have e4 : (s.size : Int) ≤ 6 := by omega
    rw [tagB_mid s.data.toList (by rw [← Lib.toList_data]; exact e1) (by omega)]
    have f1 := isEmpty_no e1
    clear h1 e1 hl
    go_enter Tryz.func75, Tryz.ntmps75
    go_wp2_with fail
    refine (letters_any s w).mono ?_
    rintro e w1 ⟨a, b, rfl, _, hb, hB⟩
    by_cases hall : s.data.toList.all lowB = true
    · have hbe := ba_empty b (by rw [hb]; exact (drop_nil_all _ _).2 hall)
      subst hbe
      have HA := Lib.hid hall
      clear hall hb
      go_wp2_with fail
      go_ret
      exact ⟨ret_bool HA.out.symm, hB⟩
    · have hne : b.toList ≠ [] := by
        rw [Lib.toList_data, hb]
        exact fun h => hall ((drop_nil_all _ _).1 h)
      have f2 := isEmpty_no hne
      have HA := Lib.hid (Bool.eq_false_iff.2 hall)
      clear hall hb hne
      go_wp2_with fail
      go_ret
      exact ⟨ret_bool HA.out.symm, hB⟩
end Go.Proofs.YtlfehjjnepiljaaGreatDoor

namespace Go.Proofs.YtlfehjjnepiljaaGreatDoor
open Go.RowKit Go.Shelf

/-- The block is just these cells, none frozen. -/
def Box (w : World) (g : Nat) (t : TypeId) (cs : Array Value) : Prop := w.heap[g]? = some (.cells cs t (0, 0))
theorem Box.lt {w : World} {g : Nat} {t : TypeId} {cs : Array Value} (h : Box w g t cs) : g < w.heap.size := by
  rcases Nat.lt_or_ge g w.heap.size with h' | h'
  · exact h'
  · unfold Box at h
    rw [Array.getElem?_eq_none h'] at h
    cases h
theorem Box.below {w w' : World} {B g : Nat} {t : TypeId} {cs : Array Value} (h : Box w g t cs) (hb : Below B w w') (hg : g < B) : Box w' g t cs := (hb.block g hg).trans h
theorem Box.on {w w' : World} {g : Nat} {t : TypeId} {cs : Array Value} (h : Box w g t cs) (hb : Below w.heap.size w w') : Box w' g t cs := h.below hb h.lt
theorem Box.alloc {w : World} {g : Nat} {t : TypeId} {cs : Array Value} (h : Box w g t cs) (o : Obj) : Box (w.alloc o) g t cs := (Below.heap_alloc w o g h.lt).trans h
theorem Box.set {w : World} {g k : Nat} {t : TypeId} {cs : Array Value} (h : Box w g t cs) (v : Value) : Box (w.setCell ⟨g, k, none⟩ v) g t (cs.setIfInBounds k v) := heap_setCell_same w g k cs t v h
theorem Box.far {w : World} {g : Nat} {t : TypeId} {cs : Array Value} (h : Box w g t cs) {p : Addr} (hp : g ≠ p.block) (v : Value) : Box (w.setCell p v) g t cs := (heap_setCell_other w p g v hp).trans h
theorem Box.cell {w : World} {g : Nat} {t : TypeId} {cs : Array Value} (h : Box w g t cs) {k : Nat} {v : Value} (hv : cs[k]? = some v) : w.cell? ⟨g, k, none⟩ = some v := (cell_of_row w g k cs t (0, 0) h).trans hv
theorem box_new {w : World} {t : TypeId} {cs : Array Value} : Box (w.alloc (.cells cs t)) w.heap.size t cs := heap_alloc_new w _
theorem below_new (w : World) (o : Obj) : Below w.heap.size w (w.alloc o) := (Below.refl _ _).alloc (Nat.le_refl _) _

/-- The cells of a version, one by one. -/
structure VBox (w : World) (g : Nat) (v : Ver) : Prop where
  c0 : w.cell? ⟨g, 0, none⟩ = some (.int .i64 v.n0)
  c1 : w.cell? ⟨g, 1, none⟩ = some (.int .i64 v.n1)
  c2 : w.cell? ⟨g, 2, none⟩ = some (.int .i64 v.n2)
  c3 : w.cell? ⟨g, 3, none⟩ = some (.int .i64 v.n3)
  c4 : w.cell? ⟨g, 4, none⟩ = some (.int .i64 v.many)
  c5 : w.cell? ⟨g, 5, none⟩ = some (.string v.tag)
  c6 : w.cell? ⟨g, 6, none⟩ = some (.int .i64 v.step)
theorem Box.ver {w : World} {g : Nat} {v : Ver} (h : Box w g 45 v.arr) : VBox w g v := ⟨h.cell rfl, h.cell rfl, h.cell rfl, h.cell rfl, h.cell rfl, h.cell rfl, h.cell rfl⟩

theorem run_index_arr {P : Program} {t e n k : Nat} {cs : Array Value} {v : Value} (ht : P.underlying t = some (.array n e)) (ha : ∀ w, (isAgg e).run P w = .ok false w) (hs : ∀ w, (Go.sizeOf e).run P w = .ok 1 w) (hk : k < n) (hv : cs[k]? = some v) (w : World) :
    (Instr.index t (.agg cs) (.int .i64 (k : Int))).run P w = .ok v w := by
  have h0 : (0 : Int) ≤ (k : Int) ∧ (k : Int) < (n : Int) := by omega
  have h1 : ¬ n ≤ k := by omega
  simp [Instr.index, Sem.run_bind, run_underlying ht, asIntOf, h0, h1, hs, Go.part, ha, hv]

theorem isEmpty_yes {l : List UInt8} (h : l = []) : l.isEmpty = true := by rw [h]; rfl

set_option maxRecDepth 100000 in
set_option maxHeartbeats 2000000 in
theorem valid_any (v : Ver) (w : World) : Calls Tryz.prog 57 #[.agg v.arr] w fun e w' => e = .returned (.bool v.ok) ∧ Below w.heap.size w w' := by
  have X : Box (w.alloc (.cells v.arr 45)) w.heap.size 45 v.arr := box_new
  obtain ⟨c0, c1, c2, c3, c4, c5, c6⟩ := X.ver
  have hB := Lib.hid (below_new w (.cells v.arr 45))
  clear X
  by_cases hm : 1 ≤ v.many ∧ v.many ≤ 4
  · have ok1 : v.ok = (v.numsB && v.endB) := by unfold Ver.ok; rw [decide_eq_true hm, Bool.true_and]
    obtain ⟨m1, m2⟩ := hm
    have d1 : decide (v.many < 1) = false := decide_eq_false (by omega)
    have d2 : decide (v.many > 4) = false := decide_eq_false (by omega)
    have OK1 := Lib.hid ok1
    clear ok1
    go_enter Tryz.func57, Tryz.ntmps57
    go_wp2_with fail
    go_loop [3, 4, 15, 16, 17, 18, 19, 20, 21, 22, 23, 24, 25, 26, 27, 28, 29, 30, 31, 32, 33, 34, 35] (fun _ _ i _ _ _ _ _ _ _ _ _ _ _ _ _ _ _ _ _ _ _ _ => ∃ k : Nat, k ≤ 4 ∧ i = .int .i64 k ∧ Hid (∀ j, j < k → numB v.many j (v.num j) = true)) (fun _ _ i _ _ _ _ _ _ _ _ _ _ _ _ _ _ _ _ _ _ _ _ => 4 - (Lib.intOf i).toNat)
    case atStart => exact ⟨0, Nat.zero_le _, rfl, Lib.hid (fun j hj => absurd hj (Nat.not_lt_zero _))⟩
    case round =>
      obtain ⟨k, hk, rfl, HK⟩ := hrel
      by_cases hlt : k < 4
      · have hix := run_index_arr (P := Tryz.prog) Tryz.underlying43 Tryz.isAgg3 Tryz.sizeOf3 hlt (num_get v k hlt)
        have k4 : (k : Int) < 4 := by omega
        by_cases hn : numB v.many k (v.num k) = true
        · have hn' : 0 ≤ v.num k ∧ v.num k ≤ 9999 ∧ ((k : Int) < v.many ∨ v.num k = 0) := of_decide_eq_true hn
          have HN := Lib.hid hn
          generalize v.num k = x at hix hn'
          obtain ⟨x1, x2, x3⟩ := hn'
          have e1 : decide (x < 0) = false := decide_eq_false (by omega)
          have e2 : decide (x > 9999) = false := decide_eq_false (by omega)
          clear hn
          by_cases hkm : (k : Int) < v.many
          · have e3 : decide ((k : Int) ≥ v.many) = false := decide_eq_false (by omega)
            clear x3
            go_wp2_with fail
            go_round
            case rel => exact ⟨k + 1, hlt, by go_num, Lib.hid (fun j hj => by
              rcases Nat.lt_or_ge j k with h | h
              · exact HK.out j h
              · obtain rfl : j = k := by omega
                exact HN.out)⟩
            case measure => simp [Lib.intOf]; omega
          · have e3 : decide ((k : Int) ≥ v.many) = true := decide_eq_true (by omega)
            have e4 : (x != 0) = false := by simp; omega
            clear x3
            go_wp2_with fail
            go_round
            case rel => exact ⟨k + 1, hlt, by go_num, Lib.hid (fun j hj => by
              rcases Nat.lt_or_ge j k with h | h
              · exact HK.out j h
              · obtain rfl : j = k := by omega
                exact HN.out)⟩
            case measure => simp [Lib.intOf]; omega
        · have hn' : ¬ (0 ≤ v.num k ∧ v.num k ≤ 9999 ∧ ((k : Int) < v.many ∨ v.num k = 0)) := fun h => hn (decide_eq_true h)
          have HN : Hid (v.ok = false) := Lib.hid (by rw [OK1.out, nums_no v k hlt (Bool.eq_false_iff.2 hn)]; rfl)
          generalize v.num k = x at hix hn'
          clear hn
          by_cases e1 : x < 0
          · have e1' : decide (x < 0) = true := decide_eq_true e1
            go_wp2_with fail
            go_ret
            exact ⟨ret_bool HN.out.symm, hB.out⟩
          · have e1' : decide (x < 0) = false := decide_eq_false e1
            by_cases e2 : x > 9999
            · have e2' : decide (x > 9999) = true := decide_eq_true e2
              go_wp2_with fail
              go_ret
              exact ⟨ret_bool HN.out.symm, hB.out⟩
            · have e2' : decide (x > 9999) = false := decide_eq_false e2
              have e3 : decide ((k : Int) ≥ v.many) = true := decide_eq_true (by omega)
              have e4 : (x != 0) = true := by simp; omega
              clear hn'
              go_wp2_with fail
              go_ret
              exact ⟨ret_bool HN.out.symm, hB.out⟩
      · obtain rfl : k = 4 := by omega
        have OK2 : Hid (v.ok = v.endB) := Lib.hid (by rw [OK1.out, nums_yes v HK.out, Bool.true_and])
        by_cases ht : v.tag.toList = []
        · have hte := isEmpty_yes ht
          have OK3 : Hid (v.ok = (v.step == 0)) := Lib.hid (by rw [OK2.out]; unfold Ver.endB; rw [if_pos (by rw [← Lib.toList_data]; exact ht)]; rfl)
          clear ht
          go_wp2_with fail
          go_ret
          exact ⟨ret_bool OK3.out.symm, hB.out⟩
        · have hte := isEmpty_no ht
          have OK3 : Hid (v.ok = (tagB v.tag.data.toList && decide (0 ≤ v.step ∧ v.step ≤ 999))) := Lib.hid (by rw [OK2.out]; unfold Ver.endB; rw [if_neg (by rw [← Lib.toList_data]; exact ht)])
          clear ht
          go_wp2_with fail
          refine (vtag_any v.tag _).mono ?_
          rintro e w1 ⟨rfl, hb1⟩
          have r6 := (hb1.cell (p := ⟨w.heap.size, 6, none⟩) (by simp)).trans c6
          have HB1 := Lib.hid (bch hB.out hb1)
          clear c0 c1 c2 c3 c4 c5 c6 hb1 hB
          generalize tagB v.tag.data.toList = tb at OK3
          cases tb with
          | false =>
            go_wp2_with fail
            go_ret
            exact ⟨ret_bool OK3.out.symm, HB1.out⟩
          | true =>
            by_cases s1 : 0 ≤ v.step
            · have d4 : decide (v.step ≥ 0) = true := decide_eq_true s1
              by_cases s2 : v.step ≤ 999
              · have d5 : decide (v.step ≤ 999) = true := decide_eq_true s2
                have OK4 : Hid (v.ok = true) := Lib.hid (by rw [OK3.out, decide_eq_true ⟨s1, s2⟩]; rfl)
                go_wp2_with fail
                go_ret
                exact ⟨ret_bool OK4.out.symm, HB1.out⟩
              · have d5 : decide (v.step ≤ 999) = false := decide_eq_false s2
                have OK4 : Hid (v.ok = false) := Lib.hid (by rw [OK3.out, decide_eq_false (fun h => s2 h.2)]; rfl)
                go_wp2_with fail
                go_ret
                exact ⟨ret_bool OK4.out.symm, HB1.out⟩
            · have d4 : decide (v.step ≥ 0) = false := decide_eq_false s1
              have OK4 : Hid (v.ok = false) := Lib.hid (by rw [OK3.out, decide_eq_false (fun h => s1 h.1)]; rfl)
              go_wp2_with fail
              go_ret
              exact ⟨ret_bool OK4.out.symm, HB1.out⟩
  · have ok1 : v.ok = false := by unfold Ver.ok; rw [decide_eq_false hm]; rfl
    have OK1 := Lib.hid ok1
    clear ok1
    go_enter Tryz.func57, Tryz.ntmps57
    by_cases h1 : v.many < 1
    · have d1 : decide (v.many < 1) = true := decide_eq_true h1
      clear hm
      go_wp2_with fail
      go_ret
      exact ⟨ret_bool OK1.out.symm, hB.out⟩
    · have d1 : decide (v.many < 1) = false := decide_eq_false h1
      have d2 : decide (v.many > 4) = true := decide_eq_true (by omega)
      clear hm
      go_wp2_with fail
      go_ret
      exact ⟨ret_bool OK1.out.symm, hB.out⟩
end Go.Proofs.YtlfehjjnepiljaaGreatDoor

namespace Go.Proofs.YtlfehjjnepiljaaGreatDoor
open Go.RowKit Go.Shelf

def orI (x y : Int) : Int := if x = 0 then y else x
def firstC (c : Nat → Int) : Int := orI (c 0) (orI (c 1) (orI (c 2) (c 3)))
def numC (a b : Ver) (j : Nat) : Int := Lib.compareInt (a.num j) (b.num j)
def tagC (a b : ByteArray) : Int := if a = b then 0 else if a.data.toList = [] then 1 else if b.data.toList = [] then -1 else Lib.compareBytes a.data.toList b.data.toList
def cmpV (a b : Ver) : Int := firstC fun j => if j = 0 then firstC (numC a b) else if j = 1 then tagC a.tag b.tag else if j = 2 then Lib.compareInt a.step b.step else Lib.compareInt a.many b.many

theorem firstC_at (c : Nat → Int) (k : Nat) (hk : k < 4) (h0 : ∀ j, j < k → c j = 0) (h : c k ≠ 0) : firstC c = c k := by
  unfold firstC orI
  rcases (by omega : k = 0 ∨ k = 1 ∨ k = 2 ∨ k = 3) with rfl | rfl | rfl | rfl
  · rw [if_neg h]
  · rw [if_pos (h0 0 (by omega)), if_neg h]
  · rw [if_pos (h0 0 (by omega)), if_pos (h0 1 (by omega)), if_neg h]
  · rw [if_pos (h0 0 (by omega)), if_pos (h0 1 (by omega)), if_pos (h0 2 (by omega))]
theorem firstC_none (c : Nat → Int) (h0 : ∀ j, j < 4 → c j = 0) : firstC c = 0 := by
  unfold firstC orI
  rw [if_pos (h0 0 (by omega)), if_pos (h0 1 (by omega)), if_pos (h0 2 (by omega)), h0 3 (by omega)]
theorem VBox.num {w : World} {g : Nat} {v : Ver} (h : VBox w g v) {k : Nat} (hk : k < 4) : w.cell? ⟨g, k, none⟩ = some (.int .i64 (v.num k)) := by
  rcases (by omega : k = 0 ∨ k = 1 ∨ k = 2 ∨ k = 3) with rfl | rfl | rfl | rfl
  · exact h.c0
  · exact h.c1
  · exact h.c2
  · exact h.c3
theorem VBox.drewN {w : World} {g : Nat} {v : Ver} (h : VBox w g v) (n : Nat) : VBox (w.drewN n) g v := ⟨h.c0, h.c1, h.c2, h.c3, h.c4, h.c5, h.c6⟩
theorem ret_int {k : IntKind} {a b : Int} (h : a = b) : Ending.returned (.int k a) = .returned (.int k b) := by rw [h]

theorem cmp_int (x y : Int) (w : World) : Calls Tryz.prog 78 #[.int .i64 x, .int .i64 y] w fun e w' => e = .returned (.int .i64 (Lib.compareInt x y)) ∧ w = w' := (Tryz.cmp_Compare_int x y w).mono fun _ _ h => ⟨h.1, h.2.symm⟩
theorem str_cmp (a b : ByteArray) (w : World) : Calls Tryz.prog 94 #[.string a, .string b] w fun e w' => e = .returned (.int .i64 (Lib.compareBytes a.data.toList b.data.toList)) ∧ w = w' := (Tryz.strings_Compare a b w).mono fun _ _ h => ⟨h.1, h.2.symm⟩

set_option maxRecDepth 100000 in
set_option maxHeartbeats 1000000 in
theorem tags_any (a b : ByteArray) (w : World) : Calls Tryz.prog 80 #[.string a, .string b] w fun e w' => e = .returned (.int .i64 (tagC a b)) ∧ w = w' := by
  by_cases h1 : a = b
  · subst h1
    have HT : Hid (tagC a a = 0) := Lib.hid (if_pos rfl)
    have t2 : (a.toList == a.toList) = true := by simp
    go_enter Tryz.func80, Tryz.ntmps80
    go_wp2_with fail
    go_ret
    exact ⟨ret_int HT.out.symm, rfl⟩
  · have e1 : a.toList ≠ b.toList := fun h => h1 (by
      rw [Lib.toList_data, Lib.toList_data] at h
      cases a
      cases b
      simp at h
      rw [h])
    have t2 : (a.toList == b.toList) = false := by simp [e1]
    by_cases ha : a.toList = []
    · have HT : Hid (tagC a b = 1) := Lib.hid (by unfold tagC; rw [if_neg h1, if_pos (by rw [← Lib.toList_data]; exact ha)])
      have f1 := isEmpty_yes ha
      clear h1 e1 ha
      go_enter Tryz.func80, Tryz.ntmps80
      go_wp2_with fail
      go_ret
      exact ⟨ret_int HT.out.symm, rfl⟩
    · have f1 := isEmpty_no ha
      by_cases hb : b.toList = []
      · have HT : Hid (tagC a b = -1) := Lib.hid (by unfold tagC; rw [if_neg h1, if_neg (by rw [← Lib.toList_data]; exact ha), if_pos (by rw [← Lib.toList_data]; exact hb)])
        have f2 := isEmpty_yes hb
        clear h1 e1 ha hb
        go_enter Tryz.func80, Tryz.ntmps80
        go_wp2_with fail
        go_ret
        exact ⟨ret_int HT.out.symm, rfl⟩
      · have HT : Hid (tagC a b = Lib.compareBytes a.data.toList b.data.toList) := Lib.hid (by unfold tagC; rw [if_neg h1, if_neg (by rw [← Lib.toList_data]; exact ha), if_neg (by rw [← Lib.toList_data]; exact hb)])
        have f2 := isEmpty_no hb
        clear h1 e1 ha hb
        go_enter Tryz.func80, Tryz.ntmps80
        go_wp2_with fail
        refine (str_cmp a b w).mono ?_
        rintro e w1 ⟨rfl, rfl⟩
        go_wp2_with fail
        go_ret
        exact ⟨ret_int HT.out.symm, rfl⟩

set_option maxRecDepth 100000 in
set_option maxHeartbeats 1000000 in
/-- How two versions differ at a place: the closure. -/
theorem differ_any (a b : Ver) (ga gb k : Nat) (hk : k < 4) (w : World) (ha : VBox w ga a) (hb : VBox w gb b) : Calls Tryz.prog 77 #[.int .i64 (k : Int), .pointer (some ⟨ga, 0, none⟩), .pointer (some ⟨gb, 0, none⟩)] w fun e w' => e = .returned (.int .i64 (numC a b k)) ∧ ∃ n, w' = w.drewN n := by
  have r1 := ha.num hk
  have r2 := hb.num hk
  have k1 : (0 : Int) ≤ (k : Int) := by omega
  have k2 : (k : Int) < 4 := by omega
  have HN : Hid (numC a b k = Lib.compareInt (a.num k) (b.num k)) := Lib.hid rfl
  generalize a.num k = x at r1 HN
  generalize b.num k = y at r2 HN
  clear ha hb
  go_enter Tryz.func77, Tryz.ntmps77
  go_wp2_with fail
  go_quiet ((go_at_call 78; exact Calls.quiet_of_same (Tryz.cmp_Compare_int _ _ _)))
  go_wp2_with fail
  go_ret
  exact ⟨ret_int HN.out.symm, _, rfl⟩

set_option maxRecDepth 100000 in
set_option maxHeartbeats 2000000 in
theorem firstOf_any (a b : Ver) (ga gb : Nat) (w : World) (ha : VBox w ga a) (hb : VBox w gb b) : Calls Tryz.prog 76 #[.int .i64 4, .func (.func 77) #[] #[.pointer (some ⟨ga, 0, none⟩), .pointer (some ⟨gb, 0, none⟩)]] w fun e w' => e = .returned (.int .i64 (firstC (numC a b))) ∧ ∃ n, w' = w.drewN n := by
  have HA := Lib.hid ha
  have HB := Lib.hid hb
  clear ha hb
  go_enter Tryz.func76, Tryz.ntmps76
  go_wp2_with fail
  go_loopw [5, 6, 8, 9, 10, 11, 12, 13, 14, 15, 17] (fun _ _ i _ _ _ _ _ _ _ _ wr => ∃ k d : Nat, k ≤ 4 ∧ i = .int .i64 k ∧ wr = w.drewN d ∧ Hid (∀ j, j < k → numC a b j = 0)) (fun _ _ i _ _ _ _ _ _ _ _ _ => 4 - (Lib.intOf i).toNat)
  case atStart => exact ⟨0, 0, Nat.zero_le _, rfl, rfl, Lib.hid (fun j hj => absurd hj (Nat.not_lt_zero _))⟩
  case round =>
    obtain ⟨k, d, hk, rfl, hwr, HK⟩ := hrel
    subst hwr
    by_cases hlt : k < 4
    · have k4 : (k : Int) < 4 := by omega
      go_wp2_with fail
      refine (differ_any a b ga gb k hlt _ (HA.out.drewN d) (HB.out.drewN d)).mono ?_
      rintro e w1 ⟨rfl, d1, rfl⟩
      by_cases hz : numC a b k = 0
      · have hz2 : (numC a b k != 0) = false := by simp [hz]
        have HZ2 := Lib.hid hz
        rw [hz]
        clear hz hz2
        go_wp2_with fail
        go_roundw
        case rel => exact ⟨k + 1, d + d1, hlt, by go_num, rfl, Lib.hid (fun j hj => by
          rcases Nat.lt_or_ge j k with h | h
          · exact HK.out j h
          · obtain rfl : j = k := by omega
            exact HZ2.out)⟩
        case measure => simp [Lib.intOf]; omega
      · have hz2 : (numC a b k != 0) = true := by simp [hz]
        have HZ := Lib.hid (firstC_at (numC a b) k hlt HK.out hz)
        clear hz
        generalize numC a b k = x at hz2 HZ
        go_wp2_with fail
        go_ret
        exact ⟨ret_int HZ.out.symm, d + d1, rfl⟩
    · have k4 : ¬ ((k : Int) < 4) := by omega
      have hk4 : k = 4 := by omega
      have HZ := Lib.hid (firstC_none (numC a b) (fun j hj => HK.out j (by omega)))
      clear hk4
      go_wp2_with fail
      go_ret
      exact ⟨ret_int HZ.out.symm, d, rfl⟩

set_option maxRecDepth 100000 in
set_option maxHeartbeats 2000000 in
theorem or_any (c : Nat → Int) (g : Nat) (w : World) (hc : ∀ j, j < 4 → w.cell? ⟨g, j, none⟩ = some (.int .i64 (c j))) : Calls Tryz.prog 79 #[.slice (some ⟨g, 0, none⟩) 4 4] w fun e w' => e = .returned (.int .i64 (firstC c)) ∧ w = w' := by
  have HC := Lib.hid hc
  clear hc
  go_enter Tryz.func79, Tryz.ntmps79
  go_wp2_with fail
  go_loop [5, 8, 9, 10, 11, 12, 13, 14, 16] (fun _ i _ _ _ _ _ _ _ => ∃ k : Nat, k ≤ 4 ∧ i = .int .i64 k ∧ Hid (∀ j, j < k → c j = 0)) (fun _ i _ _ _ _ _ _ _ => 4 - (Lib.intOf i).toNat)
  case atStart => exact ⟨0, Nat.zero_le _, rfl, Lib.hid (fun j hj => absurd hj (Nat.not_lt_zero _))⟩
  case round =>
    obtain ⟨k, hk, rfl, HK⟩ := hrel
    by_cases hlt : k < 4
    · have k4 : (k : Int) < 4 := by omega
      have c1 := HC.out k hlt
      by_cases hz : c k = 0
      · have HZ2 := Lib.hid hz
        rw [hz] at c1
        clear hz
        go_wp2_with fail
        go_round
        case rel => exact ⟨k + 1, hlt, by go_num, Lib.hid (fun j hj => by
          rcases Nat.lt_or_ge j k with h | h
          · exact HK.out j h
          · obtain rfl : j = k := by omega
            exact HZ2.out)⟩
        case measure => simp [Lib.intOf]; omega
      · have hz2 : (c k != 0) = true := by simp [hz]
        have HZ := Lib.hid (firstC_at c k hlt HK.out hz)
        clear hz
        generalize c k = x at hz2 HZ c1
        go_wp2_with fail
        go_ret
        exact ⟨ret_int HZ.out.symm, rfl⟩
    · have k4 : ¬ ((k : Int) < 4) := by omega
      have hk4 : k = 4 := by omega
      have HZ := Lib.hid (firstC_none c (fun j hj => HK.out j (by omega)))
      clear hk4
      go_wp2_with fail
      go_ret
      exact ⟨ret_int HZ.out.symm, rfl⟩

/-- Two versions in their boxes, all else as it was. -/
structure Two (a b : Ver) (ga gb : Nat) (w w' : World) : Prop where
  l : VBox w' ga a
  r : VBox w' gb b
  low : Below w.heap.size w w'
theorem VBox.alloc {w : World} {g : Nat} {v : Ver} (h : VBox w g v) (o : Obj) : VBox (w.alloc o) g v := by
  have k : ∀ {j : Nat} {x : Value}, w.cell? ⟨g, j, none⟩ = some x → (w.alloc o).cell? ⟨g, j, none⟩ = some x := fun {j x} hx => by
    rw [World.cell?_alloc_lt _ _ _ (World.block_lt_of_cell? w _ hx)]
    exact hx
  exact ⟨k h.c0, k h.c1, k h.c2, k h.c3, k h.c4, k h.c5, k h.c6⟩
theorem VBox.drew {w : World} {g : Nat} {v : Ver} (h : VBox w g v) : VBox w.drew g v := ⟨h.c0, h.c1, h.c2, h.c3, h.c4, h.c5, h.c6⟩
theorem Two.alloc {a b : Ver} {ga gb : Nat} {w w' : World} (h : Two a b ga gb w w') (o : Obj) : Two a b ga gb w (w'.alloc o) := ⟨h.l.alloc o, h.r.alloc o, h.low.alloc h.low.size o⟩
theorem Two.drew {a b : Ver} {ga gb : Nat} {w w' : World} (h : Two a b ga gb w w') : Two a b ga gb w w'.drew := ⟨h.l.drew, h.r.drew, h.low.drew⟩
theorem tags_q (a b : ByteArray) (w : World) : Calls Tryz.prog 80 #[.string a, .string b] w fun e w' => e = .returned (.int .i64 (tagC a b)) ∧ w' = w := (tags_any a b w).mono fun _ _ h => ⟨h.1, h.2.symm⟩

set_option maxRecDepth 100000 in
set_option maxHeartbeats 2000000 in
theorem compare_any (a b : Ver) (w : World) : Calls Tryz.prog 58 #[.agg a.arr, .agg b.arr] w fun e w' => e = .returned (.int .i64 (cmpV a b)) ∧ Below w.heap.size w w' := by
  have X1 : Box ((w.alloc (.cells a.arr 45)).alloc (.cells b.arr 45)) w.heap.size 45 a.arr := box_new.alloc _
  have X2 : Box ((w.alloc (.cells a.arr 45)).alloc (.cells b.arr 45)) (w.heap.size + 1) 45 b.arr := heap_alloc2_new w _ _
  have V1 := Lib.hid X1.ver
  have V2 := Lib.hid X2.ver
  have hB := Lib.hid (((Below.refl w.heap.size w).alloc (Nat.le_refl _) (.cells a.arr 45)).alloc (by simp) (.cells b.arr 45))
  clear X1 X2
  go_enter Tryz.func58, Tryz.ntmps58
  go_wp2_with fail
  refine (firstOf_any a b _ _ _ V1.out V2.out).mono ?_
  rintro e w1 ⟨rfl, d1, hw1⟩
  obtain ⟨wb, hwb⟩ : ∃ x, x = (w.alloc (.cells a.arr 45)).alloc (.cells b.arr 45) := ⟨_, rfl⟩
  rw [← hwb] at hw1 V1 V2 hB
  have U1 : Hid (VBox w1 w.heap.size a) := Lib.hid (by rw [hw1]; exact V1.out.drewN d1)
  have U2 : Hid (VBox w1 (w.heap.size + 1) b) := Lib.hid (by rw [hw1]; exact V2.out.drewN d1)
  have hB1 : Hid (Below w.heap.size w w1) := Lib.hid (by rw [hw1]; exact below_drewN hB.out d1)
  clear hw1 hwb V1 V2 hB
  go_wp2_with fail
  have k0 : Two a b w.heap.size (w.heap.size + 1) w w1 := ⟨U1.out, U2.out, hB1.out⟩
  clear U1 U2 hB1
  refine wp_region_held_drew (S := fun w' => Two a b w.heap.size (w.heap.size + 1) w w') (by kernel_rfl) k0.drew (fun hHeld => ?_)
  refine wpAnyH_take (i := 0) (oi := { dst := some 8, op := Op.move (Operand.tmp 5), type := 3, pos := "order.go:45", after := #[], guard := none }) (v := ?_) rfl (by kernel_rfl) (by kernel_rfl) (by kernel_rfl) (fun _ _ _ h => h) (Or.inl ⟨by rfl, ?_⟩) hHeld ?_
  rotate_left
  · (intro w hSw; go_simp; try with_reducible rfl)
  (try simp only [Act.put, List.setIfInBounds_toArray, List.set_cons_zero, List.set_cons_succ])
  refine wpAnyH_take (i := 1) (oi := { dst := some 9, op := Op.fieldAddr 45 (Operand.tmp 2) 2, type := 0, pos := "order.go:45", after := #[], guard := none }) (v := ?_) rfl (by kernel_rfl) (by kernel_rfl) (by kernel_rfl) (fun _ _ _ h => h) (Or.inl ⟨by rfl, ?_⟩) hHeld ?_
  rotate_left
  · (intro w hSw; go_simp; try with_reducible rfl)
  (try simp only [Act.put, List.setIfInBounds_toArray, List.set_cons_zero, List.set_cons_succ])
  refine wpAnyH_take (i := 2) (oi := { dst := some 10, op := Op.load 9 (Operand.tmp 9), type := 9, pos := "order.go:45", after := #[{ on := 1, ground := Ground.data }], guard := none }) (v := ?_) rfl (by kernel_rfl) (by kernel_rfl) (by kernel_rfl) (fun _ _ _ h => h) (Or.inl ⟨by rfl, ?_⟩) hHeld ?_
  rotate_left
  · (intro w hSw; have hc := hSw.l.c5; go_simp; try with_reducible rfl)
  (try simp only [Act.put, List.setIfInBounds_toArray, List.set_cons_zero, List.set_cons_succ])
  refine wpAnyH_take (i := 3) (oi := { dst := some 11, op := Op.fieldAddr 45 (Operand.tmp 3) 2, type := 0, pos := "order.go:45", after := #[], guard := none }) (v := ?_) rfl (by kernel_rfl) (by kernel_rfl) (by kernel_rfl) (fun _ _ _ h => h) (Or.inl ⟨by rfl, ?_⟩) hHeld ?_
  rotate_left
  · (intro w hSw; go_simp; try with_reducible rfl)
  (try simp only [Act.put, List.setIfInBounds_toArray, List.set_cons_zero, List.set_cons_succ])
  refine wpAnyH_take (i := 4) (oi := { dst := some 12, op := Op.load 9 (Operand.tmp 11), type := 9, pos := "order.go:45", after := #[{ on := 3, ground := Ground.data }], guard := none }) (v := ?_) rfl (by kernel_rfl) (by kernel_rfl) (by kernel_rfl) (fun _ _ _ h => h) (Or.inl ⟨by rfl, ?_⟩) hHeld ?_
  rotate_left
  · (intro w hSw; have hc := hSw.r.c5; go_simp; try with_reducible rfl)
  (try simp only [Act.put, List.setIfInBounds_toArray, List.set_cons_zero, List.set_cons_succ])
  refine wpAnyH_take (i := 6) (oi := { dst := some 14, op := Op.fieldAddr 45 (Operand.tmp 2) 3, type := 0, pos := "order.go:45", after := #[], guard := none }) (v := ?_) rfl (by kernel_rfl) (by kernel_rfl) (by kernel_rfl) (fun _ _ _ h => h) (Or.inl ⟨by rfl, ?_⟩) hHeld ?_
  rotate_left
  · (intro w hSw; go_simp; try with_reducible rfl)
  (try simp only [Act.put, List.setIfInBounds_toArray, List.set_cons_zero, List.set_cons_succ])
  refine wpAnyH_take (i := 7) (oi := { dst := some 15, op := Op.load 3 (Operand.tmp 14), type := 3, pos := "order.go:45", after := #[{ on := 6, ground := Ground.data }], guard := none }) (v := ?_) rfl (by kernel_rfl) (by kernel_rfl) (by kernel_rfl) (fun _ _ _ h => h) (Or.inl ⟨by rfl, ?_⟩) hHeld ?_
  rotate_left
  · (intro w hSw; have hc := hSw.l.c6; go_simp; try with_reducible rfl)
  (try simp only [Act.put, List.setIfInBounds_toArray, List.set_cons_zero, List.set_cons_succ])
  refine wpAnyH_take (i := 8) (oi := { dst := some 16, op := Op.fieldAddr 45 (Operand.tmp 3) 3, type := 0, pos := "order.go:45", after := #[], guard := none }) (v := ?_) rfl (by kernel_rfl) (by kernel_rfl) (by kernel_rfl) (fun _ _ _ h => h) (Or.inl ⟨by rfl, ?_⟩) hHeld ?_
  rotate_left
  · (intro w hSw; go_simp; try with_reducible rfl)
  (try simp only [Act.put, List.setIfInBounds_toArray, List.set_cons_zero, List.set_cons_succ])
  refine wpAnyH_take (i := 9) (oi := { dst := some 17, op := Op.load 3 (Operand.tmp 16), type := 3, pos := "order.go:45", after := #[{ on := 8, ground := Ground.data }], guard := none }) (v := ?_) rfl (by kernel_rfl) (by kernel_rfl) (by kernel_rfl) (fun _ _ _ h => h) (Or.inl ⟨by rfl, ?_⟩) hHeld ?_
  rotate_left
  · (intro w hSw; have hc := hSw.r.c6; go_simp; try with_reducible rfl)
  (try simp only [Act.put, List.setIfInBounds_toArray, List.set_cons_zero, List.set_cons_succ])
  refine wpAnyH_take (i := 11) (oi := { dst := some 19, op := Op.fieldAddr 45 (Operand.tmp 2) 1, type := 0, pos := "order.go:45", after := #[], guard := none }) (v := ?_) rfl (by kernel_rfl) (by kernel_rfl) (by kernel_rfl) (fun _ _ _ h => h) (Or.inl ⟨by rfl, ?_⟩) hHeld ?_
  rotate_left
  · (intro w hSw; go_simp; try with_reducible rfl)
  (try simp only [Act.put, List.setIfInBounds_toArray, List.set_cons_zero, List.set_cons_succ])
  refine wpAnyH_take (i := 12) (oi := { dst := some 20, op := Op.load 3 (Operand.tmp 19), type := 3, pos := "order.go:45", after := #[{ on := 11, ground := Ground.data }], guard := none }) (v := ?_) rfl (by kernel_rfl) (by kernel_rfl) (by kernel_rfl) (fun _ _ _ h => h) (Or.inl ⟨by rfl, ?_⟩) hHeld ?_
  rotate_left
  · (intro w hSw; have hc := hSw.l.c4; go_simp; try with_reducible rfl)
  (try simp only [Act.put, List.setIfInBounds_toArray, List.set_cons_zero, List.set_cons_succ])
  refine wpAnyH_take (i := 13) (oi := { dst := some 21, op := Op.fieldAddr 45 (Operand.tmp 3) 1, type := 0, pos := "order.go:45", after := #[], guard := none }) (v := ?_) rfl (by kernel_rfl) (by kernel_rfl) (by kernel_rfl) (fun _ _ _ h => h) (Or.inl ⟨by rfl, ?_⟩) hHeld ?_
  rotate_left
  · (intro w hSw; go_simp; try with_reducible rfl)
  (try simp only [Act.put, List.setIfInBounds_toArray, List.set_cons_zero, List.set_cons_succ])
  refine wpAnyH_take (i := 14) (oi := { dst := some 22, op := Op.load 3 (Operand.tmp 21), type := 3, pos := "order.go:45", after := #[{ on := 13, ground := Ground.data }], guard := none }) (v := ?_) rfl (by kernel_rfl) (by kernel_rfl) (by kernel_rfl) (fun _ _ _ h => h) (Or.inl ⟨by rfl, ?_⟩) hHeld ?_
  rotate_left
  · (intro w hSw; have hc := hSw.r.c4; go_simp; try with_reducible rfl)
  (try simp only [Act.put, List.setIfInBounds_toArray, List.set_cons_zero, List.set_cons_succ])
  refine wpAnyH_ready (rs := [5]) (by kernel_rfl) (by simp) (AllReadyH.cons (o := { dst := some 13, op := Op.call { callee := Callee.value (Operand.func 80), args := #[Operand.tmp 10, Operand.tmp 12], argTypes := #[9, 9] }, type := 3, pos := "order.go:45", after := #[{ on := 2, ground := Ground.data }, { on := 4, ground := Ground.data }], guard := none }) rfl (fun K hK => ?_) AllReadyH.nil)
  · go_simp
    refine (tags_any _ _ _).mono ?_
    rintro e wa ⟨rfl, rfl⟩
    refine hK.out _ _ hHeld (fun hHeld => ?_)
    (try simp only [Act.put, List.setIfInBounds_toArray, List.set_cons_zero, List.set_cons_succ])
    refine wpAnyH_ready (rs := [10]) (by kernel_rfl) (by simp) (AllReadyH.cons (o := { dst := some 18, op := Op.call { callee := Callee.value (Operand.func 78), args := #[Operand.tmp 15, Operand.tmp 17], argTypes := #[3, 3] }, type := 3, pos := "order.go:45", after := #[{ on := 7, ground := Ground.data }, { on := 9, ground := Ground.data }, { on := 5, ground := Ground.chain }], guard := none }) rfl (fun K hK => ?_) AllReadyH.nil)
    · go_simp
      refine (cmp_int _ _ _).mono ?_
      rintro e wa ⟨rfl, rfl⟩
      refine hK.out _ _ hHeld (fun hHeld => ?_)
      (try simp only [Act.put, List.setIfInBounds_toArray, List.set_cons_zero, List.set_cons_succ])
      refine wpAnyH_ready (rs := [15]) (by kernel_rfl) (by simp) (AllReadyH.cons (o := { dst := some 23, op := Op.call { callee := Callee.value (Operand.func 78), args := #[Operand.tmp 20, Operand.tmp 22], argTypes := #[3, 3] }, type := 3, pos := "order.go:45", after := #[{ on := 12, ground := Ground.data }, { on := 14, ground := Ground.data }, { on := 10, ground := Ground.chain }], guard := none }) rfl (fun K hK => ?_) AllReadyH.nil)
      · go_simp
        refine (cmp_int _ _ _).mono ?_
        rintro e wa ⟨rfl, rfl⟩
        refine hK.out _ _ hHeld (fun hHeld => ?_)
        (try simp only [Act.put, List.setIfInBounds_toArray, List.set_cons_zero, List.set_cons_succ])
        refine wpAnyH_ready (rs := [16]) (by kernel_rfl) (by simp) (AllReadyH.cons (o := { dst := some 24, op := Op.buildSlice 132 4 #[(0, Operand.tmp 8), (1, Operand.tmp 13), (2, Operand.tmp 18), (3, Operand.tmp 23)], type := 132, pos := "order.go:45", after := #[{ on := 0, ground := Ground.data }, { on := 5, ground := Ground.data }, { on := 10, ground := Ground.data }, { on := 15, ground := Ground.data }], guard := none }) rfl (fun K hK => ?_) AllReadyH.nil)
        · go_simp
          refine hK.out _ _ (hHeld.alloc _) (fun hHeld => ?_)
          (try simp only [Act.put, List.setIfInBounds_toArray, List.set_cons_zero, List.set_cons_succ])
          refine wpAnyH_ready (rs := [17]) (by kernel_rfl) (by simp) (AllReadyH.cons (o := { dst := some 25, op := Op.call { callee := Callee.value (Operand.func 79), args := #[Operand.tmp 24], argTypes := #[132] }, type := 3, pos := "order.go:45", after := #[{ on := 16, ground := Ground.data }, { on := 15, ground := Ground.chain }], guard := none }) rfl (fun K hK => ?_) AllReadyH.nil)
          · go_simp
            refine (or_any (fun j => if j = 0 then firstC (numC a b) else if j = 1 then tagC a.tag b.tag else if j = 2 then Lib.compareInt a.step b.step else Lib.compareInt a.many b.many) _ _ (fun j hj => by
              rcases (by omega : j = 0 ∨ j = 1 ∨ j = 2 ∨ j = 3) with rfl | rfl | rfl | rfl
              all_goals exact World.cell?_alloc_new _ _ _ _)).mono ?_
            rintro e wa ⟨rfl, rfl⟩
            refine hK.out _ _ hHeld (fun hHeld => ?_)
            (try simp only [Act.put, List.setIfInBounds_toArray, List.set_cons_zero, List.set_cons_succ])
            refine wpAnyH_take (i := 18) (oi := { dst := some 4, op := Op.assign (Operand.tmp 25), type := 3, pos := "order.go:45", after := #[{ on := 17, ground := Ground.data }, { on := 17, ground := Ground.chain }, { on := 0, ground := Ground.phase }, { on := 1, ground := Ground.phase }, { on := 2, ground := Ground.phase }, { on := 3, ground := Ground.phase }, { on := 4, ground := Ground.phase }, { on := 5, ground := Ground.phase }, { on := 6, ground := Ground.phase }, { on := 7, ground := Ground.phase }, { on := 8, ground := Ground.phase }, { on := 9, ground := Ground.phase }, { on := 10, ground := Ground.phase }, { on := 11, ground := Ground.phase }, { on := 12, ground := Ground.phase }, { on := 13, ground := Ground.phase }, { on := 14, ground := Ground.phase }, { on := 15, ground := Ground.phase }, { on := 16, ground := Ground.phase }, { on := 17, ground := Ground.phase }], guard := none }) (v := ?_) rfl (by kernel_rfl) (by kernel_rfl) (by kernel_rfl) (fun _ _ _ h => h) (Or.inl ⟨by rfl, ?_⟩) hHeld ?_
            rotate_left
            · (intro w hSw; go_simp; try with_reducible rfl)
            (try simp only [Act.put, List.setIfInBounds_toArray, List.set_cons_zero, List.set_cons_succ])
            refine wpAnyH_done (by kernel_rfl) ?_ _
            have hfin := hHeld.low
            clear hHeld
            go_wp2_with fail
            go_ret
            exact ⟨rfl, hfin⟩
end Go.Proofs.YtlfehjjnepiljaaGreatDoor

namespace Go.Proofs.YtlfehjjnepiljaaGreatDoor
open Go.RowKit Go.Shelf

/-- What Compare tells. -/
def cmpW (a b : Ver) : Int := if a.ok then (if b.ok then cmpV a b else 1) else if b.ok then -1 else 0
theorem VBox.on {w w' : World} {g : Nat} {v : Ver} (h : VBox w g v) (hb : Below w.heap.size w w') : VBox w' g v := by
  have hg : g < w.heap.size := World.block_lt_of_cell? w _ h.c0
  exact ⟨(hb.cell (p := ⟨g, _, none⟩) hg).trans h.c0, (hb.cell (p := ⟨g, _, none⟩) hg).trans h.c1, (hb.cell (p := ⟨g, _, none⟩) hg).trans h.c2, (hb.cell (p := ⟨g, _, none⟩) hg).trans h.c3, (hb.cell (p := ⟨g, _, none⟩) hg).trans h.c4, (hb.cell (p := ⟨g, _, none⟩) hg).trans h.c5, (hb.cell (p := ⟨g, _, none⟩) hg).trans h.c6⟩
theorem Two.on {a b : Ver} {ga gb : Nat} {w w' w'' : World} (h : Two a b ga gb w w') (hb : Below w'.heap.size w' w'') : Two a b ga gb w w'' := ⟨h.l.on hb, h.r.on hb, bch h.low hb⟩

def Tells (v : Ver) (o : Bool) : Prop := ∀ W, Calls Tryz.prog 57 #[.agg v.arr] W fun e w' => e = .returned (.bool o) ∧ Below W.heap.size W w'
theorem tells_of {v : Ver} {o : Bool} (h : o = v.ok) : Tells v o := fun W => by
  subst h
  exact valid_any v W

set_option maxRecDepth 100000 in
set_option maxHeartbeats 1000000 in
theorem check_any (v : Ver) (w : World) : Calls Tryz.prog 30 #[.agg v.arr] w fun e w' => e = .returned (.int .i64 (if v.ok then 0 else 140)) ∧ Below w.heap.size w w' := by
  have X1 : Box (w.alloc (.cells v.arr 45)) w.heap.size 45 v.arr := box_new
  obtain ⟨p0, p1, p2, p3, p4, p5, p6⟩ := X1.ver
  have hB := Lib.hid (below_new w (.cells v.arr 45))
  obtain ⟨o, ho⟩ : ∃ o, o = v.ok := ⟨_, rfl⟩
  have HA := Lib.hid (tells_of ho)
  rw [← ho]
  clear X1 ho
  cases o with
  | true =>
    go_enter Tryz.func30, Tryz.ntmps30
    go_wp2_with fail
    refine (HA.out _).mono ?_
    rintro e w1 ⟨rfl, hb⟩
    go_wp2_with fail
    go_ret
    exact ⟨rfl, bch hB.out hb⟩
  | false =>
    go_enter Tryz.func30, Tryz.ntmps30
    go_wp2_with fail
    refine (HA.out _).mono ?_
    rintro e w1 ⟨rfl, hb⟩
    go_wp2_with fail
    go_ret
    exact ⟨rfl, bch hB.out hb⟩

set_option maxRecDepth 100000 in
set_option maxHeartbeats 2000000 in
theorem compare_tt (a b : Ver) (ha : Tells a true) (hb : Tells b true) (w : World) : Calls Tryz.prog 31 #[.agg a.arr, .agg b.arr] w fun e w' => e = .returned (.int .i64 (cmpV a b)) ∧ Below w.heap.size w w' := by
  have X1 : Box ((w.alloc (.cells a.arr 45)).alloc (.cells b.arr 45)) w.heap.size 45 a.arr := box_new.alloc _
  have X2 : Box ((w.alloc (.cells a.arr 45)).alloc (.cells b.arr 45)) (w.heap.size + 1) 45 b.arr := heap_alloc2_new w _ _
  have k0 : Hid (Two a b w.heap.size (w.heap.size + 1) w ((w.alloc (.cells a.arr 45)).alloc (.cells b.arr 45))) := Lib.hid ⟨X1.ver, X2.ver, ((Below.refl w.heap.size w).alloc (Nat.le_refl _) (.cells a.arr 45)).alloc (by simp) (.cells b.arr 45)⟩
  have HA := Lib.hid ha
  have HB := Lib.hid hb
  clear X1 X2 ha hb
  go_enter Tryz.func31, Tryz.ntmps31
  go_wp2_with fail
  refine wp_region_held_drew (S := fun w' => Two a b w.heap.size (w.heap.size + 1) w w') (by kernel_rfl) k0.out.drew (fun hHeld => ?_)
  refine wpAnyH_take (i := 0) (oi := { dst := some 7, op := Op.load 45 (Operand.tmp 2), type := 45, pos := "version.go:37", after := #[], guard := none }) (v := ?_) rfl (by kernel_rfl) (by kernel_rfl) (by kernel_rfl) (fun _ _ _ h => h) (Or.inl ⟨by rfl, ?_⟩) hHeld ?_
  rotate_left
  · (intro w hSw; obtain ⟨p0, p1, p2, p3, p4, p5, p6⟩ := hSw.l; go_simp; try with_reducible rfl)
  (try simp only [Act.put, List.setIfInBounds_toArray, List.set_cons_zero, List.set_cons_succ])
  refine wpAnyH_take (i := 2) (oi := { dst := some 9, op := Op.load 45 (Operand.tmp 3), type := 45, pos := "version.go:37", after := #[], guard := none }) (v := ?_) rfl (by kernel_rfl) (by kernel_rfl) (by kernel_rfl) (fun _ _ _ h => h) (Or.inl ⟨by rfl, ?_⟩) hHeld ?_
  rotate_left
  · (intro w hSw; obtain ⟨p0, p1, p2, p3, p4, p5, p6⟩ := hSw.r; go_simp; try with_reducible rfl)
  (try simp only [Act.put, List.setIfInBounds_toArray, List.set_cons_zero, List.set_cons_succ])
  refine wpAnyH_ready (rs := [1]) (by kernel_rfl) (by simp) (AllReadyH.cons (o := { dst := some 8, op := Op.call { callee := Callee.value (Operand.func 57), args := #[Operand.tmp 7], argTypes := #[45] }, type := 4, pos := "version.go:37", after := #[{ on := 0, ground := Ground.data }], guard := none }) rfl (fun K hK => ?_) AllReadyH.nil)
  · go_simp
    refine (HA.out _).mono ?_
    rintro e wa ⟨rfl, hba⟩
    refine hK.out _ _ (hHeld.on hba) (fun hHeld => ?_)
    (try simp only [Act.put, List.setIfInBounds_toArray, List.set_cons_zero, List.set_cons_succ])
    refine wpAnyH_ready (rs := [3]) (by kernel_rfl) (by simp) (AllReadyH.cons (o := { dst := some 10, op := Op.call { callee := Callee.value (Operand.func 57), args := #[Operand.tmp 9], argTypes := #[45] }, type := 4, pos := "version.go:37", after := #[{ on := 2, ground := Ground.data }, { on := 1, ground := Ground.chain }], guard := none }) rfl (fun K hK => ?_) AllReadyH.nil)
    · go_simp
      refine (HB.out _).mono ?_
      rintro e wa ⟨rfl, hba⟩
      refine hK.out _ _ (hHeld.on hba) (fun hHeld => ?_)
      (try simp only [Act.put, List.setIfInBounds_toArray, List.set_cons_zero, List.set_cons_succ])
      refine wpAnyH_take (i := 4) (oi := { dst := some 5, op := Op.assign (Operand.tmp 8), type := 4, pos := "version.go:37", after := #[{ on := 1, ground := Ground.data }, { on := 3, ground := Ground.chain }, { on := 0, ground := Ground.phase }, { on := 1, ground := Ground.phase }, { on := 2, ground := Ground.textOnly Departure.lateStores }, { on := 3, ground := Ground.textOnly Departure.lateStoresUnsure }], guard := none }) (v := ?_) rfl (by kernel_rfl) (by kernel_rfl) (by kernel_rfl) (fun _ _ _ h => h) (Or.inl ⟨by rfl, ?_⟩) hHeld ?_
      rotate_left
      · (intro w hSw; go_simp; try with_reducible rfl)
      (try simp only [Act.put, List.setIfInBounds_toArray, List.set_cons_zero, List.set_cons_succ])
      refine wpAnyH_take (i := 5) (oi := { dst := some 6, op := Op.assign (Operand.tmp 10), type := 4, pos := "version.go:37", after := #[{ on := 3, ground := Ground.data }, { on := 4, ground := Ground.chain }, { on := 0, ground := Ground.phase }, { on := 1, ground := Ground.phase }, { on := 2, ground := Ground.phase }, { on := 3, ground := Ground.phase }, { on := 4, ground := Ground.phase }], guard := none }) (v := ?_) rfl (by kernel_rfl) (by kernel_rfl) (by kernel_rfl) (fun _ _ _ h => h) (Or.inl ⟨by rfl, ?_⟩) hHeld ?_
      rotate_left
      · (intro w hSw; go_simp; try with_reducible rfl)
      (try simp only [Act.put, List.setIfInBounds_toArray, List.set_cons_zero, List.set_cons_succ])
      refine wpAnyH_done (by kernel_rfl) ?_ _
      obtain ⟨⟨p0, p1, p2, p3, p4, p5, p6⟩, ⟨q0, q1, q2, q3, q4, q5, q6⟩, hlow⟩ := hHeld
      have HL := Lib.hid hlow
      clear hlow
      go_wp2_with fail
      refine (compare_any a b _).mono ?_
      rintro e wz ⟨rfl, hz⟩
      go_wp2_with fail
      go_ret
      exact ⟨rfl, bch HL.out hz⟩

set_option maxRecDepth 100000 in
set_option maxHeartbeats 2000000 in
theorem compare_tf (a b : Ver) (ha : Tells a true) (hb : Tells b false) (w : World) : Calls Tryz.prog 31 #[.agg a.arr, .agg b.arr] w fun e w' => e = .returned (.int .i64 (1)) ∧ Below w.heap.size w w' := by
  have X1 : Box ((w.alloc (.cells a.arr 45)).alloc (.cells b.arr 45)) w.heap.size 45 a.arr := box_new.alloc _
  have X2 : Box ((w.alloc (.cells a.arr 45)).alloc (.cells b.arr 45)) (w.heap.size + 1) 45 b.arr := heap_alloc2_new w _ _
  have k0 : Hid (Two a b w.heap.size (w.heap.size + 1) w ((w.alloc (.cells a.arr 45)).alloc (.cells b.arr 45))) := Lib.hid ⟨X1.ver, X2.ver, ((Below.refl w.heap.size w).alloc (Nat.le_refl _) (.cells a.arr 45)).alloc (by simp) (.cells b.arr 45)⟩
  have HA := Lib.hid ha
  have HB := Lib.hid hb
  clear X1 X2 ha hb
  go_enter Tryz.func31, Tryz.ntmps31
  go_wp2_with fail
  refine wp_region_held_drew (S := fun w' => Two a b w.heap.size (w.heap.size + 1) w w') (by kernel_rfl) k0.out.drew (fun hHeld => ?_)
  refine wpAnyH_take (i := 0) (oi := { dst := some 7, op := Op.load 45 (Operand.tmp 2), type := 45, pos := "version.go:37", after := #[], guard := none }) (v := ?_) rfl (by kernel_rfl) (by kernel_rfl) (by kernel_rfl) (fun _ _ _ h => h) (Or.inl ⟨by rfl, ?_⟩) hHeld ?_
  rotate_left
  · (intro w hSw; obtain ⟨p0, p1, p2, p3, p4, p5, p6⟩ := hSw.l; go_simp; try with_reducible rfl)
  (try simp only [Act.put, List.setIfInBounds_toArray, List.set_cons_zero, List.set_cons_succ])
  refine wpAnyH_take (i := 2) (oi := { dst := some 9, op := Op.load 45 (Operand.tmp 3), type := 45, pos := "version.go:37", after := #[], guard := none }) (v := ?_) rfl (by kernel_rfl) (by kernel_rfl) (by kernel_rfl) (fun _ _ _ h => h) (Or.inl ⟨by rfl, ?_⟩) hHeld ?_
  rotate_left
  · (intro w hSw; obtain ⟨p0, p1, p2, p3, p4, p5, p6⟩ := hSw.r; go_simp; try with_reducible rfl)
  (try simp only [Act.put, List.setIfInBounds_toArray, List.set_cons_zero, List.set_cons_succ])
  refine wpAnyH_ready (rs := [1]) (by kernel_rfl) (by simp) (AllReadyH.cons (o := { dst := some 8, op := Op.call { callee := Callee.value (Operand.func 57), args := #[Operand.tmp 7], argTypes := #[45] }, type := 4, pos := "version.go:37", after := #[{ on := 0, ground := Ground.data }], guard := none }) rfl (fun K hK => ?_) AllReadyH.nil)
  · go_simp
    refine (HA.out _).mono ?_
    rintro e wa ⟨rfl, hba⟩
    refine hK.out _ _ (hHeld.on hba) (fun hHeld => ?_)
    (try simp only [Act.put, List.setIfInBounds_toArray, List.set_cons_zero, List.set_cons_succ])
    refine wpAnyH_ready (rs := [3]) (by kernel_rfl) (by simp) (AllReadyH.cons (o := { dst := some 10, op := Op.call { callee := Callee.value (Operand.func 57), args := #[Operand.tmp 9], argTypes := #[45] }, type := 4, pos := "version.go:37", after := #[{ on := 2, ground := Ground.data }, { on := 1, ground := Ground.chain }], guard := none }) rfl (fun K hK => ?_) AllReadyH.nil)
    · go_simp
      refine (HB.out _).mono ?_
      rintro e wa ⟨rfl, hba⟩
      refine hK.out _ _ (hHeld.on hba) (fun hHeld => ?_)
      (try simp only [Act.put, List.setIfInBounds_toArray, List.set_cons_zero, List.set_cons_succ])
      refine wpAnyH_take (i := 4) (oi := { dst := some 5, op := Op.assign (Operand.tmp 8), type := 4, pos := "version.go:37", after := #[{ on := 1, ground := Ground.data }, { on := 3, ground := Ground.chain }, { on := 0, ground := Ground.phase }, { on := 1, ground := Ground.phase }, { on := 2, ground := Ground.textOnly Departure.lateStores }, { on := 3, ground := Ground.textOnly Departure.lateStoresUnsure }], guard := none }) (v := ?_) rfl (by kernel_rfl) (by kernel_rfl) (by kernel_rfl) (fun _ _ _ h => h) (Or.inl ⟨by rfl, ?_⟩) hHeld ?_
      rotate_left
      · (intro w hSw; go_simp; try with_reducible rfl)
      (try simp only [Act.put, List.setIfInBounds_toArray, List.set_cons_zero, List.set_cons_succ])
      refine wpAnyH_take (i := 5) (oi := { dst := some 6, op := Op.assign (Operand.tmp 10), type := 4, pos := "version.go:37", after := #[{ on := 3, ground := Ground.data }, { on := 4, ground := Ground.chain }, { on := 0, ground := Ground.phase }, { on := 1, ground := Ground.phase }, { on := 2, ground := Ground.phase }, { on := 3, ground := Ground.phase }, { on := 4, ground := Ground.phase }], guard := none }) (v := ?_) rfl (by kernel_rfl) (by kernel_rfl) (by kernel_rfl) (fun _ _ _ h => h) (Or.inl ⟨by rfl, ?_⟩) hHeld ?_
      rotate_left
      · (intro w hSw; go_simp; try with_reducible rfl)
      (try simp only [Act.put, List.setIfInBounds_toArray, List.set_cons_zero, List.set_cons_succ])
      refine wpAnyH_done (by kernel_rfl) ?_ _
      obtain ⟨⟨p0, p1, p2, p3, p4, p5, p6⟩, ⟨q0, q1, q2, q3, q4, q5, q6⟩, hlow⟩ := hHeld
      have HL := Lib.hid hlow
      clear hlow
      go_wp2_with fail
      go_ret
      exact ⟨rfl, HL.out⟩

set_option maxRecDepth 100000 in
set_option maxHeartbeats 2000000 in
theorem compare_ft (a b : Ver) (ha : Tells a false) (hb : Tells b true) (w : World) : Calls Tryz.prog 31 #[.agg a.arr, .agg b.arr] w fun e w' => e = .returned (.int .i64 (-1)) ∧ Below w.heap.size w w' := by
  have X1 : Box ((w.alloc (.cells a.arr 45)).alloc (.cells b.arr 45)) w.heap.size 45 a.arr := box_new.alloc _
  have X2 : Box ((w.alloc (.cells a.arr 45)).alloc (.cells b.arr 45)) (w.heap.size + 1) 45 b.arr := heap_alloc2_new w _ _
  have k0 : Hid (Two a b w.heap.size (w.heap.size + 1) w ((w.alloc (.cells a.arr 45)).alloc (.cells b.arr 45))) := Lib.hid ⟨X1.ver, X2.ver, ((Below.refl w.heap.size w).alloc (Nat.le_refl _) (.cells a.arr 45)).alloc (by simp) (.cells b.arr 45)⟩
  have HA := Lib.hid ha
  have HB := Lib.hid hb
  clear X1 X2 ha hb
  go_enter Tryz.func31, Tryz.ntmps31
  go_wp2_with fail
  refine wp_region_held_drew (S := fun w' => Two a b w.heap.size (w.heap.size + 1) w w') (by kernel_rfl) k0.out.drew (fun hHeld => ?_)
  refine wpAnyH_take (i := 0) (oi := { dst := some 7, op := Op.load 45 (Operand.tmp 2), type := 45, pos := "version.go:37", after := #[], guard := none }) (v := ?_) rfl (by kernel_rfl) (by kernel_rfl) (by kernel_rfl) (fun _ _ _ h => h) (Or.inl ⟨by rfl, ?_⟩) hHeld ?_
  rotate_left
  · (intro w hSw; obtain ⟨p0, p1, p2, p3, p4, p5, p6⟩ := hSw.l; go_simp; try with_reducible rfl)
  (try simp only [Act.put, List.setIfInBounds_toArray, List.set_cons_zero, List.set_cons_succ])
  refine wpAnyH_take (i := 2) (oi := { dst := some 9, op := Op.load 45 (Operand.tmp 3), type := 45, pos := "version.go:37", after := #[], guard := none }) (v := ?_) rfl (by kernel_rfl) (by kernel_rfl) (by kernel_rfl) (fun _ _ _ h => h) (Or.inl ⟨by rfl, ?_⟩) hHeld ?_
  rotate_left
  · (intro w hSw; obtain ⟨p0, p1, p2, p3, p4, p5, p6⟩ := hSw.r; go_simp; try with_reducible rfl)
  (try simp only [Act.put, List.setIfInBounds_toArray, List.set_cons_zero, List.set_cons_succ])
  refine wpAnyH_ready (rs := [1]) (by kernel_rfl) (by simp) (AllReadyH.cons (o := { dst := some 8, op := Op.call { callee := Callee.value (Operand.func 57), args := #[Operand.tmp 7], argTypes := #[45] }, type := 4, pos := "version.go:37", after := #[{ on := 0, ground := Ground.data }], guard := none }) rfl (fun K hK => ?_) AllReadyH.nil)
  · go_simp
    refine (HA.out _).mono ?_
    rintro e wa ⟨rfl, hba⟩
    refine hK.out _ _ (hHeld.on hba) (fun hHeld => ?_)
    (try simp only [Act.put, List.setIfInBounds_toArray, List.set_cons_zero, List.set_cons_succ])
    refine wpAnyH_ready (rs := [3]) (by kernel_rfl) (by simp) (AllReadyH.cons (o := { dst := some 10, op := Op.call { callee := Callee.value (Operand.func 57), args := #[Operand.tmp 9], argTypes := #[45] }, type := 4, pos := "version.go:37", after := #[{ on := 2, ground := Ground.data }, { on := 1, ground := Ground.chain }], guard := none }) rfl (fun K hK => ?_) AllReadyH.nil)
    · go_simp
      refine (HB.out _).mono ?_
      rintro e wa ⟨rfl, hba⟩
      refine hK.out _ _ (hHeld.on hba) (fun hHeld => ?_)
      (try simp only [Act.put, List.setIfInBounds_toArray, List.set_cons_zero, List.set_cons_succ])
      refine wpAnyH_take (i := 4) (oi := { dst := some 5, op := Op.assign (Operand.tmp 8), type := 4, pos := "version.go:37", after := #[{ on := 1, ground := Ground.data }, { on := 3, ground := Ground.chain }, { on := 0, ground := Ground.phase }, { on := 1, ground := Ground.phase }, { on := 2, ground := Ground.textOnly Departure.lateStores }, { on := 3, ground := Ground.textOnly Departure.lateStoresUnsure }], guard := none }) (v := ?_) rfl (by kernel_rfl) (by kernel_rfl) (by kernel_rfl) (fun _ _ _ h => h) (Or.inl ⟨by rfl, ?_⟩) hHeld ?_
      rotate_left
      · (intro w hSw; go_simp; try with_reducible rfl)
      (try simp only [Act.put, List.setIfInBounds_toArray, List.set_cons_zero, List.set_cons_succ])
      refine wpAnyH_take (i := 5) (oi := { dst := some 6, op := Op.assign (Operand.tmp 10), type := 4, pos := "version.go:37", after := #[{ on := 3, ground := Ground.data }, { on := 4, ground := Ground.chain }, { on := 0, ground := Ground.phase }, { on := 1, ground := Ground.phase }, { on := 2, ground := Ground.phase }, { on := 3, ground := Ground.phase }, { on := 4, ground := Ground.phase }], guard := none }) (v := ?_) rfl (by kernel_rfl) (by kernel_rfl) (by kernel_rfl) (fun _ _ _ h => h) (Or.inl ⟨by rfl, ?_⟩) hHeld ?_
      rotate_left
      · (intro w hSw; go_simp; try with_reducible rfl)
      (try simp only [Act.put, List.setIfInBounds_toArray, List.set_cons_zero, List.set_cons_succ])
      refine wpAnyH_done (by kernel_rfl) ?_ _
      obtain ⟨⟨p0, p1, p2, p3, p4, p5, p6⟩, ⟨q0, q1, q2, q3, q4, q5, q6⟩, hlow⟩ := hHeld
      have HL := Lib.hid hlow
      clear hlow
      go_wp2_with fail
      go_ret
      exact ⟨rfl, HL.out⟩

set_option maxRecDepth 100000 in
set_option maxHeartbeats 2000000 in
theorem compare_ff (a b : Ver) (ha : Tells a false) (hb : Tells b false) (w : World) : Calls Tryz.prog 31 #[.agg a.arr, .agg b.arr] w fun e w' => e = .returned (.int .i64 (0)) ∧ Below w.heap.size w w' := by
  have X1 : Box ((w.alloc (.cells a.arr 45)).alloc (.cells b.arr 45)) w.heap.size 45 a.arr := box_new.alloc _
  have X2 : Box ((w.alloc (.cells a.arr 45)).alloc (.cells b.arr 45)) (w.heap.size + 1) 45 b.arr := heap_alloc2_new w _ _
  have k0 : Hid (Two a b w.heap.size (w.heap.size + 1) w ((w.alloc (.cells a.arr 45)).alloc (.cells b.arr 45))) := Lib.hid ⟨X1.ver, X2.ver, ((Below.refl w.heap.size w).alloc (Nat.le_refl _) (.cells a.arr 45)).alloc (by simp) (.cells b.arr 45)⟩
  have HA := Lib.hid ha
  have HB := Lib.hid hb
  clear X1 X2 ha hb
  go_enter Tryz.func31, Tryz.ntmps31
  go_wp2_with fail
  refine wp_region_held_drew (S := fun w' => Two a b w.heap.size (w.heap.size + 1) w w') (by kernel_rfl) k0.out.drew (fun hHeld => ?_)
  refine wpAnyH_take (i := 0) (oi := { dst := some 7, op := Op.load 45 (Operand.tmp 2), type := 45, pos := "version.go:37", after := #[], guard := none }) (v := ?_) rfl (by kernel_rfl) (by kernel_rfl) (by kernel_rfl) (fun _ _ _ h => h) (Or.inl ⟨by rfl, ?_⟩) hHeld ?_
  rotate_left
  · (intro w hSw; obtain ⟨p0, p1, p2, p3, p4, p5, p6⟩ := hSw.l; go_simp; try with_reducible rfl)
  (try simp only [Act.put, List.setIfInBounds_toArray, List.set_cons_zero, List.set_cons_succ])
  refine wpAnyH_take (i := 2) (oi := { dst := some 9, op := Op.load 45 (Operand.tmp 3), type := 45, pos := "version.go:37", after := #[], guard := none }) (v := ?_) rfl (by kernel_rfl) (by kernel_rfl) (by kernel_rfl) (fun _ _ _ h => h) (Or.inl ⟨by rfl, ?_⟩) hHeld ?_
  rotate_left
  · (intro w hSw; obtain ⟨p0, p1, p2, p3, p4, p5, p6⟩ := hSw.r; go_simp; try with_reducible rfl)
  (try simp only [Act.put, List.setIfInBounds_toArray, List.set_cons_zero, List.set_cons_succ])
  refine wpAnyH_ready (rs := [1]) (by kernel_rfl) (by simp) (AllReadyH.cons (o := { dst := some 8, op := Op.call { callee := Callee.value (Operand.func 57), args := #[Operand.tmp 7], argTypes := #[45] }, type := 4, pos := "version.go:37", after := #[{ on := 0, ground := Ground.data }], guard := none }) rfl (fun K hK => ?_) AllReadyH.nil)
  · go_simp
    refine (HA.out _).mono ?_
    rintro e wa ⟨rfl, hba⟩
    refine hK.out _ _ (hHeld.on hba) (fun hHeld => ?_)
    (try simp only [Act.put, List.setIfInBounds_toArray, List.set_cons_zero, List.set_cons_succ])
    refine wpAnyH_ready (rs := [3]) (by kernel_rfl) (by simp) (AllReadyH.cons (o := { dst := some 10, op := Op.call { callee := Callee.value (Operand.func 57), args := #[Operand.tmp 9], argTypes := #[45] }, type := 4, pos := "version.go:37", after := #[{ on := 2, ground := Ground.data }, { on := 1, ground := Ground.chain }], guard := none }) rfl (fun K hK => ?_) AllReadyH.nil)
    · go_simp
      refine (HB.out _).mono ?_
      rintro e wa ⟨rfl, hba⟩
      refine hK.out _ _ (hHeld.on hba) (fun hHeld => ?_)
      (try simp only [Act.put, List.setIfInBounds_toArray, List.set_cons_zero, List.set_cons_succ])
      refine wpAnyH_take (i := 4) (oi := { dst := some 5, op := Op.assign (Operand.tmp 8), type := 4, pos := "version.go:37", after := #[{ on := 1, ground := Ground.data }, { on := 3, ground := Ground.chain }, { on := 0, ground := Ground.phase }, { on := 1, ground := Ground.phase }, { on := 2, ground := Ground.textOnly Departure.lateStores }, { on := 3, ground := Ground.textOnly Departure.lateStoresUnsure }], guard := none }) (v := ?_) rfl (by kernel_rfl) (by kernel_rfl) (by kernel_rfl) (fun _ _ _ h => h) (Or.inl ⟨by rfl, ?_⟩) hHeld ?_
      rotate_left
      · (intro w hSw; go_simp; try with_reducible rfl)
      (try simp only [Act.put, List.setIfInBounds_toArray, List.set_cons_zero, List.set_cons_succ])
      refine wpAnyH_take (i := 5) (oi := { dst := some 6, op := Op.assign (Operand.tmp 10), type := 4, pos := "version.go:37", after := #[{ on := 3, ground := Ground.data }, { on := 4, ground := Ground.chain }, { on := 0, ground := Ground.phase }, { on := 1, ground := Ground.phase }, { on := 2, ground := Ground.phase }, { on := 3, ground := Ground.phase }, { on := 4, ground := Ground.phase }], guard := none }) (v := ?_) rfl (by kernel_rfl) (by kernel_rfl) (by kernel_rfl) (fun _ _ _ h => h) (Or.inl ⟨by rfl, ?_⟩) hHeld ?_
      rotate_left
      · (intro w hSw; go_simp; try with_reducible rfl)
      (try simp only [Act.put, List.setIfInBounds_toArray, List.set_cons_zero, List.set_cons_succ])
      refine wpAnyH_done (by kernel_rfl) ?_ _
      obtain ⟨⟨p0, p1, p2, p3, p4, p5, p6⟩, ⟨q0, q1, q2, q3, q4, q5, q6⟩, hlow⟩ := hHeld
      have HL := Lib.hid hlow
      clear hlow
      go_wp2_with fail
      go_ret
      exact ⟨rfl, HL.out⟩

theorem comparew_any (a b : Ver) (w : World) : Calls Tryz.prog 31 #[.agg a.arr, .agg b.arr] w fun e w' => e = .returned (.int .i64 (cmpW a b)) ∧ Below w.heap.size w w' := by
  unfold cmpW
  cases ha : a.ok <;> cases hb : b.ok
  · exact compare_ff a b (tells_of ha.symm) (tells_of hb.symm) w
  · exact compare_ft a b (tells_of ha.symm) (tells_of hb.symm) w
  · exact compare_tf a b (tells_of ha.symm) (tells_of hb.symm) w
  · exact compare_tt a b (tells_of ha.symm) (tells_of hb.symm) w
end Go.Proofs.YtlfehjjnepiljaaGreatDoor

namespace Go.Proofs.YtlfehjjnepiljaaGreatDoor
open Go.RowKit Go.Shelf

def dgB (c : UInt8) : Bool := decide (48 ≤ c.toNat ∧ c.toNat ≤ 57)
def val (l : Str) : Nat := l.foldl (fun n c => 10 * n + (c.toNat - 48)) 0
/-- Is the digit at this place one that may stand there? -/
def stepB (l : Str) (most j : Nat) : Bool := dgB (l.getD j 0) && (decide (j = 0) || decide (val (l.take j) ≠ 0)) && decide (val (l.take (j + 1)) ≤ most)
def numOk (l : Str) (most : Nat) : Bool := (List.range l.length).all (stepB l most)
def numR (l : Str) (most : Nat) : Nat × Bool := if numOk l most = true then (val l, decide (l ≠ [])) else (0, false)

theorem val_snoc (l : Str) (c : UInt8) : val (l ++ [c]) = 10 * val l + (c.toNat - 48) := by
  unfold val
  rw [List.foldl_append]
  rfl
theorem take_snoc {l : Str} {j : Nat} {c : UInt8} (h : l[j]? = some c) : l.take (j + 1) = l.take j ++ [c] := by rw [List.take_add_one, h]; rfl
theorem numR_no {l : Str} {most j : Nat} (hj : j < l.length) (h : stepB l most j = false) : numR l most = (0, false) := by
  have hn : numOk l most = false := by
    rw [Bool.eq_false_iff]
    intro ha
    have := List.all_eq_true.1 ha j (List.mem_range.2 hj)
    rw [h] at this
    cases this
  unfold numR
  rw [hn]
  rfl
theorem numR_yes {l : Str} {most : Nat} (h : ∀ j, j < l.length → stepB l most j = true) : numR l most = (val l, decide (l ≠ [])) := by
  have hn : numOk l most = true := List.all_eq_true.2 fun j hj => h j (List.mem_range.1 hj)
  unfold numR
  rw [if_pos hn]
theorem getD_of {l : Str} {j : Nat} {c : UInt8} (h : l[j]? = some c) : l.getD j 0 = c := by rw [List.getD_eq_getElem?_getD, h]; rfl
theorem ret_num {a : Nat} {b : Bool} {r : Nat × Bool} (h : r = (a, b)) : Ending.returned (.tuple #[.int .i64 (a : Int), .bool b]) = .returned (.tuple #[.int .i64 (r.1 : Int), .bool r.2]) := by rw [h]

set_option maxRecDepth 100000 in
set_option maxHeartbeats 4000000 in
theorem number_any (s : ByteArray) (most : Nat) (hmost : most ≤ 9999) (w : World) : Calls Tryz.prog 158 #[.string s, .int .i64 (most : Int)] w fun e w' => e = .returned (.tuple #[.int .i64 ((numR s.data.toList most).1 : Int), .bool (numR s.data.toList most).2]) ∧ Below w.heap.size w w' := by
  go_enter Tryz.func158, Tryz.ntmps158
  go_wp2_with fail
  go_loopw [6, 7, 8, 9, 12, 13, 14, 15, 16, 17, 18, 19, 20, 21, 22, 23, 24, 25, 26, 27, 28, 29, 30, 31, 32, 33, 34, 35, 36, 37, 38, 39] (fun n _ _ _ _ _ _ _ _ _ _ _ _ _ _ _ _ _ _ _ _ _ _ _ _ _ _ _ _ _ _ _ w' => ∃ pos v : Nat, w' = w.iter s pos ∧ pos ≤ s.size ∧ n = .int .i64 (v : Int) ∧ v ≤ most ∧ Hid (v = val (s.data.toList.take pos)) ∧ Hid (∀ j, j < pos → stepB s.data.toList most j = true)) (fun _ _ _ _ _ _ _ _ _ _ _ _ _ _ _ _ _ _ _ _ _ _ _ _ _ _ _ _ _ _ _ _ w' => s.size - w'.iterPos w.heap.size)
  case atStart => exact ⟨0, 0, rfl, Nat.zero_le _, rfl, Nat.zero_le _, Lib.hid rfl, Lib.hid (fun j hj => absurd hj (Nat.not_lt_zero _))⟩
  case round =>
    obtain ⟨pos, v, rfl, hp, rfl, hv, HV, HS⟩ := hrel
    have hsl : s.data.toList.length = s.size := rfl
    by_cases hlt : pos < s.size
    · have hget : s.data.toList[pos]? = some (s[pos]'hlt) := List.getElem?_eq_getElem (by omega)
      have HG := Lib.hid hget
      have HSL := Lib.hid hsl
      clear hget hsl
      by_cases ha : (s[pos]'hlt).toNat < 128
      · have hnx : ∀ ty, (Instr.next (.pointer (some ⟨w.heap.size, 0, none⟩)) true ty).run Tryz.prog (w.iter s pos) = _ := fun ty => run_next_ascii w s pos ty hlt ha
        obtain ⟨c, hc⟩ : ∃ c, c = s[pos]'hlt := ⟨_, rfl⟩
        rw [← hc] at hnx ha HG
        clear hc
        by_cases hz : 0 < pos ∧ v = 0
        · obtain ⟨z1, z2⟩ := hz
          have HE := Lib.hid (numR_no (l := s.data.toList) (most := most) (j := pos) (by have := HSL.out; omega) (by
            unfold stepB
            rw [← HV.out, z2]
            simp
            omega))
          subst z2
          have d1 : decide ((pos : Int) > 0) = true := decide_eq_true (by omega)
          go_wp2_with fail
          all_goals first | (go_ret2; exact ⟨ret_num HE.out, (Below.refl _ _).alloc (Nat.le_refl _) _⟩) | (exfalso; omega)
        · by_cases hd : 48 ≤ c.toNat ∧ c.toNat ≤ 57
          · obtain ⟨e1, e2⟩ := hd
            obtain ⟨x, hx⟩ : ∃ x, x = 10 * v + (c.toNat - 48) := ⟨_, rfl⟩
            have hX : Hid (val (s.data.toList.take (pos + 1)) = x) := Lib.hid (by rw [take_snoc HG.out, val_snoc, ← HV.out, hx])
            have x1 : 10 * (v : Int) + ((c.toNat : Int) - 48) = (x : Int) := by omega
            have HST : Hid (x ≤ most → stepB s.data.toList most pos = true) := Lib.hid (fun hm => by
              unfold stepB
              rw [getD_of HG.out, hX.out, ← HV.out]
              simp [dgB]
              omega)
            have HNO : Hid (¬ x ≤ most → stepB s.data.toList most pos = false) := Lib.hid (fun hm => by
              unfold stepB
              rw [hX.out, decide_eq_false hm, Bool.and_false])
            have c1 : decide ((c.toNat : Int) < 48) = false := decide_eq_false (by omega)
            have c2 : decide ((57 : Int) < (c.toNat : Int)) = false := decide_eq_false (by omega)
            by_cases h0 : pos = 0
            · subst h0
              have hv0 : v = 0 := HV.out
              subst hv0
              by_cases hm : x ≤ most
              · have hst := HST.out hm
                have HNX : Hid (∀ j, j < 0 + 1 → stepB s.data.toList most j = true) := Lib.hid (fun j hj => by
                  rcases Nat.lt_or_ge j 0 with h | h
                  · exact HS.out j h
                  · obtain rfl : j = 0 := by omega
                    exact hst)
                have m1 : decide (((c.toNat - 48 : Nat) : Int) > (most : Int)) = false := decide_eq_false (by omega)
                clear hst hz
                go_wp2_with fail
                all_goals first
                  | (exfalso; omega)
                  | (refine ⟨⟨0 + 1, x, rfl, hlt, congrArg _ (by omega), hm, Lib.hid hX.out.symm, HNX⟩, ?_⟩; simp; done)
                  | (refine ⟨⟨0 + 1, x, rfl, hlt, congrArg _ (by omega), hm, Lib.hid hX.out.symm, HNX⟩, ?_⟩; simp; omega)
              · have HE := Lib.hid (numR_no (l := s.data.toList) (most := most) (j := 0) (by have := HSL.out; omega) (HNO.out hm))
                have m1 : decide (((c.toNat - 48 : Nat) : Int) > (most : Int)) = true := decide_eq_true (by omega)
                clear hz
                go_wp2_with fail
                all_goals first | (go_ret2; exact ⟨ret_num HE.out, (Below.refl _ _).alloc (Nat.le_refl _) _⟩) | (exfalso; omega)
            · have d1 : decide ((pos : Int) > 0) = true := decide_eq_true (by omega)
              have hv0 : v ≠ 0 := fun h => hz ⟨Nat.pos_of_ne_zero h0, h⟩
              have z1 : ((v : Int) == 0) = false := beq_eq_false_iff_ne.2 (by omega)
              clear h0 hv0
              by_cases hm : x ≤ most
              · have hst := HST.out hm
                have HNX : Hid (∀ j, j < pos + 1 → stepB s.data.toList most j = true) := Lib.hid (fun j hj => by
                  rcases Nat.lt_or_ge j pos with h | h
                  · exact HS.out j h
                  · obtain rfl : j = pos := by omega
                    exact hst)
                have m1 : decide (10 * (v : Int) + ((c.toNat - 48 : Nat) : Int) > (most : Int)) = false := decide_eq_false (by omega)
                clear hst hz
                go_wp2_with fail
                all_goals first
                  | (exfalso; omega)
                  | (refine ⟨⟨pos + 1, x, rfl, hlt, congrArg _ (by omega), hm, Lib.hid hX.out.symm, HNX⟩, ?_⟩; simp; done)
                  | (refine ⟨⟨pos + 1, x, rfl, hlt, congrArg _ (by omega), hm, Lib.hid hX.out.symm, HNX⟩, ?_⟩; simp; omega)
              · have HE := Lib.hid (numR_no (l := s.data.toList) (most := most) (j := pos) (by have := HSL.out; omega) (HNO.out hm))
                have m1 : decide (10 * (v : Int) + ((c.toNat - 48 : Nat) : Int) > (most : Int)) = true := decide_eq_true (by omega)
                clear hz
                go_wp2_with fail
                all_goals first | (go_ret2; exact ⟨ret_num HE.out, (Below.refl _ _).alloc (Nat.le_refl _) _⟩) | (exfalso; omega)
          · have HE := Lib.hid (numR_no (l := s.data.toList) (most := most) (j := pos) (by have := HSL.out; omega) (by
              unfold stepB
              rw [getD_of HG.out, show dgB c = false from decide_eq_false hd]
              rfl))
            by_cases h0 : pos = 0
            · have d1 : decide ((pos : Int) > 0) = false := decide_eq_false (by omega)
              by_cases c1 : (c.toNat : Int) < 48
              · have c1' : decide ((c.toNat : Int) < 48) = true := decide_eq_true c1
                clear hz hd h0
                go_wp2_with fail
                all_goals first | (go_ret2; exact ⟨ret_num HE.out, (Below.refl _ _).alloc (Nat.le_refl _) _⟩) | (exfalso; omega)
              · have c1' : decide ((c.toNat : Int) < 48) = false := decide_eq_false c1
                have c2 : decide ((57 : Int) < (c.toNat : Int)) = true := decide_eq_true (by omega)
                clear hz hd h0
                go_wp2_with fail
                all_goals first | (go_ret2; exact ⟨ret_num HE.out, (Below.refl _ _).alloc (Nat.le_refl _) _⟩) | (exfalso; omega)
            · have d1 : decide ((pos : Int) > 0) = true := decide_eq_true (by omega)
              have z1 : ((v : Int) == 0) = false := beq_eq_false_iff_ne.2 (by omega)
              by_cases c1 : (c.toNat : Int) < 48
              · have c1' : decide ((c.toNat : Int) < 48) = true := decide_eq_true c1
                clear hz hd h0
                go_wp2_with fail
                all_goals first | (go_ret2; exact ⟨ret_num HE.out, (Below.refl _ _).alloc (Nat.le_refl _) _⟩) | (exfalso; omega)
              · have c1' : decide ((c.toNat : Int) < 48) = false := decide_eq_false c1
                have c2 : decide ((57 : Int) < (c.toNat : Int)) = true := decide_eq_true (by omega)
                clear hz hd h0
                go_wp2_with fail
                all_goals first | (go_ret2; exact ⟨ret_num HE.out, (Below.refl _ _).alloc (Nat.le_refl _) _⟩) | (exfalso; omega)
      · have hnx : ∀ ty, (Instr.next (.pointer (some ⟨w.heap.size, 0, none⟩)) true ty).run Tryz.prog (w.iter s pos) = _ := fun ty => run_next_any w s pos ty hlt
        have hd := decode_high s pos hlt (by omega)
        have HE := Lib.hid (numR_no (l := s.data.toList) (most := most) (j := pos) (by have := HSL.out; omega) (by
          unfold stepB
          rw [getD_of HG.out, show dgB _ = false from decide_eq_false (by omega)]
          rfl))
        have c1 : decide (((Utf8.decode s pos).1 : Int) < 48) = false := decide_eq_false (by omega)
        have c2 : decide ((57 : Int) < ((Utf8.decode s pos).1 : Int)) = true := decide_eq_true (by omega)
        clear hd
        by_cases h0 : pos = 0
        · have d1 : decide ((pos : Int) > 0) = false := decide_eq_false (by omega)
          clear h0
          go_wp2_with fail
          all_goals first | (go_ret2; exact ⟨ret_num HE.out, (Below.refl _ _).alloc (Nat.le_refl _) _⟩) | (exfalso; omega)
        · have d1 : decide ((pos : Int) > 0) = true := decide_eq_true (by omega)
          clear h0
          by_cases h1 : v = 0
          · have z1 : ((v : Int) == 0) = true := by simp [h1]
            clear h1
            go_wp2_with fail
            all_goals first | (go_ret2; exact ⟨ret_num HE.out, (Below.refl _ _).alloc (Nat.le_refl _) _⟩) | (exfalso; omega)
          · have z1 : ((v : Int) == 0) = false := beq_eq_false_iff_ne.2 (by omega)
            clear h1
            go_wp2_with fail
            all_goals first | (go_ret2; exact ⟨ret_num HE.out, (Below.refl _ _).alloc (Nat.le_refl _) _⟩) | (exfalso; omega)
    · have hnx : ∀ ty, (Instr.next (.pointer (some ⟨w.heap.size, 0, none⟩)) true ty).run Tryz.prog (w.iter s pos) = _ := fun ty => run_next_end w s pos ty hlt
      have hps : pos = s.size := by omega
      have HE := Lib.hid (numR_yes (l := s.data.toList) (most := most) (fun j hj => HS.out j (by omega)))
      have HVV : Hid (v = val s.data.toList) := Lib.hid (by rw [HV.out, List.take_of_length_le (by omega)])
      by_cases he : s.toList = []
      · have f1 := isEmpty_yes he
        have HE2 : Hid (numR s.data.toList most = (v, false)) := Lib.hid (by rw [HE.out, ← HVV.out]; rw [Lib.toList_data] at he; simp [he])
        clear hsl he hps
        go_wp2_with fail
        go_ret2
        exact ⟨ret_num HE2.out, (Below.refl _ _).alloc (Nat.le_refl _) _⟩
      · have f1 := isEmpty_no he
        have HE2 : Hid (numR s.data.toList most = (v, true)) := Lib.hid (by rw [HE.out, ← HVV.out]; rw [Lib.toList_data] at he; simp [he])
        clear hsl he hps
        go_wp2_with fail
        go_ret2
        exact ⟨ret_num HE2.out, (Below.refl _ _).alloc (Nat.le_refl _) _⟩
end Go.Proofs.YtlfehjjnepiljaaGreatDoor

namespace Go.Proofs.YtlfehjjnepiljaaGreatDoor
open Go.RowKit Go.Shelf

def cutAt (c : UInt8) (l : Str) : Str × Str × Bool := if c ∈ l then (l.takeWhile (· != c), (l.dropWhile (· != c)).drop 1, true) else (l, [], false)
theorem index_none (c : UInt8) (l : Str) (h : c ∉ l) : Lib.indexByte l c = -1 := by
  induction l with
  | nil => rfl
  | cons x s ih =>
    simp only [List.mem_cons, not_or] at h
    unfold Lib.indexByte
    have : (x == c) = false := by simp; exact fun e => h.1 e.symm
    rw [this, ih h.2]
    rfl
theorem index_some (c : UInt8) (l : Str) (h : c ∈ l) : Lib.indexByte l c = ((l.takeWhile (· != c)).length : Int) := by
  induction l with
  | nil => simp at h
  | cons x s ih =>
    by_cases hc : x = c
    · simp [hc, Lib.indexByte]
    · have h' : c ∈ s := by
        rcases List.mem_cons.1 h with h | h
        · exact absurd h.symm hc
        · exact h
      unfold Lib.indexByte
      have e : (x == c) = false := by simp; exact hc
      rw [e, ih h', List.takeWhile_cons]
      have e2 : (((s.takeWhile (· != c)).length : Int) == -1) = false := by rw [beq_eq_false_iff_ne]; omega
      simp [hc, e2]
theorem take_len (c : UInt8) (l : Str) : l.take (l.takeWhile (· != c)).length = l.takeWhile (· != c) ∧ l.drop (l.takeWhile (· != c)).length = l.dropWhile (· != c) := by
  induction l with
  | nil => simp
  | cons x s ih =>
    by_cases hc : x = c
    · simp [hc]
    · rw [List.takeWhile_cons, List.dropWhile_cons]
      simp [hc, ih.1, ih.2]
theorem take_lt (c : UInt8) (l : Str) (h : c ∈ l) : (l.takeWhile (· != c)).length < l.length := by
  induction l with
  | nil => simp at h
  | cons x s ih =>
    by_cases hc : x = c
    · simp [hc]
    · have h' : c ∈ s := by
        rcases List.mem_cons.1 h with h | h
        · exact absurd h.symm hc
        · exact h
      rw [List.takeWhile_cons]
      simp [hc, ih h']
theorem tup3 {a a' b b' : ByteArray} {c : Bool} (h1 : a = a') (h2 : b = b') : Ending.returned (.tuple #[.string a, .string b, .bool c]) = .returned (.tuple #[.string a', .string b', .bool c]) := by rw [h1, h2]
theorem ba_eq (s : ByteArray) (l : Str) (h : s.data.toList = l) : s = ⟨l.toArray⟩ := by
  subst h
  rfl

def CutR (s : ByteArray) (w : World) (e : Ending) (w' : World) : Prop := e = .returned (.tuple #[.string ⟨(cutAt 45 s.data.toList).1.toArray⟩, .string ⟨(cutAt 45 s.data.toList).2.1.toArray⟩, .bool (cutAt 45 s.data.toList).2.2]) ∧ Below w.heap.size w w'

set_option maxRecDepth 100000 in
set_option maxHeartbeats 1000000 in
theorem scut_any (s : ByteArray) (hs : s.size ≤ 140737488355328) (w : World) : Calls Tryz.prog 157 #[.string s, .string ⟨#[45]⟩] w (CutR s w) := by
  have hl : s.data.toList.length = s.size := rfl
  unfold CutR
  by_cases h : 45 ∈ s.data.toList
  · have hi := index_some 45 _ h
    have hlt := take_lt 45 _ h
    obtain ⟨e1, e2⟩ := take_len 45 s.data.toList
    have HE : Hid (cutAt 45 s.data.toList = (s.data.toList.takeWhile (· != 45), (s.data.toList.dropWhile (· != 45)).drop 1, true)) := Lib.hid (if_pos h)
    rw [HE.out]
    dsimp only
    obtain ⟨k, hk⟩ : ∃ k, k = (s.data.toList.takeWhile (· != 45)).length := ⟨_, rfl⟩
    rw [← hk] at e1 e2 hi hlt
    rw [← e1, ← e2]
    have c1 : (0 : Int) ≤ ↑k := by omega
    have c2 : (↑k : Int) ≤ ↑s.size := by omega
    have c3 : (0 : Int) ≤ ↑k + 1 := by omega
    have c4 : (↑k + 1 : Int) ≤ ↑s.size := by omega
    have HI := Lib.hid hi
    have c5 : IntKind.i64.wrap (↑k + 1) = (↑k + 1 : Int) := IntWalk.i64_in _ (by omega)
    have c6 : ((k : Int) + 1).toNat = k + 1 := by omega
    clear h hi hlt e1 e2 hk hl HE
    go_enter Tryz.func157, Tryz.ntmps157
    go_wp2_with (go_at_call 124; refine (Tryz.stringslite_Index_one _ _ _).mono ?_; rintro e w' ⟨rfl, rfl⟩; rw [HI.out])
    go_quiet (fail)
    go_wp2
    go_ret3
    refine ⟨tup3 (ba_eq _ _ ?_) (ba_eq _ _ ?_), below_drewN (Below.refl _ _) _⟩
    · exact ext_to s k
    · rw [Lib.extract_to_end, List.drop_drop]
  · have hi := index_none 45 _ h
    have HI := Lib.hid hi
    have HE : Hid (cutAt 45 s.data.toList = (s.data.toList, [], false)) := Lib.hid (if_neg h)
    rw [HE.out]
    clear h hi hl HE
    go_enter Tryz.func157, Tryz.ntmps157
    go_wp2_with (go_at_call 124; refine (Tryz.stringslite_Index_one _ _ _).mono ?_; rintro e w' ⟨rfl, rfl⟩; rw [HI.out])
    go_ret3
    exact ⟨rfl, Below.refl _ _⟩

set_option maxRecDepth 100000 in
set_option maxHeartbeats 1000000 in
theorem cut_any (s : ByteArray) (hs : s.size ≤ 140737488355328) (w : World) : Calls Tryz.prog 150 #[.string s, .string ⟨#[45]⟩] w (CutR s w) := by
  have HC := Lib.hid (scut_any s hs w)
  clear hs
  go_enter Tryz.func150, Tryz.ntmps150
  go_wp2_with fail
  refine HC.out.mono ?_
  rintro e w1 ⟨rfl, hb⟩
  go_wp2_with fail
  go_ret3
  exact ⟨rfl, hb⟩
end Go.Proofs.YtlfehjjnepiljaaGreatDoor
