/- Proved here: letter, and Name of package path: what each hands back for every text. | The contracts of the library's functions that the program calls, laid at this program's numbers: each is one application of the guide's own theorem. | strings.Cut, and what it calls, at a slash: what each hands back for every t -/
import Derived.Test.YtigopecainocgaaGreatDoorRows
import Derived.Test.YtigopecainocgaaGreatDoorNP
import Derived.WalkKit
import Derived.Lib.Strings
import Derived.Lib.Hide
import Derived.WalkSpells
import Derived.WalkLawsBesides
import Derived.Shelf.Strings.OnBuilder
import Derived.Shelf.Small.Strs
import Derived.Shelf.Small.Wraps
import Derived.Shelf.Strings.Search1
import Derived.Shelf.Strings.Count
import Derived.Shelf.Strings.LastIndex
import Derived.Shelf.Strings.Prefix
import Derived.Shelf.Slices.Equal
import Derived.Shelf.Slices.Clone
import Derived.Shelf.Slices.Empties2
import Derived.Test.YtigopecainocgaaGreatDoorProg
import Derived.Deep.QuietTactic
import Derived.BigQuiet
import Derived.IntWalk
import Derived.ShutString
import Derived.Lib.IndexBytes
import Derived.RangeFuncNested
import Derived.RangeFuncBound
import Derived.RangeFuncCalls
import Derived.RangeFuncLeaves
import Derived.Shelf.Abstract
import Derived.Shelf.RegionOpen
import Derived.OwnWalkIn
import Derived.TacticsInMore
import Derived.LoopNIn
import Derived.LoopIn
import Derived.RangeFuncBox
import Derived.Maps.AppendAt
import Derived.BigGuardPartIn
import Derived.Deep.AppendLies
import Derived.Deep.DeepCutAuto
import Derived.Lib.SliceRun
import Derived.Laws.CopyRow
import Derived.Laws.Rows
import Derived.StillTailTactics
set_option maxRecDepth 100000
set_option maxHeartbeats 32000000
namespace Go.Proofs.YtigopecainocgaaGreatDoor
open Go.RowKit
theorem ret_bool {a b : Bool} (h : a = b) : Ending.returned (.bool a) = .returned (.bool b):=by rw [h]
theorem letter_any (r : Int) (w : World) : Calls Tryz.prog 127 #[.int .i32 r] w fun e w' => e = .returned (.bool (letB r)) ∧ w = w':=by
 by_cases h : letB r = true
 ·have h' : 97 ≤ r ∧ r ≤ 122 ∨ 48 ≤ r ∧ r ≤ 57 ∨ r = 46 ∨ r = 95 ∨ r = 43 ∨ r = 45:=by simpa [letB] using h
  rw [h]
  clear h
  go_enter Tryz.func127,Tryz.ntmps127
  go_wp2
  all_goals (go_ret; exact ⟨rfl,rfl⟩)
 ·have h' : ¬ (97 ≤ r ∧ r ≤ 122 ∨ 48 ≤ r ∧ r ≤ 57 ∨ r = 46 ∨ r = 95 ∨ r = 43 ∨ r = 45):=by simpa [letB] using h
  rw [Bool.eq_false_iff.2 h]
  clear h
  go_enter Tryz.func127,Tryz.ntmps127
  go_wp2
  all_goals (go_ret; exact ⟨rfl,rfl⟩)
theorem isEmpty_no {l : List UInt8} (h : l ≠ []) : l.isEmpty = false:=by cases l <;> simp_all
theorem beq_no {l m : List UInt8} (h : l ≠ m) : (l == m) = false:=by simp [h]
theorem name_any (s : ByteArray) (w : World) : Calls Tryz.prog 111 #[.string s] w fun e w' => e = .returned (.bool (nameB s.data.toList)) ∧ Below w.heap.size w w':=by
 have hl : s.data.toList.length = s.size:=rfl
 by_cases h1 : s.toList = [] ∨ s.toList = [46] ∨ s.toList = [46,46] ∨ (32 : Int) < (s.size : Int)
 ·rw [nameB_no _ (by
   rw [Lib.toList_data] at h1
   rcases h1 with h | h | h | h
   ·exact .inl h
   ·exact .inr (.inl h)
   ·exact .inr (.inr (.inl h))
   ·exact .inr (.inr (.inr (by omega))))]
  go_enter Tryz.func111,Tryz.ntmps111
  go_wp2
  all_goals first | (go_ret; exact ⟨rfl,Below.refl _ _⟩) | (exfalso; simp_all; done) | (exfalso; simp_all; omega)
 ·have e1 : s.toList ≠ []:=fun h => h1 (.inl h)
  have e2 : s.toList ≠ [46]:=fun h => h1 (.inr (.inl h))
  have e3 : s.toList ≠ [46,46]:=fun h => h1 (.inr (.inr (.inl h)))
  have e4 : (s.size : Int) ≤ 32:=by omega
  have HN:=nameB_mid s.data.toList (by rw [← Lib.toList_data]; exact e1) (by rw [← Lib.toList_data]; exact e2) (by rw [← Lib.toList_data]; exact e3) (by omega)
  have f1:=isEmpty_no e1
  have f2:=beq_no e2
  have f3:=beq_no e3
  clear h1 hl e1 e2 e3
  rw [HN]
  clear HN
  go_enter Tryz.func111,Tryz.ntmps111
  go_wp2
  go_loopw [4,22,23,24,25,26,27] (fun _ _ _ _ _ _ _ w' => ∃ pos : Nat,w' = w.iter s pos ∧ pos ≤ s.size ∧ ∀ j (hj : j < s.size),j < pos → okB s[j] = true) (fun _ _ _ _ _ _ _ w' => s.size - w'.iterPos w.heap.size)
  case atStart => exact ⟨0,rfl,Nat.zero_le _,fun j _ hj => absurd hj (Nat.not_lt_zero _)⟩
  case round =>
   obtain ⟨pos,rfl,hp,hok⟩:=hrel
   have HOK:=hyq hok
   clear hok
   by_cases hlt : pos < s.size
   ·by_cases ha : (s[pos]'hlt).toNat < 128
    ·have hnx : ∀ ty,(Instr.next (.pointer (some ⟨w.heap.size,0,none⟩)) true ty).run Tryz.prog (w.iter s pos) = _:=fun ty => run_next_ascii w s pos ty hlt ha
     by_cases hb : letB ((s[pos]'hlt).toNat : Int) = true
     ·go_wp2_with (go_at_call 127; refine (letter_any _ _).mono ?_; rintro e w' ⟨rfl,rfl⟩)
      go_roundw
      case rel => exact ⟨pos + 1,rfl,hlt,fun j hj hjp => by
       rcases Nat.lt_or_ge j pos with h | h
       ·exact HOK.out j hj h
       ·obtain rfl : j = pos:=by omega
        exact hb⟩
      case measure => simp; omega
     ·have hb' : letB ((s[pos]'hlt).toNat : Int) = false:=Bool.eq_false_iff.2 hb
      have HA:=hyq (all_no s okB pos hlt hb')
      clear hb
      go_wp2_with (go_at_call 127; refine (letter_any _ _).mono ?_; rintro e w' ⟨rfl,rfl⟩)
      go_ret
      exact ⟨ret_bool HA.out.symm,(Below.refl _ _).alloc (Nat.le_refl _) _⟩
    ·have hnx : ∀ ty,(Instr.next (.pointer (some ⟨w.heap.size,0,none⟩)) true ty).run Tryz.prog (w.iter s pos) = _:=fun ty => run_next_any w s pos ty hlt
     have hd:=decode_high s pos hlt (by omega)
     have hb' : letB ((Utf8.decode s pos).1 : Int) = false:=letB_high _ (by omega)
     have HA:=hyq (all_no s okB pos hlt (letB_high _ (by omega)))
     clear hd
     go_wp2_with (go_at_call 127; refine (letter_any _ _).mono ?_; rintro e w' ⟨rfl,rfl⟩)
     go_ret
     exact ⟨ret_bool HA.out.symm,(Below.refl _ _).alloc (Nat.le_refl _) _⟩
   ·have hnx : ∀ ty,(Instr.next (.pointer (some ⟨w.heap.size,0,none⟩)) true ty).run Tryz.prog (w.iter s pos) = _:=fun ty => run_next_end w s pos ty hlt
    go_wp2
    go_ret
    exact ⟨ret_bool (all_yes s okB fun j hj => HOK.out j hj (by omega)).symm,(Below.refl _ _).alloc (Nat.le_refl _) _⟩
end Go.Proofs.YtigopecainocgaaGreatDoor
namespace Go.Proofs
open Go.Shelf
def Tryz.lays156_ren : Go.Shelf.Ren:=⟨fun | 156 => 133 | 165 => 141 | 166 => 142 | 169 => 143 | 240 => 145 | 241 => 146 | 276 => 151 | 277 => 152 | n => n,fun | 31 => 69 | 9 => 9 | 3 => 3 | 4 => 4 | 0 => 0 | 20 => 20 | 72 => 157 | 76 => 161 | 70 => 154 | 37 => 155 | 75 => 160 | 127 => 164 | 164 => 166 | 5 => 5 | 80 => 163 | n => n,fun | n => n⟩
theorem Tryz.lays156 : Go.Proofs.Lays.n156 Tryz.prog Tryz.lays156_ren:={
 mixed:=by kernel_rfl
 f156:=Tryz.func133.trans (congrArg some (by kernel_rfl))
 f165:=Tryz.func141.trans (congrArg some (by kernel_rfl))
 f166:=Tryz.func142.trans (congrArg some (by kernel_rfl))
 f169:=Tryz.func143.trans (congrArg some (by kernel_rfl))
 f240:=Tryz.func145.trans (congrArg some (by kernel_rfl))
 f241:=Tryz.func146.trans (congrArg some (by kernel_rfl))
 f276:=Tryz.func151.trans (congrArg some (by kernel_rfl))
 f277:=Tryz.func152.trans (congrArg some (by kernel_rfl))
 t0:=Tryz.underlying0
 a0:=Tryz.isAgg0
 z0:=Tryz.sizeOf0
 v0:=Tryz.zeroValue0
 t3:=Tryz.underlying3
 a3:=Tryz.isAgg3
 z3:=Tryz.sizeOf3
 v3:=Tryz.zeroValue3
 t4:=Tryz.underlying4
 a4:=Tryz.isAgg4
 z4:=Tryz.sizeOf4
 v4:=Tryz.zeroValue4
 t9:=Tryz.underlying9
 a9:=Tryz.isAgg9
 z9:=Tryz.sizeOf9
 v9:=Tryz.zeroValue9
 t20:=Tryz.underlying20
 a20:=Tryz.isAgg20
 z20:=Tryz.sizeOf20
 v20:=Tryz.zeroValue20
 t31:=Tryz.underlying69
 a31:=Tryz.isAgg69
 z31:=Tryz.sizeOf69
 v31:=Tryz.zeroValue69
 t37:=Tryz.underlying155
 a37:=Tryz.isAgg155
 z37:=Tryz.sizeOf155
 v37:=Tryz.zeroValue155
 t70:=Tryz.underlying154
 a70:=Tryz.isAgg154
 z70:=Tryz.sizeOf154
 v70:=Tryz.zeroValue154
 t72:=Tryz.underlying157
 a72:=Tryz.isAgg157
 z72:=Tryz.sizeOf157
 v72:=Tryz.zeroValue157
 t75:=Tryz.underlying160
 a75:=Tryz.isAgg160
 z75:=Tryz.sizeOf160
 v75:=Tryz.zeroValue160
 t76:=Tryz.underlying161
 a76:=Tryz.isAgg161
 z76:=Tryz.sizeOf161
 v76:=Tryz.zeroValue161
 t127:=Tryz.underlying164
 a127:=Tryz.isAgg164
 z127:=Tryz.sizeOf164
 v127:=Tryz.zeroValue164
 t164:=Tryz.underlying166
 a164:=Tryz.isAgg166
 z164:=Tryz.sizeOf166
 v164:=Tryz.zeroValue166 }
theorem Tryz.Builder_Extra_156 : Builder.Extra Tryz.prog Tryz.lays156_ren:={
 sizeBuilder:=by kernel_rfl
 liesBuilder:=by kernel_rfl
 t5:=Tryz.underlying5
 a5:=Tryz.isAgg5
 z5:=Tryz.sizeOf5
 v5:=Tryz.zeroValue5
 infoByte:=by kernel_rfl
 cellsByte:=by kernel_rfl
 sizeByte:=by kernel_rfl
 neB5:=by decide }
open Go.RowKit in
theorem Tryz.strings_Join_none (a : Option Addr) (c : Nat) (sep : ByteArray) (w : World) :
  Calls Tryz.prog 133 #[.slice a 0 c,.string sep] w fun e w' => e = .returned (.string ⟨#[]⟩) ∧ w' = w:=Any.strings_Join_none Tryz.lays156 Tryz.Builder_Extra_156 a c sep w
open Go.RowKit in
theorem Tryz.strings_Join (bk o c : Nat) (xs : List ByteArray) (sep : ByteArray) (w : World) (hcells : ∀ (j : Nat) x,xs[j]? = some x → w.cell? ⟨bk,o + j,none⟩ = some (.string x)) (hbk : bk < w.heap.size) (hN : xs.length ≤ 140737488355328) (hcap : xs.length ≤ c) (hlen : (Lib.join (xs.map (·.data.toList)) sep.data.toList).length ≤ 140737488355328) :
  Calls Tryz.prog 133 #[.slice (some ⟨bk,o,none⟩) xs.length c,.string sep] w fun e w' => e = .returned (.string ⟨(Lib.join (xs.map (·.data.toList)) sep.data.toList).toArray⟩) ∧ Below w.heap.size w w':=Any.strings_Join Tryz.lays156 Tryz.Builder_Extra_156 bk o c xs sep w hcells hbk hN hcap hlen
def Tryz.lays106_ren : Go.Shelf.Ren:=⟨fun | 106 => 113 | 213 => 129 | 265 => 136 | n => n,fun | 9 => 9 | 3 => 3 | n => n,fun | n => n⟩
theorem Tryz.lays106 : Go.Proofs.Lays.n106 Tryz.prog Tryz.lays106_ren:={
 mixed:=by kernel_rfl
 f106:=Tryz.func113.trans (congrArg some (by kernel_rfl))
 f213:=Tryz.func129.trans (congrArg some (by kernel_rfl))
 f265:=Tryz.func136.trans (congrArg some (by kernel_rfl))
 t3:=Tryz.underlying3
 a3:=Tryz.isAgg3
 z3:=Tryz.sizeOf3
 v3:=Tryz.zeroValue3
 t9:=Tryz.underlying9
 a9:=Tryz.isAgg9
 z9:=Tryz.sizeOf9
 v9:=Tryz.zeroValue9 }
open Go.RowKit in
theorem Tryz.strings_Compare (a b : ByteArray) (w : World) :
  Calls Tryz.prog 113 #[.string a,.string b] w fun e w' => e = .returned (.int .i64 (Lib.compareBytes a.data.toList b.data.toList)) ∧ w' = w:=Any.strings_Compare Tryz.lays106 a b w
def Tryz.lays103_ren : Go.Shelf.Ren:=⟨fun | 103 => 109 | 210 => 124 | 206 => 50 | n => n,fun | 9 => 9 | 4 => 4 | 24 => 124 | 3 => 3 | n => n,fun | n => n⟩
theorem Tryz.lays103 : Go.Proofs.Lays.n103 Tryz.prog Tryz.lays103_ren:={
 mixed:=by kernel_rfl
 f103:=Tryz.func109.trans (congrArg some (by kernel_rfl))
 f206:=Tryz.func50.trans (congrArg some (by kernel_rfl))
 f210:=Tryz.func124.trans (congrArg some (by kernel_rfl))
 t3:=Tryz.underlying3
 a3:=Tryz.isAgg3
 z3:=Tryz.sizeOf3
 v3:=Tryz.zeroValue3
 t4:=Tryz.underlying4
 a4:=Tryz.isAgg4
 z4:=Tryz.sizeOf4
 v4:=Tryz.zeroValue4
 t9:=Tryz.underlying9
 a9:=Tryz.isAgg9
 z9:=Tryz.sizeOf9
 v9:=Tryz.zeroValue9
 t24:=Tryz.underlying124
 a24:=Tryz.isAgg124
 z24:=Tryz.sizeOf124
 v24:=Tryz.zeroValue124 }
open Go.RowKit in
theorem Tryz.strings_CutPrefix (s p : ByteArray) (w : World) :
  Calls Tryz.prog 109 #[.string s,.string p] w fun e w' => e = .returned (.tuple #[.string ⟨(Lib.trimPrefix s.data.toList p.data.toList).toArray⟩,.bool (Lib.hasPrefix s.data.toList p.data.toList)]) ∧ w' = w:=Any.strings_CutPrefix Tryz.lays103 s p w
def Tryz.lays122_ren : Go.Shelf.Ren:=⟨fun | 122 => 128 | 215 => 135 | n => n,fun | 3 => 3 | 4 => 4 | n => n,fun | n => n⟩
theorem Tryz.lays122 : Go.Proofs.Lays.n122 Tryz.prog Tryz.lays122_ren:={
 mixed:=by kernel_rfl
 f122:=Tryz.func128.trans (congrArg some (by kernel_rfl))
 f215:=Tryz.func135.trans (congrArg some (by kernel_rfl))
 t3:=Tryz.underlying3
 a3:=Tryz.isAgg3
 z3:=Tryz.sizeOf3
 v3:=Tryz.zeroValue3
 t4:=Tryz.underlying4
 a4:=Tryz.isAgg4
 z4:=Tryz.sizeOf4
 v4:=Tryz.zeroValue4 }
open Go.RowKit in
theorem Tryz.cmp_Compare_int (x y : Int) (w : World) :
  Calls Tryz.prog 128 #[.int .i64 x,.int .i64 y] w fun e w' => e = .returned (.int .i64 (Lib.compareInt x y)) ∧ w' = w:=Any.cmp_Compare_int Tryz.lays122 x y w
def Tryz.lays217_ren : Go.Shelf.Ren:=⟨fun | 217 => 147 | 266 => 153 | n => n,fun | 9 => 9 | 5 => 5 | 3 => 3 | n => n,fun | n => n⟩
theorem Tryz.lays217 : Go.Proofs.Lays.n217 Tryz.prog Tryz.lays217_ren:={
 mixed:=by kernel_rfl
 f217:=Tryz.func147.trans (congrArg some (by kernel_rfl))
 f266:=Tryz.func153.trans (congrArg some (by kernel_rfl))
 t3:=Tryz.underlying3
 a3:=Tryz.isAgg3
 z3:=Tryz.sizeOf3
 v3:=Tryz.zeroValue3
 t5:=Tryz.underlying5
 a5:=Tryz.isAgg5
 z5:=Tryz.sizeOf5
 v5:=Tryz.zeroValue5
 t9:=Tryz.underlying9
 a9:=Tryz.isAgg9
 z9:=Tryz.sizeOf9
 v9:=Tryz.zeroValue9 }
open Go.RowKit Go.Lib in
theorem Tryz.stringslite_IndexByte (s : ByteArray) (c : Int) (w : World) :
  Calls Tryz.prog 147 #[.string s,.int .u8 c] w fun e w' => e = .returned (.int .i64 (Lib.indexByte s.data.toList c.toNat.toUInt8)) ∧ w' = w:=Any.stringslite_IndexByte Tryz.lays217 s c w
def Tryz.lays138_ren : Go.Shelf.Ren:=⟨fun | 138 => 132 | 195 => 138 | 218 => 139 | 143 => 140 | 219 => 144 | 217 => 147 | 225 => 148 | 224 => 149 | 267 => 150 | 266 => 153 | 314 => 154 | n => n,fun | 9 => 9 | 3 => 3 | 4 => 4 | 5 => 5 | 0 => 0 | 46 => 53 | 146 => 170 | 51 => 169 | n => n,fun | 1 => 2 | n => n⟩
theorem Tryz.lays138 : Go.Proofs.Lays.n138 Tryz.prog Tryz.lays138_ren:={
 mixed:=by kernel_rfl
 f138:=Tryz.func132.trans (congrArg some (by kernel_rfl))
 f143:=Tryz.func140.trans (congrArg some (by kernel_rfl))
 f195:=Tryz.func138.trans (congrArg some (by kernel_rfl))
 f217:=Tryz.func147.trans (congrArg some (by kernel_rfl))
 f218:=Tryz.func139.trans (congrArg some (by kernel_rfl))
 f219:=Tryz.func144.trans (congrArg some (by kernel_rfl))
 f224:=Tryz.func149.trans (congrArg some (by kernel_rfl))
 f225:=Tryz.func148.trans (congrArg some (by kernel_rfl))
 f266:=Tryz.func153.trans (congrArg some (by kernel_rfl))
 f267:=Tryz.func150.trans (congrArg some (by kernel_rfl))
 f314:=Tryz.func154.trans (congrArg some (by kernel_rfl))
 t0:=Tryz.underlying0
 a0:=Tryz.isAgg0
 z0:=Tryz.sizeOf0
 v0:=Tryz.zeroValue0
 t3:=Tryz.underlying3
 a3:=Tryz.isAgg3
 z3:=Tryz.sizeOf3
 v3:=Tryz.zeroValue3
 t4:=Tryz.underlying4
 a4:=Tryz.isAgg4
 z4:=Tryz.sizeOf4
 v4:=Tryz.zeroValue4
 t5:=Tryz.underlying5
 a5:=Tryz.isAgg5
 z5:=Tryz.sizeOf5
 v5:=Tryz.zeroValue5
 t9:=Tryz.underlying9
 a9:=Tryz.isAgg9
 z9:=Tryz.sizeOf9
 v9:=Tryz.zeroValue9
 t46:=Tryz.underlying53
 a46:=Tryz.isAgg53
 z46:=Tryz.sizeOf53
 v46:=Tryz.zeroValue53
 t51:=Tryz.underlying169
 a51:=Tryz.isAgg169
 z51:=Tryz.sizeOf169
 v51:=Tryz.zeroValue169
 t146:=Tryz.underlying170
 a146:=Tryz.isAgg170
 z146:=Tryz.sizeOf170
 v146:=Tryz.zeroValue170
 g1:=by kernel_rfl }
open Go.RowKit Go.Lib in
theorem Tryz.strings_Count_one (s : ByteArray) (c : UInt8) (w : World) :
  Calls Tryz.prog 132 #[.string s,.string ⟨#[c]⟩] w fun e w' => e = .returned (.int .i64 (Lib.countByte s.data.toList c)) ∧ w' = w:=Any.strings_Count_one Tryz.lays138 s c w
def Tryz.lays149_ren : Go.Shelf.Ren:=⟨fun | 149 => 100 | 222 => 115 | n => n,fun | 9 => 9 | 5 => 5 | 3 => 3 | 4 => 4 | n => n,fun | n => n⟩
theorem Tryz.lays149 : Go.Proofs.Lays.n149 Tryz.prog Tryz.lays149_ren:={
 mixed:=by kernel_rfl
 f149:=Tryz.func100.trans (congrArg some (by kernel_rfl))
 f222:=Tryz.func115.trans (congrArg some (by kernel_rfl))
 t3:=Tryz.underlying3
 a3:=Tryz.isAgg3
 z3:=Tryz.sizeOf3
 v3:=Tryz.zeroValue3
 t4:=Tryz.underlying4
 a4:=Tryz.isAgg4
 z4:=Tryz.sizeOf4
 v4:=Tryz.zeroValue4
 t5:=Tryz.underlying5
 a5:=Tryz.isAgg5
 z5:=Tryz.sizeOf5
 v5:=Tryz.zeroValue5
 t9:=Tryz.underlying9
 a9:=Tryz.isAgg9
 z9:=Tryz.sizeOf9
 v9:=Tryz.zeroValue9 }
open Go.RowKit Go.Lib in
theorem Tryz.strings_LastIndexByte (s : ByteArray) (c : Int) (hs : s.size < 4611686018427387904) (w : World) :
  Calls Tryz.prog 100 #[.string s,.int .u8 c] w fun e w' => e = .returned (.int .i64 (Lib.lastIndexByte s c)) ∧ w' = w:=Any.strings_LastIndexByte Tryz.lays149 s c hs w
def Tryz.lays99_ren : Go.Shelf.Ren:=⟨fun | 99 => 29 | 206 => 50 | n => n,fun | 9 => 9 | 4 => 4 | 3 => 3 | n => n,fun | n => n⟩
open Go.RowKit Go.Lib in
def Tryz.lays101_ren : Go.Shelf.Ren:=⟨fun | 101 => 118 | 208 => 131 | 206 => 50 | n => n,fun | 9 => 9 | 4 => 4 | 3 => 3 | n => n,fun | n => n⟩
theorem Tryz.lays101 : Go.Proofs.Lays.n101 Tryz.prog Tryz.lays101_ren:={
 mixed:=by kernel_rfl
 f101:=Tryz.func118.trans (congrArg some (by kernel_rfl))
 f206:=Tryz.func50.trans (congrArg some (by kernel_rfl))
 f208:=Tryz.func131.trans (congrArg some (by kernel_rfl))
 t3:=Tryz.underlying3
 a3:=Tryz.isAgg3
 z3:=Tryz.sizeOf3
 v3:=Tryz.zeroValue3
 t4:=Tryz.underlying4
 a4:=Tryz.isAgg4
 z4:=Tryz.sizeOf4
 v4:=Tryz.zeroValue4
 t9:=Tryz.underlying9
 a9:=Tryz.isAgg9
 z9:=Tryz.sizeOf9
 v9:=Tryz.zeroValue9 }
open Go.RowKit Go.Lib in
theorem Tryz.strings_TrimPrefix (s p : ByteArray) (w : World) :
  Calls Tryz.prog 118 #[.string s,.string p] w fun e w' => e = .returned (.string ⟨(Lib.trimPrefix s.data.toList p.data.toList).toArray⟩) ∧ w' = w:=Any.strings_TrimPrefix Tryz.lays101 s p w
end Go.Proofs
namespace Go.Proofs.YtigopecainocgaaGreatDoor
open Go.RowKit
theorem index_none (l : Str) (h : 47 ∉ l) : Lib.indexByte l 47 = -1:=by
 induction l with
 | nil => rfl
 | cons c s ih =>
  simp only [List.mem_cons,not_or] at h
  unfold Lib.indexByte
  have : (c == 47) = false:=by simp; exact fun e => h.1 e.symm
  rw [this,ih h.2]; rfl
theorem index_some (l : Str) (h : 47 ∈ l) : Lib.indexByte l 47 = ((l.takeWhile (· != 47)).length : Int):=by
 induction l with
 | nil => simp at h
 | cons c s ih =>
  by_cases hc : c = 47
  ·simp [hc,Lib.indexByte]
  ·have h' : 47 ∈ s:=by
    rcases List.mem_cons.1 h with h | h
    ·exact absurd h.symm hc
    ·exact h
   unfold Lib.indexByte
   have e : (c == 47) = false:=by simp; exact hc
   rw [e,ih h',List.takeWhile_cons]
   have e2 : (((s.takeWhile (· != 47)).length : Int) == -1) = false:=by rw [beq_eq_false_iff_ne]; omega
   simp [hc,e2]
theorem ba_eq (s : ByteArray) (l : Str) (h : s.data.toList = l) : s = ⟨l.toArray⟩:=by
 subst h; rfl
theorem index_any (s : ByteArray) (w : World) : Calls Tryz.prog 144 #[.string s,.string ⟨#[47]⟩] w fun e w' => e = .returned (.int .i64 (Lib.indexByte s.data.toList 47)) ∧ w = w':=by
 by_cases h : ([47] == s.toList) = true
 ·have hs : s.data.toList = [47]:=by rw [← Lib.toList_data]; exact (beq_iff_eq.1 h).symm
  have e : Lib.indexByte s.data.toList 47 = 0:=by rw [hs]; rfl
  rw [e]
  clear e hs
  go_enter Tryz.func144,Tryz.ntmps144
  go_wp2
  go_ret
  exact ⟨rfl,rfl⟩
 ·have h' : ([47] == s.toList) = false:=by simpa using h
  clear h
  go_enter Tryz.func144,Tryz.ntmps144
  go_wp2_with (go_at_call 147; refine (Tryz.stringslite_IndexByte _ _ _).mono ?_; rintro e w' ⟨rfl,rfl⟩)
  go_ret
  exact ⟨rfl,rfl⟩
theorem tup3 {a a' b b' : ByteArray} {c : Bool} (h1 : a = a') (h2 : b = b') : Ending.returned (.tuple #[.string a,.string b,.bool c]) = .returned (.tuple #[.string a',.string b',.bool c]):=by rw [h1,h2]
theorem scut_any (s : ByteArray) (w : World) (hs : s.size ≤ 140737488355328) : Calls Tryz.prog 134 #[.string s,.string ⟨#[47]⟩] w fun e w' => e = .returned (.tuple #[.string ⟨(cut1 s.data.toList).1.toArray⟩,.string ⟨(cut1 s.data.toList).2.1.toArray⟩,.bool (cut1 s.data.toList).2.2]) ∧ ∃ n,w' = w.drewN n:=by
 have hl : s.data.toList.length = s.size:=rfl
 by_cases h : 47 ∈ s.data.toList
 ·have hi:=index_some _ h
  have hlt:=take_while_lt _ h
  have e1:=take_while_len s.data.toList
  have e2:=drop_while_len s.data.toList
  rw [cut1_yes _ h]
  dsimp only
  obtain ⟨k,hk⟩:=nmq ((s.data.toList.takeWhile (· != 47)).length)
  rw [← hk] at e1 e2 hi hlt
  rw [← e1,← e2]
  have c1 : (0 : Int) ≤ ↑k:=by omega
  have c2 : (↑k : Int) ≤ ↑s.size:=by omega
  have c3 : (0 : Int) ≤ ↑k + 1:=by omega
  have c4 : (↑k + 1 : Int) ≤ ↑s.size:=by omega
  have HI:=hyq hi
  have HL:=hyq hl
  have c5 : IntKind.i64.wrap (↑k + 1) = (↑k + 1 : Int):=IntWalk.i64_in _ (by omega)
  have c6 : ((k : Int) + 1).toNat = k + 1:=by omega
  clear h hi hlt e1 e2 hk hl
  go_enter Tryz.func134,Tryz.ntmps134
  go_wp2_with (go_at_call 144; refine (index_any _ _).mono ?_; rintro e w' ⟨rfl,rfl⟩; rw [HI.out])
  go_region
  go_wp2
  go_ret3
  refine ⟨tup3 (ba_eq _ _ ?_) (ba_eq _ _ ?_),1,rfl⟩
  ·rw [Lib.extract_data,List.drop_zero]; rfl
  ·rw [Lib.extract_to_end,List.drop_drop]
 ·have hi:=index_none _ h
  have HI:=hyq hi
  rw [cut1_no _ h]
  clear h hi hl
  go_enter Tryz.func134,Tryz.ntmps134
  go_wp2_with (go_at_call 144; refine (index_any _ _).mono ?_; rintro e w' ⟨rfl,rfl⟩; rw [HI.out])
  go_ret3
  exact ⟨tup3 rfl rfl,0,rfl⟩
theorem cut_any (s : ByteArray) (w : World) (hs : s.size ≤ 140737488355328) : Calls Tryz.prog 126 #[.string s,.string ⟨#[47]⟩] w fun e w' => e = .returned (.tuple #[.string ⟨(cut1 s.data.toList).1.toArray⟩,.string ⟨(cut1 s.data.toList).2.1.toArray⟩,.bool (cut1 s.data.toList).2.2]) ∧ ∃ n,w' = w.drewN n:=by
 go_enter Tryz.func126,Tryz.ntmps126
 go_wp2_with (go_at_call 134; refine (scut_any _ _ hs).mono ?_; rintro e w' ⟨rfl,n,rfl⟩)
 go_ret3
 exact ⟨rfl,n,rfl⟩
end Go.Proofs.YtigopecainocgaaGreatDoor
namespace Go.Proofs.YtigopecainocgaaGreatDoor
open Go.RowKit Go.Shelf
attribute [local go_sem] Oper.semAt_some
def encS (l : Str) : Value:=.string ⟨l.toArray⟩
theorem only_drewN {a w : World} {row : Option Nat} (h : a.grownBy w row) (n : Nat) : a.grownBy (w.drewN n) row:=⟨h.os,h.tape,h.output,h.size,h.block⟩
theorem cutl_any (l : Str) (w : World) (hs : l.length ≤ 140737488355328) : Calls Tryz.prog 126 #[.string ⟨l.toArray⟩,.string ⟨#[47]⟩] w fun e w' => e = .returned (.tuple #[.string ⟨(cut1 l).1.toArray⟩,.string ⟨(cut1 l).2.1.toArray⟩,.bool (cut1 l).2.2]) ∧ ∃ n,w' = w.drewN n :=
 cut_any ⟨l.toArray⟩ w (by simpa [ByteArray.size] using hs)
theorem grown_drewN (w : World) (n : Nat) (row : Option Nat) : w.grownBy (w.drewN n) row:=only_drewN (World.grownBy.refl w row) n
def anyK (_ _ : World) : Prop:=True
theorem parts1_stops (n : Nat) (hn : 1 ≤ n) (B : Nat) (s : ByteArray) (hs : s.size ≤ 140737488355328) (w : World) (hB : B < w.heap.size) (hc : w.cell? ⟨B,0,none⟩ = some (.string s)) :
  SeqStopsK Fence.wide n Tryz.prog 125 #[.pointer (some ⟨B,0,none⟩)] (fun x : Str => #[.string ⟨x.toArray⟩]) anyK (fun xs => xs = cutP s.data.toList) (fun pre => pre <+: cutP s.data.toList) (cutP s.data.toList).length w:=fun l J Jx W hW hJ hJx hY h0 => by
 have hc' : W.cell? ⟨B,0,none⟩ = some (.string s):=(hW.cell (p:=⟨B,0,none⟩) hB).trans hc
 clear hc hW hB
 refine callsIn_of_wp Tryz.func125 rfl trivial ?_ rfl
 simp only [Tryz.ntmps125,List.size_toArray,List.length_cons,List.length_nil,Nat.reduceAdd,Nat.reduceSub,Array.replicate_succ,Array.replicate_zero,List.push_toArray,List.append_toArray,List.nil_append,List.cons_append]
 gi_wp2_with (refine ⟨trivial,?_⟩; gi_at_call 126; refine (callsIn_wide.2 (cut_any _ _ hs)).mono ?_; rintro e w' ⟨rfl,q,rfl⟩)
 gi_loopw [3,4,5] (fun a b c wr => ∃ (pre : List Str) (part rest : Str) (more : Bool),a = .string ⟨part.toArray⟩ ∧ b = .string ⟨rest.toArray⟩ ∧ c = .bool more ∧ cutP s.data.toList = pre ++ tail1 part rest more ∧ rest.length ≤ 140737488355328 ∧ J pre wr)
  (fun _ b c _ => msr b c)
 case atStart => exact ⟨[],_,_,_,rfl,rfl,rfl,tail1_start _,cut1_snd_le _ _ hs,hJ [] W _ none h0 (grown_drewN _ _ _) (fun r e => by cases e)⟩
 case round =>
  obtain ⟨pre,part,rest,more,rfl,rfl,rfl,hx,hr,hJs⟩:=hrel
  have HX:=hyq hx
  have hlen : pre.length < (cutP s.data.toList).length:=by rw [hx]; simp [tail1]
  clear hx
  obtain ⟨fn,tmps,assign,body,hy,hR⟩:=hY pre part wr hJs hlen
  clear hlen
  gi_wp2
  refine hR.mono ?_
  rintro e W3 (⟨rfl,hJ3,hk3⟩ | ⟨rfl,hJx3⟩)
  ·cases more with
   | true =>
    gi_wp2_with (refine ⟨trivial,?_⟩; gi_at_call 126; refine (callsIn_wide.2 (cutl_any _ _ hr)).mono ?_; rintro e w' ⟨rfl,q,rfl⟩)
    go_roundw
    case rel => exact ⟨pre ++ [part],_,_,_,rfl,rfl,rfl,by rw [HX.out,tail1_more]; simp,cut1_snd_le _ _ hr,hJ _ W3 _ none hJ3 (grown_drewN _ _ _) (fun r e => by cases e)⟩
    case measure => exact msr_lt rest
   | false =>
    gi_wp2
    go_end0
    exact ⟨⟨_,rfl⟩,.inl ⟨pre ++ [part],by rw [HX.out]; rfl,hJ3⟩⟩
  ·gi_wp2
   go_end0
   exact ⟨⟨_,rfl⟩,.inr ⟨pre ++ [part],⟨if more = true then cutP rest else [],by rw [HX.out]; simp [tail1]⟩,hJx3⟩⟩
end Go.Proofs.YtigopecainocgaaGreatDoor
namespace Go.Proofs.YtigopecainocgaaGreatDoor
open Go.RowKit Go.Shelf
attribute [local go_sem] Oper.semAt_some
theorem cutpre_yes (r : Str) (w : World) : Calls Tryz.prog 109 #[.string ⟨(47 :: r).toArray⟩,.string ⟨#[47]⟩] w fun e w' => e = .returned (.tuple #[.string ⟨r.toArray⟩,.bool true]) ∧ w = w' :=
 (Tryz.strings_CutPrefix ⟨(47 :: r).toArray⟩ ⟨#[47]⟩ w).mono fun _ _ ⟨he,hw⟩ => ⟨he,hw.symm⟩
theorem hasPrefix_no (p : Str) (h : p.head? ≠ some 47) : Lib.hasPrefix p [47] = false:=by
 cases p with
 | nil => rfl
 | cons c r => simp at h; simp [Lib.hasPrefix,List.isPrefixOf]; exact fun e => h e.symm
theorem cutpre_no (p : Str) (h : p.head? ≠ some 47) (w : World) : Calls Tryz.prog 109 #[.string ⟨p.toArray⟩,.string ⟨#[47]⟩] w fun e w' => e = .returned (.tuple #[.string ⟨p.toArray⟩,.bool false]) ∧ w = w' :=
 (Tryz.strings_CutPrefix ⟨p.toArray⟩ ⟨#[47]⟩ w).mono fun _ _ ⟨he,hw⟩ => ⟨by
  have e1:=hasPrefix_no p h
  simp only [Lib.trimPrefix] at he
  rw [e1] at he
  simpa using he,hw.symm⟩
theorem namel_any (l : Str) (w : World) : Calls Tryz.prog 111 #[.string ⟨l.toArray⟩] w fun e w' => e = .returned (.bool (nameB l)) ∧ Below w.heap.size w w':=name_any ⟨l.toArray⟩ w
theorem parts_any (s : ByteArray) (w : World) : Calls Tryz.prog 110 #[.string s] w fun e w' => e = .returned (.func (.func 125) #[] #[.pointer (some ⟨w.heap.size,0,none⟩)]) ∧ w.alloc (.cells #[.string s] 9) = w':=by
 go_enter Tryz.func110,Tryz.ntmps110
 go_wp2
 go_ret
 exact ⟨rfl,rfl⟩
theorem valid_no (p : Str) (h : p.head? ≠ some 47) (w : World) : Calls Tryz.prog 93 #[.string ⟨p.toArray⟩] w fun e w' => e = .returned (.bool false) ∧ Below w.heap.size w w':=by
 refine (callsIn_wide (n:=5)).1 ?_
 refine callsIn_of_wp_marks Tryz.func93 rfl trivial ?_ rfl
 simp only [Tryz.ntmps93,List.size_toArray,List.length_cons,List.length_nil,Nat.reduceAdd,Nat.reduceSub,Array.replicate_succ,Array.replicate_zero,List.push_toArray,List.append_toArray,List.nil_append,List.cons_append]
 gi_wp2_with (refine ⟨trivial,?_⟩; gi_at_call 109; refine (callsIn_wide.2 (cutpre_no _ h _)).mono ?_; rintro e w' ⟨rfl,rfl⟩)
 refine ⟨.bool false,?_,rfl,(Below.refl _ _).alloc (Nat.le_refl _) _⟩
 simp [results,Tryz.f93,go_sem]
theorem valid_root (w : World) : Calls Tryz.prog 93 #[.string ⟨#[47]⟩] w fun e w' => e = .returned (.bool true) ∧ Below w.heap.size w w':=by
 refine (callsIn_wide (n:=5)).1 ?_
 refine callsIn_of_wp_marks Tryz.func93 rfl trivial ?_ rfl
 simp only [Tryz.ntmps93,List.size_toArray,List.length_cons,List.length_nil,Nat.reduceAdd,Nat.reduceSub,Array.replicate_succ,Array.replicate_zero,List.push_toArray,List.append_toArray,List.nil_append,List.cons_append]
 gi_wp2_with (refine ⟨trivial,?_⟩; gi_at_call 109; refine (callsIn_wide.2 (cutpre_yes [] _)).mono ?_; rintro e w' ⟨rfl,rfl⟩)
 refine ⟨.bool true,?_,rfl,(Below.refl _ _).alloc (Nat.le_refl _) _⟩
 simp [results,Tryz.f93,go_sem]
theorem kf_below {B : Nat} {W W' : World} (h : Below W.heap.size W W') : KeepsFrom B W W' :=
 ⟨h.size,fun k _ _ hk _ => (h.block k (Array.getElem?_eq_some_iff.1 hk).1).trans hk⟩
theorem boxed_below {W W' : World} {B k : Nat} {t : TypeId} {v : Value} (h : Boxed W k t v) (hb : Below B W W') (hk : k < B) : Boxed W' k t v:=(hb.block k hk).trans h
theorem size_set (W : World) (a : Addr) (v : Value) : (W.setCell a v).heap.size = W.heap.size:=by simp [World.setCell]
def vI (w : World) (pre : List Str) (W : World) : Prop :=
 (pre.length ≤ 40 ∧ pre.all nameB = true) ∧ Boxed W w.heap.size 4 (.bool false) ∧ Boxed W (w.heap.size + 1) 3 (.int .i64 (pre.length : Int)) ∧ Below w.heap.size w W
def vX (w : World) (c : Code) (pre : List Str) (W : World) : Prop :=
 (c = .ret ∧ ∀ m,pre <+: m → partsB m = false) ∧ Boxed W w.heap.size 4 (.bool false) ∧ Below w.heap.size w W
theorem vI_own (w : World) (B : Nat) (hB : w.heap.size ≤ B) : OwnFrom B (vI w) :=
 OwnFrom.and (ownFrom_pure _ fun pre : List Str => pre.length ≤ 40 ∧ pre.all nameB = true) (OwnFrom.and (Own.from (boxed_own _ _ fun _ => _) _) (OwnFrom.and (Own.from (boxed_own _ _ fun pre : List Str => .int .i64 (pre.length : Int)) _) (ownFrom_below (Nat.le_refl _) hB)))
theorem vX_own (w : World) (B : Nat) (hB : w.heap.size ≤ B) (c : Code) : OwnFrom B (vX w c) :=
 OwnFrom.and (ownFrom_pure _ fun pre : List Str => c = .ret ∧ ∀ m,pre <+: m → partsB m = false) (OwnFrom.and (Own.from (boxed_own _ _ fun _ => _) _) (ownFrom_below (Nat.le_refl _) hB))
theorem valid_yes (r : Str) (hr : r ≠ []) (hlr : r.length ≤ 140737488355328) (w : World) : Calls Tryz.prog 93 #[.string ⟨(47 :: r).toArray⟩] w fun e w' => e = .returned (.bool (partsB (cutP r))) ∧ Below w.heap.size w w':=by
 refine (callsIn_wide (n:=5)).1 ?_
 have hr1 : r.isEmpty = false:=isEmpty_no hr
 refine callsIn_of_wp_marks Tryz.func93 rfl trivial ?_ rfl
 simp only [Tryz.ntmps93,List.size_toArray,List.length_cons,List.length_nil,Nat.reduceAdd,Nat.reduceSub,Array.replicate_succ,Array.replicate_zero,List.push_toArray,List.append_toArray,List.nil_append,List.cons_append]
 gi_wp2_with (first | (refine ⟨trivial,?_⟩; gi_at_call 109; refine (callsIn_wide.2 (cutpre_yes r _)).mono ?_; rintro e w' ⟨rfl,rfl⟩) | (refine ⟨trivial,?_⟩; gi_at_call 110; refine (callsIn_wide.2 (parts_any _ _)).mono ?_; rintro e w' ⟨rfl,rfl⟩))
 have b0:=((Boxed.new w 4 (.bool false)).alloc (.cells #[.int .i64 0] 3)).alloc (.cells #[.string ⟨r.toArray⟩] 9)
 have b1:=(Boxed.new (w.alloc (.cells #[.bool false] 4)) 3 (.int .i64 0)).alloc (.cells #[.string ⟨r.toArray⟩] 9)
 have b2:=Boxed.new ((w.alloc (.cells #[.bool false] 4)).alloc (.cells #[.int .i64 0] 3)) 9 (.string ⟨r.toArray⟩)
 have hB0 : Below w.heap.size w (((w.alloc (.cells #[.bool false] 4)).alloc (.cells #[.int .i64 0] 3)).alloc (.cells #[.string ⟨r.toArray⟩] 9)):=(((Below.refl _ w).alloc (Nat.le_refl _) _).alloc (by simp) _).alloc (by simp; omega) _
 simp only [World.size_alloc] at b0 b1 b2
 refine wpIn_rangeFunc_ownG rfl (by omega) (gf:=125) (lb:=#[.pointer (some ⟨w.heap.size + 1 + 1,0,none⟩)]) rfl trivial (enters_of Tryz.func125 (by kernel_rfl) rfl)
  (parts1_stops _ (by omega) (w.heap.size + 1 + 1) ⟨r.toArray⟩ (by simpa [ByteArray.size] using hlr) _ (by simp) b2.cell) (fun _ _ => trivial) (fun _ _ _ _ _ _ _ _ => trivial) (Below.refl _ _) (fun _ => rfl)
  (vI w) (vX w) (vI_own w _ (by simp; omega)) (vX_own w _ (by simp; omega)) ⟨⟨by simp,rfl⟩,b0,b1,hB0⟩
  (fun x => { tmps:=#[.string ⟨(47 :: r).toArray⟩,undef,.pointer (some ⟨w.heap.size,0,none⟩),.string ⟨r.toArray⟩,.bool true,.pointer (some ⟨w.heap.size + 1,0,none⟩),(.string ⟨x.toArray⟩),.tuple #[.string ⟨r.toArray⟩,.bool true],.string ⟨(47 :: r).toArray⟩,.tuple #[.string ⟨r.toArray⟩,.bool true],.string ⟨r.toArray⟩,.bool true,.bool true,.bool false,.string ⟨r.toArray⟩,.bool false,.string ⟨r.toArray⟩,.func (.func 125) #[] #[.pointer (some ⟨w.heap.size + 1 + 1,0,none⟩)],(.string ⟨x.toArray⟩),undef,undef,undef,undef,undef,undef,undef,undef,undef],defers:=[] }) ?assign ?body ?done ?stop
 case assign =>
  intro l x W K hK
  gi_wp2
  exact hK
 case body =>
  rintro l pre x W ⟨⟨hlen,hall⟩,hb0,hb1,hB⟩ _
  have hc1:=hb1.cell
  have hf1:=hb1.frozen
  have hc0:=hb0.cell
  have hf0:=hb0.frozen
  have hs1:=hb1.lt
  have hs0:=hb0.lt
  have d1:=hb1.set (.int .i64 ((pre.length : Int) + 1))
  have d0:=hb0.other (B':=w.heap.size + 1) (by omega) (.int .i64 ((pre.length : Int) + 1))
  have hB1 : Below w.heap.size w (W.setCell ⟨w.heap.size + 1,0,none⟩ (.int .i64 ((pre.length : Int) + 1))):=hB.setCell (p:=⟨w.heap.size + 1,0,none⟩) (by simp) _
  by_cases h40 : 40 ≤ pre.length
  ·have hk : (40 : Int) < (pre.length : Int) + 1:=by omega
   have hk2 : (pre.length : Int) + 1 ≤ 41:=by omega
   have c0:=d0.cell
   have f0:=d0.frozen
   gi_wp2_with (refine ⟨trivial,?_⟩)
   refine ⟨(KeepsOthers.setCell _ _ _).from _ |>.trans ((KeepsOthers.setCell _ _ _).from _),⟨rfl,fun m hm => partsB_snoc_long _ m (by simp; omega) hm⟩,d0.set _,hB1.setCell (p:=⟨w.heap.size,0,none⟩) (Nat.le_refl _) _⟩
  ·have hk : (pre.length : Int) + 1 ≤ 40:=by omega
   have hd : decide ((40 : Int) < (pre.length : Int) + 1) = false:=decide_eq_false (by omega)
   by_cases hn : nameB x = true
   ·have HN:=hyq hn
    clear hn
    gi_wp2_with (refine ⟨trivial,?_⟩; gi_at_call 111; refine (CallsIn.inRound l (callsIn_wide.2 (namel_any x _))).mono ?_; rintro e w1 ⟨rfl,hb⟩; rw [HN.out]; rw [size_set] at hb)
    refine ⟨((KeepsOthers.setCell _ _ _).from _).trans (kf_below (by rw [size_set]; exact hb)),trivial,⟨by simp; omega,by simp [hall,HN.out]⟩,boxed_below d0 hb hs0,by simpa using boxed_below d1 hb hs1,hB1.trans (hb.mono hB.size)⟩
   ·have HN:=hyq (Bool.eq_false_iff.2 hn)
    clear hn
    gi_wp2_with (refine ⟨trivial,?_⟩; gi_at_call 111; refine (CallsIn.inRound l (callsIn_wide.2 (namel_any x _))).mono ?_; rintro e w1 ⟨rfl,hb⟩; rw [HN.out]; rw [size_set] at hb; have e0:=boxed_below d0 hb hs0; have c0:=e0.cell; have f0:=e0.frozen)
    refine ⟨(((KeepsOthers.setCell _ _ _).from _).trans (kf_below (by rw [size_set]; exact hb))).trans ((KeepsOthers.setCell _ _ _).from _),⟨rfl,fun m hm => partsB_bad _ m x HN.out (by simp) hm⟩,e0.set _,(hB1.trans (hb.mono hB.size)).setCell (p:=⟨w.heap.size,0,none⟩) (Nat.le_refl _) _⟩
 case done =>
  rintro D xs W hD rfl ⟨⟨hlen,hall⟩,hb0,hb1,hB⟩ hK
  have hc0:=hb0.cell
  have hf0:=hb0.frozen
  gi_wp2
  have hK':=(KeepsOthers.setCell W ⟨w.heap.size,0,none⟩ (.bool true)).same D _ hK rfl
  refine ⟨by simp,.inl ⟨_,_,rfl,run_takeDeferred hK',?_⟩⟩
  have hc5:=cell_kept (World.cell?_setCell_same' W ⟨w.heap.size,0,none⟩ (.bool true) (by rw [hc0]; rfl)) (grownBy_putObj' _ D (.deferred none)) (fun r e => by cases e; exact ⟨_,hK',rfl⟩)
  refine ⟨.bool true,?_,by rw [partsB_all _ hlen hall],?_⟩
  ·simp [results,Tryz.f93,go_sem,hc5]
  ·exact (hB.setCell (p:=⟨w.heap.size,0,none⟩) (Nat.le_refl _) _).trans (belowK_b (w:=w) (Nat.le_refl _) _ D _ _ (by simp at hD; omega) hK' rfl rfl)
 case stop =>
  rintro D c pre W hD hpre ⟨⟨rfl,hbad⟩,hb0,hB⟩ hK
  have hc0:=hb0.cell
  have hf0:=hb0.frozen
  have HB:=hyq (hbad _ hpre)
  clear hbad hpre
  gi_wp2
  refine ⟨by simp,.inl ⟨_,_,rfl,run_takeDeferred hK,?_⟩⟩
  have hc5:=cell_kept hc0 (grownBy_putObj' _ D (.deferred none)) (fun r e => by cases e; exact ⟨_,hK,rfl⟩)
  refine ⟨.bool false,?_,by rw [HB.out],?_⟩
  ·simp [results,Tryz.f93,go_sem,hc5]
  ·exact hB.trans (belowK_b (w:=w) (Nat.le_refl _) _ D _ _ (by simp at hD; omega) hK rfl rfl)
end Go.Proofs.YtigopecainocgaaGreatDoor
namespace Go.Proofs.YtigopecainocgaaGreatDoor
open Go.RowKit Go.Shelf
attribute [local go_sem] Oper.semAt_some
theorem valid_any (p : Str) (hp : p.length ≤ 140737488355328) (w : World) : Calls Tryz.prog 93 #[.string ⟨p.toArray⟩] w fun e w' => e = .returned (.bool (validB p)) ∧ Below w.heap.size w w':=by
 by_cases h : p.head? = some 47
 ·cases p with
  | nil => cases h
  | cons c r =>
   simp at h
   subst h
   by_cases hr : r = []
   ·subst hr
    exact (valid_root w).mono fun _ _ ⟨he,hb⟩ => ⟨by rw [validB_root]; exact he,hb⟩
   ·rw [validB_slash r hr]
    exact valid_yes r hr (by simp at hp; omega) w
 ·rw [validB_bad p h]
  exact valid_no p h w
theorem ret_int {k : IntKind} {a b : Int} (h : a = b) : Ending.returned (.int k a) = .returned (.int k b):=by rw [h]
theorem count_any (l : Str) (k : Nat) (hk : (cutP l).length = k + 1) (w : World) : Calls Tryz.prog 132 #[.string ⟨l.toArray⟩,.string ⟨#[47]⟩] w fun e w' => e = .returned (.int .i64 (k : Int)) ∧ w = w' :=
 (Tryz.strings_Count_one ⟨l.toArray⟩ 47 w).mono fun _ _ ⟨he,hw⟩ => ⟨by
  rw [he]
  refine ret_int ?_
  have:=cutP_count l
  show ((Lib.countByte l 47 : Nat) : Int) = k
  unfold Lib.countByte
  omega,hw.symm⟩
theorem info9 : (Tryz.prog.info? 9).map (fun i => (i.zero,i.size,i.bytes)) = some (some (.string ⟨#[]⟩),1,16):=by kernel_rfl
theorem split_nil (w : World) : Calls Tryz.prog 119 #[.string ⟨#[]⟩] w fun e w' => ∃ v,e = .returned v ∧ w'.ownsRow w.heap.size 9 1 v 0 [] ∧ Below w.heap.size w w':=by
 refine (callsIn_wide (n:=5)).1 ?_
 refine callsIn_of_wp_marks Tryz.func119 rfl trivial ?_ rfl
 simp only [Tryz.ntmps119,List.size_toArray,List.length_cons,List.length_nil,Nat.reduceAdd,Nat.reduceSub,Array.replicate_succ,Array.replicate_zero,List.push_toArray,List.append_toArray,List.nil_append,List.cons_append]
 gi_wp2
 refine ⟨.slice none 0 0,?_,_,rfl,World.ownsRow_nil _ _ _ _,Below.refl _ _⟩
 simp [results,Tryz.f119,go_sem]
def sI (w w1 : World) (pre : List Str) (W : World) : Prop :=
 (∃ v,Boxed W w1.heap.size 69 v ∧ W.ownsRow w.heap.size 9 1 v pre.length (pre.map encS) ∧ True) ∧ Below w.heap.size w W
theorem sI_own (w w1 : World) (B : Nat) (hB : w.heap.size ≤ B) : OwnFrom B (sI w w1) :=
 OwnFrom.and (Own.from (holdsRow_own w.heap.size w1.heap.size 69 9 1 (fun pre : List Str => pre.length) (fun pre => pre.map encS) (fun _ _ => True)) _) (ownFrom_below (Nat.le_refl _) hB)
theorem split_some (s : Str) (hs : s ≠ []) (hls : s.length ≤ 140737488355328) (k : Nat) (hN : (cutP s).length = k + 1) (hk : k < 1000) (w : World) : Calls Tryz.prog 119 #[.string ⟨s.toArray⟩] w fun e w' => ∃ v,e = .returned v ∧ w'.ownsRow w.heap.size 9 1 v (cutP s).length ((cutP s).map encS) ∧ Below w.heap.size w w':=by
 refine (callsIn_wide (n:=5)).1 ?_
 have hr1 : s.isEmpty = false:=isEmpty_no hs
 have HN:=hyq hN
 have hk1 : (k : Int) < 1000:=by omega
 obtain ⟨i0,hi,hz0,hz1,hz2⟩:=info_parts info9
 clear hN
 refine callsIn_of_wp_marks Tryz.func119 rfl trivial ?_ rfl
 simp only [Tryz.ntmps119,List.size_toArray,List.length_cons,List.length_nil,Nat.reduceAdd,Nat.reduceSub,Array.replicate_succ,Array.replicate_zero,List.push_toArray,List.append_toArray,List.nil_append,List.cons_append]
 gi_wp2_with (first | (refine ⟨trivial,?_⟩; gi_at_call 132; refine (callsIn_wide.2 (count_any s k HN.out _)).mono ?_; rintro e w' ⟨rfl,rfl⟩) | (gi_at_make; refine wpListIn_make_own _ rfl _ _ 69 rfl w.heap.size 9 i0 (.string ⟨#[]⟩) 1 Tryz.underlying69 hi hz0 hz1 .i64 .i64 _ (k + 1) rfl rfl (by simp) (by rw [hz2]; omega) (by unfold maxLen; omega) (Nat.le_refl _) ?_; intro w1 hown hgrow; have hsz:=hgrow.size) | (refine ⟨trivial,?_⟩; gi_at_call 110; refine (callsIn_wide.2 (parts_any _ _)).mono ?_; rintro e w' ⟨rfl,rfl⟩))
 have b0:=(Boxed.new w1 69 (.slice (some ⟨w.heap.size,0,none⟩) 0 (k + 1))).alloc (.cells #[.string ⟨s.toArray⟩] 9)
 have b2:=Boxed.new (w1.alloc (.cells #[.slice (some ⟨w.heap.size,0,none⟩) 0 (k + 1)] 69)) 9 (.string ⟨s.toArray⟩)
 have hB1 : Below w.heap.size w w1:=(Below.refl _ w).grown hgrow (Nat.le_refl _) (fun r e => by cases e)
 have hB0 : Below w.heap.size w ((w1.alloc (.cells #[.slice (some ⟨w.heap.size,0,none⟩) 0 (k + 1)] 69)).alloc (.cells #[.string ⟨s.toArray⟩] 9)):=(hB1.alloc hsz _).alloc (by simp; omega) _
 simp only [World.size_alloc] at b2
 refine wpIn_rangeFunc_ownG rfl (by omega) (gf:=125) (lb:=#[.pointer (some ⟨w1.heap.size + 1,0,none⟩)]) rfl trivial (enters_of Tryz.func125 (by kernel_rfl) rfl)
  (parts1_stops _ (by omega) (w1.heap.size + 1) ⟨s.toArray⟩ (by simpa [ByteArray.size] using hls) _ (by simp) b2.cell) (fun _ _ => trivial) (fun _ _ _ _ _ _ _ _ => trivial) (Below.refl _ _) (fun _ => rfl)
  (sI w w1) (fun _ _ _ => False) (sI_own w w1 _ (by simp; omega)) (fun _ _ _ _ _ hs _ _ => hs) ⟨⟨_,b0,(hown.alloc _).alloc _,trivial⟩,hB0⟩
  (fun x => { tmps:=#[.string ⟨s.toArray⟩,undef,.slice none 0 0,.pointer (some ⟨w1.heap.size,0,none⟩),.string ⟨x.toArray⟩,.string ⟨s.toArray⟩,.bool false,.string ⟨s.toArray⟩,.int .i64 (k : Int),.int .i64 ((k : Int) + 1),.slice (some ⟨w.heap.size,0,none⟩) 0 (k + 1),.string ⟨s.toArray⟩,.func (.func 125) #[] #[.pointer (some ⟨w1.heap.size + 1,0,none⟩)],.string ⟨x.toArray⟩,undef,undef,undef,undef,undef],defers:=[] }) ?assign ?body ?done ?stop
 case assign =>
  intro l x W K hK
  gi_wp2
  exact hK
 case body =>
  rintro l pre x W ⟨⟨v,hv,hrow,_⟩,hB⟩ hlt
  have hc:=hv.cell
  have hlt' : pre.length ≤ 1000:=by
   have h2:=HN.out
   have h3 : pre.length < (cutP s).length:=hlt
   omega
  clear hlt
  have hle : w.heap.size ≤ w1.heap.size:=hsz
  gi_wp2_with (gi_at_builtin; refine wpListIn_append_own _ rfl _ _ 69 rfl w.heap.size 9 i0 (.string ⟨#[]⟩) 1 16 Tryz.underlying69 hi hz0 hz1 hz2 rfl (by decide) _ _ _ rfl (hrow.alloc _) ⟨W.heap.size,0,none⟩ 1 1 [.string ⟨x.toArray⟩] rfl rfl (cell_one_new _ _ _) (by simp [Value.oneCell']) (by unfold maxLen; omega) (by omega) (by have:=hB.size; simp; omega) ?_; intro v' w2 hown' hgrow2 _; obtain ⟨g',cap',rfl⟩:=ownsRow_succ hown'; obtain ⟨hv1,hv2,hr2,hk2,hb2⟩:=hv.appended (by decide) hrow hB.size hle hown' hgrow2; have hc1:=hv1.cell; have hf1:=hv1.frozen)
  exact ⟨hk2.from _,trivial,⟨_,hv2,by simpa [encS] using hr2,trivial⟩,hB.trans hb2⟩
 case done =>
  rintro D xs W hD rfl ⟨⟨v,hv,hrow,_⟩,hB⟩ hK
  have hc:=hv.cell
  gi_wp2
  refine ⟨by simp,.inl ⟨_,_,rfl,run_takeDeferred hK,?_⟩⟩
  refine ⟨_,results_tmp rfl _ _ _,v,rfl,ownsRow_putObj hrow _ hK rfl,hB.trans (belowK_b (w:=w) (Nat.le_refl _) W D _ _ (by simp at hD; omega) hK rfl rfl)⟩
 case stop =>
  rintro D c pre W _ _ h _
  exact h.elim
end Go.Proofs.YtigopecainocgaaGreatDoor
namespace Go.Proofs.YtigopecainocgaaGreatDoor
open Go.RowKit Go.Shelf
attribute [local go_sem] Oper.semAt_some
theorem split_any (s : ByteArray) (hls : s.size ≤ 140737488355328) (hN : (splitL s.data.toList).length ≤ 1000) (w : World) :
  Calls Tryz.prog 119 #[.string s] w fun e w' => ∃ v,e = .returned v ∧ w'.ownsRow w.heap.size 9 1 v (splitL s.data.toList).length ((splitL s.data.toList).map encS) ∧ Below w.heap.size w w':=by
 by_cases h : s.data.toList = []
 ·have e : s = ⟨#[]⟩:=ba_eq s [] h
  subst e
  exact split_nil w
 ·have e : splitL s.data.toList = cutP s.data.toList:=by rw [splitL,if_neg h]
  rw [e] at hN ⊢
  obtain ⟨k,hk⟩ : ∃ k,(cutP s.data.toList).length = k + 1:=⟨s.data.toList.count 47,cutP_count _⟩
  exact split_some s.data.toList h hls k hk (by omega) w
theorem validb_any (p : ByteArray) (hp : p.size ≤ 140737488355328) (w : World) : Calls Tryz.prog 93 #[.string p] w fun e w' => e = .returned (.bool (validB p.data.toList)) ∧ Below w.heap.size w w' :=
 valid_any p.data.toList hp w
theorem valid_is (p : ByteArray) (hp : p.size ≤ 140737488355328) (b : Bool) (hb : validB p.data.toList = b) (w : World) : Calls Tryz.prog 93 #[.string p] w fun e w' => e = .returned (.bool b) ∧ Below w.heap.size w w':=by
 rw [← hb]; exact validb_any p hp w
def errB (b : Bool) : Int:=if b = true then 0 else 110
theorem check_any (p : ByteArray) (hp : p.size ≤ 140737488355328) (w : World) : Calls Tryz.prog 70 #[.string p] w fun e w' => e = .returned (.int .i64 (errB (validB p.data.toList))) ∧ Below w.heap.size w w':=by
 obtain ⟨b,hb⟩ : ∃ b,validB p.data.toList = b:=⟨_,rfl⟩
 rw [hb]
 have HB:=hyq hb
 clear hb
 cases b
 all_goals
  go_enter Tryz.func70,Tryz.ntmps70
  go_wp2_with (go_at_call 93; refine (valid_is p hp _ HB.out _).mono ?_; rintro e w' ⟨rfl,hb⟩)
  go_ret
  exact ⟨rfl,hb⟩
def NamesPost (p : Str) (w : World) (e : Ending) (w' : World) : Prop:=∃ v,e = .returned (.tuple #[v,.int .i64 0]) ∧ w'.ownsRow w.heap.size 9 1 v (namesL p).length ((namesL p).map encS) ∧ Below w.heap.size w w'
theorem drop1 (p : ByteArray) : (p.extract 1 p.size).data.toList = p.data.toList.drop 1:=Lib.extract_to_end p 1
theorem owns_low {w : World} {B B' n : Nat} {t : TypeId} {v : Value} {xs : List Value} (h : w.ownsRow B t 1 v n xs) (hB : B' ≤ B) : w.ownsRow B' t 1 v n xs:=by
 obtain ⟨h1,h2⟩:=h
 refine ⟨h1,?_⟩
 rcases h2 with h2 | ⟨g,cap,cur,hv,hg,r⟩
 ·exact .inl h2
 ·exact .inr ⟨g,cap,cur,hv,Nat.le_trans hB hg,r⟩
theorem size_pos (p : ByteArray) (hv : validB p.data.toList = true) : (1 : Int) ≤ (p.size : Int):=by
 have : p.data.toList.length = p.size:=rfl
 cases e : p.data.toList with
 | nil => rw [e] at hv; cases hv
 | cons c r => rw [e] at this; simp at this; omega
theorem names_yes (p : ByteArray) (hp : p.size ≤ 140737488355328) (hv : validB p.data.toList = true) (w : World) : Calls Tryz.prog 103 #[.string p] w (NamesPost p.data.toList w):=by
 have HB:=hyq hv
 have h1:=size_pos p hv
 have H2:=hyq (split_any (p.extract 1 p.size) (by rw [show (p.extract 1 p.size).size = (p.extract 1 p.size).data.toList.length from rfl,drop1,List.length_drop]; have : p.data.toList.length = p.size:=rfl; omega) (by rw [drop1]; have:=(valid_names _ hv).1; exact Nat.le_trans this (by omega)))
 clear hv
 go_enter Tryz.func103,Tryz.ntmps103
 go_wp2_with (first | (go_at_call 93; refine (valid_is p hp _ HB.out _).mono ?_; rintro e w1 ⟨rfl,hb⟩) | (go_at_call 119; refine (H2.out _).mono ?_; rintro e w2 ⟨v,rfl,hv,hb2⟩))
 go_ret2
 rw [drop1] at hv
 exact ⟨v,rfl,owns_low hv hb.size,hb.trans (hb2.mono hb.size)⟩
end Go.Proofs.YtigopecainocgaaGreatDoor
namespace Go.Proofs.YtigopecainocgaaGreatDoor
open Go.RowKit Go.Shelf
theorem last_of (p : ByteArray) (a x : Str) (e : p.data.toList = a ++ 47 :: x) (hx : 47 ∉ x) : Lib.lastIndexByte p 47 = (a.length : Int):=by
 have hsz : p.size = a.length + (x.length + 1):=by
  have : p.data.toList.length = p.size:=rfl
  rw [← this,e]; simp
 have hg : ∀ j,j < p.size → (p.data[j]!) = (a ++ 47 :: x)[j]!:=by
  intro j hj
  have h2 : j < p.data.size:=hj
  rw [getElem!_pos p.data j h2,← Array.getElem_toList h2]
  simp only [e]
  rw [getElem!_pos]
 have hm : p.data[a.length]! = 47:=by
  rw [hg _ (by omega),List.getElem!_eq_getElem?_getD]
  simp
 rcases Lib.lastIndexByte_spec p 47 with ⟨_,h2⟩ | ⟨i,h1,h2,h3,h4⟩
 ·exact absurd (by rw [hm]; rfl) (h2 a.length (by omega))
 ·rw [h2]
  rcases Nat.lt_trichotomy i a.length with h | h | h
  ·exact absurd (by rw [hm]; rfl) (h4 a.length h (by omega))
  ·rw [h]
  ·exfalso
   rw [hg i h1,List.getElem!_eq_getElem?_getD,List.getElem?_append_right (by omega)] at h3
   obtain ⟨d,hd⟩ : ∃ d,i - a.length = d + 1:=⟨i - a.length - 1,by omega⟩
   rw [hd,List.getElem?_cons_succ] at h3
   have hd2 : d < x.length:=by omega
   rw [List.getElem?_eq_getElem hd2] at h3
   simp only [Option.getD_some] at h3
   apply hx
   have : x[d] = 47:=by
    apply UInt8.toNat_inj.1
    show x[d].toNat = 47
    omega
   rw [← this]
   exact List.getElem_mem hd2
theorem cutlast_no (p : ByteArray) (hp : p.size ≤ 140737488355328) (hv : validB p.data.toList = false) (w : World) : Calls Tryz.prog 84 #[.string p] w fun e w' => e = .returned (.tuple #[.string ⟨#[]⟩,.string ⟨#[]⟩]) ∧ Below w.heap.size w w':=by
 have HB:=hyq hv
 clear hv
 go_enter Tryz.func84,Tryz.ntmps84
 go_wp2_with (go_at_call 93; refine (valid_is p hp _ HB.out _).mono ?_; rintro e w' ⟨rfl,hb⟩)
 go_ret2
 exact ⟨rfl,hb⟩
theorem lastbyte_at (p : ByteArray) (hp : p.size ≤ 140737488355328) (k : Nat) (hk : Lib.lastIndexByte p 47 = (k : Int)) (w : World) : Calls Tryz.prog 100 #[.string p,.int .u8 47] w fun e w' => e = .returned (.int .i64 (k : Int)) ∧ w = w' :=
 (Tryz.strings_LastIndexByte p 47 (by omega) w).mono fun _ _ ⟨he,hw⟩ => ⟨by rw [he,hk],hw.symm⟩
theorem cutlast_zero (p : ByteArray) (hp : p.size ≤ 140737488355328) (hv : validB p.data.toList = true) (hk : Lib.lastIndexByte p 47 = 0) (w : World) :
  Calls Tryz.prog 84 #[.string p] w fun e w' => e = .returned (.tuple #[.string (p.extract 0 1),.string (p.extract 1 p.size)]) ∧ Below w.heap.size w w':=by
 have HB:=hyq hv
 have HK:=hyq hk
 have h1:=size_pos p hv
 clear hv hk
 go_enter Tryz.func84,Tryz.ntmps84
 go_wp2_with (first | (go_at_call 93; refine (valid_is p hp _ HB.out _).mono ?_; rintro e w' ⟨rfl,hb⟩) | (go_at_call 100; refine (lastbyte_at p hp 0 HK.out _).mono ?_; rintro e w' ⟨rfl,rfl⟩))
 go_region
 go_wp2
 go_ret2
 exact ⟨rfl,hb.drew⟩
theorem cutlast_pos (p : ByteArray) (hp : p.size ≤ 140737488355328) (hv : validB p.data.toList = true) (k : Nat) (h0 : 1 ≤ k) (hks : k < p.size) (hk : Lib.lastIndexByte p 47 = (k : Int)) (w : World) :
  Calls Tryz.prog 84 #[.string p] w fun e w' => e = .returned (.tuple #[.string (p.extract 0 k),.string (p.extract (k + 1) p.size)]) ∧ Below w.heap.size w w':=by
 have HB:=hyq hv
 have HK:=hyq hk
 have c1 : (1 : Int) ≤ ↑k:=by omega
 have c2 : (↑k : Int) ≤ ↑p.size:=by omega
 have c3 : (0 : Int) ≤ ↑k + 1:=by omega
 have c4 : (↑k + 1 : Int) ≤ ↑p.size:=by omega
 have c5 : IntKind.i64.wrap (↑k + 1) = (↑k + 1 : Int):=IntWalk.i64_in _ (by omega)
 have c6 : ((k : Int) + 1).toNat = k + 1:=by omega
 have c7 : max (1 : Int) (k : Int) = k:=by omega
 have c8 : ¬ ((k : Int) < 1):=by omega
 clear hv hk
 go_enter Tryz.func84,Tryz.ntmps84
 go_wp2_with (first | (go_at_call 93; refine (valid_is p hp _ HB.out _).mono ?_; rintro e w' ⟨rfl,hb⟩) | (go_at_call 100; refine (lastbyte_at p hp k HK.out _).mono ?_; rintro e w' ⟨rfl,rfl⟩))
 go_region
 go_wp2
 go_ret2
 exact ⟨rfl,hb.drew⟩
end Go.Proofs.YtigopecainocgaaGreatDoor
namespace Go.Proofs.YtigopecainocgaaGreatDoor
open Go.RowKit Go.Shelf
theorem tup2 {a a' b b' : ByteArray} (h1 : a = a') (h2 : b = b') : Ending.returned (.tuple #[.string a,.string b]) = .returned (.tuple #[.string a',.string b']):=by rw [h1,h2]
theorem ext_to (p : ByteArray) (k : Nat) : (p.extract 0 k).data.toList = p.data.toList.take k:=by rw [Lib.extract_data,List.drop_zero]; rfl
theorem cutlast_any (p : ByteArray) (hp : p.size ≤ 140737488355328) (w : World) :
  Calls Tryz.prog 84 #[.string p] w fun e w' => e = .returned (.tuple #[.string ⟨(upL p.data.toList).toArray⟩,.string ⟨(baseL p.data.toList).toArray⟩]) ∧ Below w.heap.size w w':=by
 by_cases hv : validB p.data.toList = true
 ·by_cases hr : p.data.toList = [47]
  ·have hk:=last_of p [] [] hr (by simp)
   rw [hr,up_root,base_root]
   refine (cutlast_zero p hp hv hk w).mono fun _ _ ⟨he,hb⟩ => ⟨?_,hb⟩
   rw [he]
   exact tup2 (ba_eq _ _ (by rw [ext_to,hr]; rfl)) (ba_eq _ _ (by rw [drop1,hr]; rfl))
  ·obtain ⟨li,x,hn,hpe,hx,hli,hx47⟩:=valid_last _ hv hr
   have hk:=last_of p (flat li) x hpe hx47
   have hsz : p.size = (flat li).length + (x.length + 1):=by
    have : p.data.toList.length = p.size:=rfl
    rw [← this,hpe]; simp
   rw [up_last _ _ li x hv hn rfl,base_last _ li x hv hn]
   have hdr : p.data.toList.drop ((flat li).length + 1) = x:=by
    rw [hpe,← List.drop_drop,List.drop_left]; rfl
   by_cases hl : li = []
   ·subst hl
    rw [if_pos rfl]
    refine (cutlast_zero p hp hv hk w).mono fun _ _ ⟨he,hb⟩ => ⟨?_,hb⟩
    rw [he]
    refine tup2 (ba_eq _ _ ?_) (ba_eq _ _ ?_)
    ·rw [ext_to,hpe]; rfl
    ·rw [drop1]; exact hdr
   ·rw [if_neg hl]
    have h1 : 1 ≤ (flat li).length:=by
     have : (flat li).length ≠ 0:=fun e => hl ((flat_zero li).1 e)
     omega
    refine (cutlast_pos p hp hv (flat li).length h1 (by omega) hk w).mono fun _ _ ⟨he,hb⟩ => ⟨?_,hb⟩
    rw [he]
    refine tup2 (ba_eq _ _ ?_) (ba_eq _ _ ?_)
    ·rw [ext_to,hpe,List.take_left]
    ·rw [Lib.extract_to_end]; exact hdr
 ·have hv' : validB p.data.toList = false:=Bool.eq_false_iff.2 hv
  rw [up_bad _ hv',base_bad _ hv']
  exact cutlast_no p hp hv' w
theorem up_any (p : ByteArray) (hp : p.size ≤ 140737488355328) (w : World) : Calls Tryz.prog 61 #[.string p] w fun e w' => e = .returned (.string ⟨(upL p.data.toList).toArray⟩) ∧ Below w.heap.size w w':=by
 go_enter Tryz.func61,Tryz.ntmps61
 go_wp2_with (go_at_call 84; refine (cutlast_any p hp _).mono ?_; rintro e w' ⟨rfl,hb⟩)
 go_ret
 exact ⟨rfl,hb⟩
/-! ### behind -/
theorem cutp_hit (p d : ByteArray) (h : Lib.hasPrefix p.data.toList d.data.toList = true) (rest : Str) (e : p.data.toList = d.data.toList ++ rest) (w : World) :
  Calls Tryz.prog 109 #[.string p,.string d] w fun e w' => e = .returned (.tuple #[.string ⟨rest.toArray⟩,.bool true]) ∧ w = w' :=
 (Tryz.strings_CutPrefix p d w).mono fun _ _ ⟨he,hw⟩ => ⟨by
  rw [he,h,Lib.trimPrefix,if_pos h]
  congr 3
  rw [e,List.drop_left],hw.symm⟩
theorem cutp_miss (p d : ByteArray) (h : Lib.hasPrefix p.data.toList d.data.toList = false) (w : World) :
  Calls Tryz.prog 109 #[.string p,.string d] w fun e w' => e = .returned (.tuple #[.string p,.bool false]) ∧ w = w' :=
 (Tryz.strings_CutPrefix p d w).mono fun _ _ ⟨he,hw⟩ => ⟨by
  rw [he,h,Lib.trimPrefix,if_neg (by simp [h])],hw.symm⟩
theorem trimp_slash (r : Str) (w : World) : Calls Tryz.prog 118 #[.string ⟨(47 :: r).toArray⟩,.string ⟨#[47]⟩] w fun e w' => e = .returned (.string ⟨r.toArray⟩) ∧ w = w' :=
 (Tryz.strings_TrimPrefix ⟨(47 :: r).toArray⟩ ⟨#[47]⟩ w).mono fun _ _ ⟨he,hw⟩ => ⟨he,hw.symm⟩
theorem trimp_nil (w : World) : Calls Tryz.prog 118 #[.string ⟨#[]⟩,.string ⟨#[47]⟩] w fun e w' => e = .returned (.string ⟨#[]⟩) ∧ w = w' :=
 (Tryz.strings_TrimPrefix ⟨#[]⟩ ⟨#[47]⟩ w).mono fun _ _ ⟨he,hw⟩ => ⟨he,hw.symm⟩
def BehindNo (w : World) (e : Ending) (w' : World) : Prop:=e = .returned (.tuple #[.string ⟨#[]⟩,.bool false]) ∧ Below w.heap.size w w'
theorem behind_bad1 (p d : ByteArray) (hp : p.size ≤ 140737488355328) (hv : validB p.data.toList = false) (w : World) : Calls Tryz.prog 102 #[.string p,.string d] w (BehindNo w):=by
 have HB:=hyq hv
 clear hv
 go_enter Tryz.func102,Tryz.ntmps102
 go_wp2_with (go_at_call 93; refine (valid_is p hp _ HB.out _).mono ?_; rintro e w' ⟨rfl,hb⟩)
 go_ret2
 exact ⟨rfl,hb⟩
theorem behind_bad2 (p d : ByteArray) (hp : p.size ≤ 140737488355328) (hd : d.size ≤ 140737488355328) (hv : validB p.data.toList = true) (hv2 : validB d.data.toList = false) (w : World) : Calls Tryz.prog 102 #[.string p,.string d] w (BehindNo w):=by
 have HB:=hyq hv
 have HD:=hyq hv2
 clear hv hv2
 go_enter Tryz.func102,Tryz.ntmps102
 go_wp2_with fail
 refine (valid_is p hp _ HB.out _).mono ?_
 rintro e w1 ⟨rfl,hb⟩
 go_wp2_with fail
 refine (valid_is d hd _ HD.out _).mono ?_
 rintro e w2 ⟨rfl,hb2⟩
 go_wp2_with fail
 go_ret2
 exact ⟨rfl,hb.trans (hb2.mono hb.size)⟩
def BehindYes (p d : Str) (w : World) (e : Ending) (w' : World) : Prop:=∃ t : Str,e = .returned (.tuple #[.string ⟨t.toArray⟩,.bool true]) ∧ splitL t = (namesL p).drop (namesL d).length ∧ t.length ≤ p.length ∧ Below w.heap.size w w'
theorem behind_root (p : ByteArray) (hp : p.size ≤ 140737488355328) (hv : validB p.data.toList = true) (w : World) : Calls Tryz.prog 102 #[.string p,.string ⟨#[47]⟩] w (BehindYes p.data.toList [47] w):=by
 have HB:=hyq hv
 have HD:=hyq validB_root
 have f1 : ((⟨#[47]⟩ : ByteArray).toList == [47]) = true:=by rw [Lib.toList_data]; rfl
 have h1:=size_pos p hv
 clear hv
 go_enter Tryz.func102,Tryz.ntmps102
 go_wp2_with fail
 refine (valid_is p hp _ HB.out _).mono ?_
 rintro e w1 ⟨rfl,hb⟩
 go_wp2_with fail
 refine (valid_is ⟨#[47]⟩ (by simp [ByteArray.size]) _ HD.out _).mono ?_
 rintro e w2 ⟨rfl,hb2⟩
 go_wp2_with fail
 go_ret2
 refine ⟨p.data.toList.drop 1,?_,rfl,by rw [List.length_drop]; omega,hb.trans (hb2.mono hb.size)⟩
 rw [ba_eq (p.extract 1 p.size) _ (drop1 p)]
 rfl
theorem behind_miss (p d : ByteArray) (hp : p.size ≤ 140737488355328) (hd : d.size ≤ 140737488355328) (hv : validB p.data.toList = true) (hv2 : validB d.data.toList = true) (hr : d.data.toList ≠ [47])
  (hm : Lib.hasPrefix p.data.toList d.data.toList = false) (w : World) : Calls Tryz.prog 102 #[.string p,.string d] w (BehindNo w):=by
 have HB:=hyq hv
 have HD:=hyq hv2
 have HM:=hyq hm
 have f1 : (d.toList == [47]) = false:=by rw [Lib.toList_data]; simp [hr]
 clear hv hv2 hm hr
 go_enter Tryz.func102,Tryz.ntmps102
 go_wp2_with fail
 refine (valid_is p hp _ HB.out _).mono ?_
 rintro e w1 ⟨rfl,hb⟩
 go_wp2_with fail
 refine (valid_is d hd _ HD.out _).mono ?_
 rintro e w2 ⟨rfl,hb2⟩
 go_wp2_with fail
 refine (cutp_miss p d HM.out _).mono ?_
 rintro e w3 ⟨rfl,rfl⟩
 go_wp2_with fail
 go_ret2
 exact ⟨rfl,hb.trans (hb2.mono hb.size)⟩
theorem behind_half (p d : ByteArray) (hp : p.size ≤ 140737488355328) (hd : d.size ≤ 140737488355328) (hv : validB p.data.toList = true) (hv2 : validB d.data.toList = true) (hr : d.data.toList ≠ [47])
  (hm : Lib.hasPrefix p.data.toList d.data.toList = true) (c : UInt8) (r : Str) (e : p.data.toList = d.data.toList ++ c :: r) (hc : c ≠ 47) (w : World) : Calls Tryz.prog 102 #[.string p,.string d] w (BehindNo w):=by
 have HB:=hyq hv
 have HD:=hyq hv2
 have HM:=hyq hm
 have HE:=hyq e
 have f1 : (d.toList == [47]) = false:=by rw [Lib.toList_data]; simp [hr]
 have hz : 0 < (⟨(c :: r).toArray⟩ : ByteArray).size:=by simp [ByteArray.size]
 have f2 : ((((⟨(c :: r).toArray⟩ : ByteArray)[0]'hz).toNat : Int) != 47) = true:=by
  show ((c.toNat : Int) != 47) = true
  rw [bne_iff_ne]
  intro h
  apply hc
  apply UInt8.toNat_inj.1
  show c.toNat = 47
  omega
 clear hv hv2 hm hr e hc
 go_enter Tryz.func102,Tryz.ntmps102
 go_wp2_with fail
 refine (valid_is p hp _ HB.out _).mono ?_
 rintro e w1 ⟨rfl,hb⟩
 go_wp2_with fail
 refine (valid_is d hd _ HD.out _).mono ?_
 rintro e w2 ⟨rfl,hb2⟩
 go_wp2_with fail
 refine (cutp_hit p d HM.out _ HE.out _).mono ?_
 rintro e w3 ⟨rfl,rfl⟩
 go_wp2_with fail
 go_ret2
 exact ⟨rfl,hb.trans (hb2.mono hb.size)⟩
theorem behind_slash (p d : ByteArray) (hp : p.size ≤ 140737488355328) (hd : d.size ≤ 140737488355328) (hv : validB p.data.toList = true) (hv2 : validB d.data.toList = true) (hr : d.data.toList ≠ [47])
  (hm : Lib.hasPrefix p.data.toList d.data.toList = true) (r : Str) (e : p.data.toList = d.data.toList ++ 47 :: r) (w : World) : Calls Tryz.prog 102 #[.string p,.string d] w fun e w' => e = .returned (.tuple #[.string ⟨r.toArray⟩,.bool true]) ∧ Below w.heap.size w w':=by
 have HB:=hyq hv
 have HD:=hyq hv2
 have HM:=hyq hm
 have HE:=hyq e
 have f1 : (d.toList == [47]) = false:=by rw [Lib.toList_data]; simp [hr]
 clear hv hv2 hm hr e
 go_enter Tryz.func102,Tryz.ntmps102
 go_wp2_with fail
 refine (valid_is p hp _ HB.out _).mono ?_
 rintro e w1 ⟨rfl,hb⟩
 go_wp2_with fail
 refine (valid_is d hd _ HD.out _).mono ?_
 rintro e w2 ⟨rfl,hb2⟩
 go_wp2_with fail
 refine (cutp_hit p d HM.out _ HE.out _).mono ?_
 rintro e w3 ⟨rfl,rfl⟩
 go_wp2_with (go_at_call 118; refine (trimp_slash r _).mono ?_; rintro e w3 ⟨rfl,rfl⟩)
 go_ret2
 exact ⟨rfl,hb.trans (hb2.mono hb.size)⟩
theorem behind_same (p d : ByteArray) (hp : p.size ≤ 140737488355328) (hd : d.size ≤ 140737488355328) (hv : validB p.data.toList = true) (hv2 : validB d.data.toList = true) (hr : d.data.toList ≠ [47])
  (hm : Lib.hasPrefix p.data.toList d.data.toList = true) (e : p.data.toList = d.data.toList ++ []) (w : World) : Calls Tryz.prog 102 #[.string p,.string d] w fun e w' => e = .returned (.tuple #[.string ⟨#[]⟩,.bool true]) ∧ Below w.heap.size w w':=by
 have HB:=hyq hv
 have HD:=hyq hv2
 have HM:=hyq hm
 have HE:=hyq e
 have f1 : (d.toList == [47]) = false:=by rw [Lib.toList_data]; simp [hr]
 clear hv hv2 hm hr e
 go_enter Tryz.func102,Tryz.ntmps102
 go_wp2_with fail
 refine (valid_is p hp _ HB.out _).mono ?_
 rintro e w1 ⟨rfl,hb⟩
 go_wp2_with fail
 refine (valid_is d hd _ HD.out _).mono ?_
 rintro e w2 ⟨rfl,hb2⟩
 go_wp2_with fail
 refine (cutp_hit p d HM.out _ HE.out _).mono ?_
 rintro e w3 ⟨rfl,rfl⟩
 go_wp2_with (go_at_call 118; refine (trimp_nil _).mono ?_; rintro e w3 ⟨rfl,rfl⟩)
 go_ret2
 exact ⟨rfl,hb.trans (hb2.mono hb.size)⟩
theorem underB_no1 (p d : Str) (h : validB p = false) : underB p d = false:=by simp [underB,h]
theorem underB_no2 (p d : Str) (h : validB d = false) : underB p d = false:=by simp [underB,h]
theorem underB_is (p d : Str) (hp : validB p = true) (hd : validB d = true) : underB p d = true ↔ namesL d <+: namesL p:=by
 simp [underB,hp,hd,List.isPrefixOf_iff_prefix]
theorem behind_any (p d : ByteArray) (hp : p.size ≤ 140737488355328) (hd : d.size ≤ 140737488355328) (w : World) :
  (underB p.data.toList d.data.toList = true → Calls Tryz.prog 102 #[.string p,.string d] w (BehindYes p.data.toList d.data.toList w)) ∧
  (underB p.data.toList d.data.toList = false → Calls Tryz.prog 102 #[.string p,.string d] w (BehindNo w)):=by
 by_cases hv : validB p.data.toList = true
 ·by_cases hv2 : validB d.data.toList = true
  ·by_cases hr : d.data.toList = [47]
   ·have e : d = ⟨#[47]⟩:=ba_eq d [47] hr
    subst e
    refine ⟨fun _ => behind_root p hp hv w,fun h => ?_⟩
    have:=(underB_is p.data.toList [47] hv validB_root).2 (by show [] <+: _; exact List.nil_prefix)
    have h' : underB p.data.toList [47] = false:=h
    rw [this] at h'; cases h'
   ·by_cases hm : Lib.hasPrefix p.data.toList d.data.toList = true
    ·have hm':=hm
     unfold Lib.hasPrefix at hm'
     rw [List.isPrefixOf_iff_prefix] at hm'
     obtain ⟨rest,e⟩:=hm'
     have e':=e.symm
     cases rest with
     | nil =>
      have hy:=behind_yes _ _ [] hv hv2 hr e' (.inl rfl)
      refine ⟨fun _ => (behind_same p d hp hd hv hv2 hr hm e' w).mono fun _ _ ⟨he,hb⟩ => ⟨[],he,hy.2,Nat.zero_le _,hb⟩,fun h => ?_⟩
      rw [(underB_is _ _ hv hv2).2 hy.1] at h; cases h
     | cons c r =>
      by_cases hc : c = 47
      ·subst hc
       have hy:=behind_yes _ _ (47 :: r) hv hv2 hr e' (.inr rfl)
       refine ⟨fun _ => (behind_slash p d hp hd hv hv2 hr hm r e' w).mono fun _ _ ⟨he,hb⟩ => ⟨r,he,hy.2,by rw [e']; simp; omega,hb⟩,fun h => ?_⟩
       rw [(underB_is _ _ hv hv2).2 hy.1] at h; cases h
      ·refine ⟨fun h => ?_,fun _ => behind_half p d hp hd hv hv2 hr hm c r e' hc w⟩
       obtain ⟨rest',e2,h2⟩:=behind_no _ _ hv hv2 hr ((underB_is _ _ hv hv2).1 h)
       rw [e'] at e2
       have:=List.append_cancel_left e2
       subst this
       rcases h2 with h2 | h2
       ·cases h2
       ·simp at h2; exact absurd h2 hc
    ·have hm2 : Lib.hasPrefix p.data.toList d.data.toList = false:=Bool.eq_false_iff.2 hm
     refine ⟨fun h => ?_,fun _ => behind_miss p d hp hd hv hv2 hr hm2 w⟩
     obtain ⟨rest',e2,_⟩:=behind_no _ _ hv hv2 hr ((underB_is _ _ hv hv2).1 h)
     exfalso
     apply hm
     unfold Lib.hasPrefix
     rw [List.isPrefixOf_iff_prefix]
     exact ⟨rest',e2.symm⟩
  ·have hv2' : validB d.data.toList = false:=Bool.eq_false_iff.2 hv2
   exact ⟨(fun h => by rw [underB_no2 _ _ hv2'] at h; cases h),fun _ => behind_bad2 p d hp hd hv hv2' w⟩
 ·have hv' : validB p.data.toList = false:=Bool.eq_false_iff.2 hv
  exact ⟨(fun h => by rw [underB_no1 _ _ hv'] at h; cases h),fun _ => behind_bad1 p d hp hv' w⟩
end Go.Proofs.YtigopecainocgaaGreatDoor
namespace Go.Proofs.YtigopecainocgaaGreatDoor
open Go.RowKit Go.Shelf
theorem under_any (p d : ByteArray) (hp : p.size ≤ 140737488355328) (hd : d.size ≤ 140737488355328) (w : World) : Calls Tryz.prog 89 #[.string p,.string d] w fun e w' => e = .returned (.bool (underB p.data.toList d.data.toList)) ∧ Below w.heap.size w w':=by
 by_cases hu : underB p.data.toList d.data.toList = true
 ·rw [hu]
  have H:=hyq ((behind_any p d hp hd w).1 hu)
  clear hu
  go_enter Tryz.func89,Tryz.ntmps89
  go_wp2_with (go_at_call 102; refine H.out.mono ?_; rintro e w' ⟨t,rfl,ht,htl,hb⟩; clear ht htl)
  go_ret
  exact ⟨rfl,hb⟩
 ·have hu':=Bool.eq_false_iff.2 hu
  rw [hu']
  have H:=hyq ((behind_any p d hp hd w).2 hu')
  clear hu hu'
  go_enter Tryz.func89,Tryz.ntmps89
  go_wp2_with (go_at_call 102; refine H.out.mono ?_; rintro e w' ⟨rfl,hb⟩)
  go_ret
  exact ⟨rfl,hb⟩
def BeneathYes (p d : Str) (w : World) (e : Ending) (w' : World) : Prop:=∃ v,e = .returned (.tuple #[v,.bool true]) ∧ w'.ownsRow w.heap.size 9 1 v ((namesL p).drop (namesL d).length).length (((namesL p).drop (namesL d).length).map encS) ∧ Below w.heap.size w w'
theorem underB_valid (p d : Str) (h : underB p d = true) : validB p = true ∧ validB d = true:=by
 unfold underB at h
 rw [Bool.and_eq_true,Bool.and_eq_true] at h
 exact h.1
theorem beneath_yes (p d : ByteArray) (hp : p.size ≤ 140737488355328) (hd : d.size ≤ 140737488355328) (hu : underB p.data.toList d.data.toList = true) (w : World) : Calls Tryz.prog 105 #[.string p,.string d] w (BeneathYes p.data.toList d.data.toList w):=by
 have H:=hyq ((behind_any p d hp hd w).1 hu)
 have HV:=hyq (underB_valid _ _ hu)
 clear hu
 go_enter Tryz.func105,Tryz.ntmps105
 go_wp2_with fail
 refine H.out.mono ?_
 rintro e w1 ⟨t,rfl,ht,htl,hb⟩
 have hps : p.data.toList.length = p.size:=rfl
 have HS:=hyq (split_any ⟨t.toArray⟩ (show t.length ≤ _ by omega) (show (splitL t).length ≤ 1000 by
  rw [ht,List.length_drop]
  have:=(valid_names _ HV.out.1).1
  omega) w1)
 have HT:=hyq ht
 clear ht htl hps
 go_wp2_with fail
 refine HS.out.mono ?_
 rintro e w2 ⟨v,rfl,hv,hb2⟩
 go_wp2
 go_ret2
 have hv' : w2.ownsRow w1.heap.size 9 1 v (splitL t).length ((splitL t).map encS):=hv
 rw [HT.out] at hv'
 exact ⟨v,rfl,owns_low hv' hb.size,hb.trans (hb2.mono hb.size)⟩
/-! ### The order -/
theorem comp_any (x y : Str) (w : World) : Calls Tryz.prog 113 #[.string ⟨x.toArray⟩,.string ⟨y.toArray⟩] w fun e w' => e = .returned (.int .i64 (Lib.compareBytes x y)) ∧ w = w' :=
 (Tryz.strings_Compare ⟨x.toArray⟩ ⟨y.toArray⟩ w).mono fun _ _ ⟨he,hw⟩ => ⟨he,hw.symm⟩
theorem cmpi_any (x y : Int) (w : World) : Calls Tryz.prog 128 #[.int .i64 x,.int .i64 y] w fun e w' => e = .returned (.int .i64 (Lib.compareInt x y)) ∧ w = w' :=
 (Tryz.cmp_Compare_int x y w).mono fun _ _ ⟨he,hw⟩ => ⟨he,hw.symm⟩
theorem cmpN_ends (a b : Str) (ha : [] ∉ splitL a) (hb : [] ∉ splitL b) (h : a = [] ∨ b = []) : Lib.compareInt (a.length : Int) (b.length : Int) = cmpN (splitL a) (splitL b):=by
 rcases h with rfl | rfl
 ·by_cases hb0 : b = []
  ·subst hb0; rfl
  ·rw [split_step b hb0 hb]
   cases b with
   | nil => exact absurd rfl hb0
   | cons c r =>
    show _ = (-1 : Int)
    unfold Lib.compareInt
    rw [if_pos (by simp)]
 ·by_cases ha0 : a = []
  ·subst ha0; rfl
  ·rw [split_step a ha0 ha]
   cases a with
   | nil => exact absurd rfl ha0
   | cons c r =>
    show _ = (1 : Int)
    unfold Lib.compareInt
    rw [if_neg (by simp; omega),if_pos (by simp)]
theorem step_ok (a : Str) (ha : a ≠ []) (h : [] ∉ splitL a) : [] ∉ splitL (cut1 a).2.1:=by
 rw [split_step a ha h] at h
 exact fun hm => h (List.mem_cons_of_mem _ hm)
theorem cut1_lt (a : Str) (ha : a ≠ []) : (cut1 a).2.1.length < a.length:=by
 by_cases h : (cut1 a).2.2 = true
 ·exact cut1_len a h
 ·have : (cut1 a).2.1 = []:=by
   by_cases hm : 47 ∈ a
   ·rw [cut1_yes a hm] at h; exact absurd rfl h
   ·rw [cut1_no a hm]
  rw [this]
  cases a with
  | nil => exact absurd rfl ha
  | cons c r => simp
def strLen : Value → Nat
 | .string s => s.size
 | _ => 0
theorem cmpnames_any (a0 b0 : ByteArray) (ha0 : a0.size ≤ 140737488355328) (hb0 : b0.size ≤ 140737488355328) (ha : [] ∉ splitL a0.data.toList) (hb : [] ∉ splitL b0.data.toList) (w : World) :
  Calls Tryz.prog 112 #[.string a0,.string b0] w fun e w' => e = .returned (.int .i64 (cmpN (splitL a0.data.toList) (splitL b0.data.toList))) ∧ ∃ m,w' = w.drewN m:=by
 obtain ⟨R,hR⟩ : ∃ R,cmpN (splitL a0.data.toList) (splitL b0.data.toList) = R:=⟨_,rfl⟩
 rw [hR]
 have HR:=hyq hR
 have HA:=hyq ha
 have HB:=hyq hb
 clear hR ha hb
 go_enter Tryz.func112,Tryz.ntmps112
 go_wp2
 go_loopw [0,1] (fun x y wr => ∃ a b : Str,x = .string ⟨a.toArray⟩ ∧ y = .string ⟨b.toArray⟩ ∧ a.length ≤ 140737488355328 ∧ b.length ≤ 140737488355328 ∧ Hid ([] ∉ splitL a) ∧ Hid ([] ∉ splitL b) ∧ Hid (cmpN (splitL a) (splitL b) = R) ∧ ∃ m,wr = w.drewN m) (fun x _ _ => strLen x)
 case atStart => exact ⟨a0.data.toList,b0.data.toList,rfl,rfl,ha0,hb0,HA,HB,HR,0,rfl⟩
 case round =>
  obtain ⟨a,b,rfl,rfl,hal,hbl,HA1,HB1,HR1,m,rfl⟩:=hrel
  by_cases ha : a = []
  ·have HE:=hyq (cmpN_ends a b HA1.out HB1.out (.inl ha))
   subst ha
   go_wp2_with (go_at_call 128; refine (cmpi_any _ _ _).mono ?_; rintro e w' ⟨rfl,rfl⟩)
   go_ret
   exact ⟨ret_int (HE.out.trans HR1.out),m,rfl⟩
  ·have ha1:=isEmpty_no ha
   by_cases hb : b = []
   ·have HE:=hyq (cmpN_ends a b HA1.out HB1.out (.inr hb))
    have HAn:=hyq ha
    clear ha
    subst hb
    go_wp2_with (go_at_call 128; refine (cmpi_any _ _ _).mono ?_; rintro e w' ⟨rfl,rfl⟩)
    go_ret
    exact ⟨ret_int (HE.out.trans HR1.out),m,rfl⟩
   ·have hb1:=isEmpty_no hb
    have HS:=hyq HR1.out
    have H1:=HS.out
    rw [split_step a ha HA1.out,split_step b hb HB1.out,cmpN] at H1
    have hlt:=cut1_lt a ha
    have HA2:=hyq (step_ok a ha HA1.out)
    have HB2:=hyq (step_ok b hb HB1.out)
    clear ha hb
    by_cases hq : (cut1 a).1 = (cut1 b).1
    ·rw [if_pos hq] at H1
     have H2:=hyq H1
     have q1 : ((cut1 a).1 == (cut1 b).1) = true:=by simp [hq]
     have q2 : ((cut1 a).1 != (cut1 b).1) = false:=by simp [hq]
     clear H1 hq
     go_wp2_with fail
     refine (cutl_any a _ hal).mono ?_
     rintro e w1 ⟨rfl,n1,rfl⟩
     go_wp2_with fail
     refine (cutl_any b _ hbl).mono ?_
     rintro e w1 ⟨rfl,n2,rfl⟩
     go_wp2_with fail
     go_roundw
     case rel => exact ⟨_,_,rfl,rfl,cut1_snd_le _ _ hal,cut1_snd_le _ _ hbl,HA2,HB2,H2,_,rfl⟩
     case measure => exact hlt
    ·rw [if_neg hq] at H1
     have H2:=hyq H1
     have q1 : ((cut1 a).1 == (cut1 b).1) = false:=by simp [hq]
     have q2 : ((cut1 a).1 != (cut1 b).1) = true:=by simp [hq]
     clear H1 hq
     go_wp2_with fail
     refine (cutl_any a _ hal).mono ?_
     rintro e w1 ⟨rfl,n1,rfl⟩
     go_wp2_with fail
     refine (cutl_any b _ hbl).mono ?_
     rintro e w1 ⟨rfl,n2,rfl⟩
     go_wp2_with (go_at_call 113; refine (comp_any _ _ _).mono ?_; rintro e w' ⟨rfl,rfl⟩)
     go_ret
     exact ⟨ret_int H2.out,_,rfl⟩
theorem cmp_vv (p q : ByteArray) (hp : p.size ≤ 140737488355328) (hq : q.size ≤ 140737488355328) (v1 : validB p.data.toList = true) (v2 : validB q.data.toList = true) (w : World) :
  Calls Tryz.prog 96 #[.string p,.string q] w fun e w' => e = .returned (.int .i64 (cmpN (namesL p.data.toList) (namesL q.data.toList))) ∧ Below w.heap.size w w':=by
 have h1:=size_pos p v1
 have h2:=size_pos q v2
 have hz1 : (p.extract 1 p.size).size ≤ p.size:=by
  rw [show (p.extract 1 p.size).size = (p.extract 1 p.size).data.toList.length from rfl,drop1,List.length_drop]
  have : p.data.toList.length = p.size:=rfl
  omega
 have hz2 : (q.extract 1 q.size).size ≤ q.size:=by
  rw [show (q.extract 1 q.size).size = (q.extract 1 q.size).data.toList.length from rfl,drop1,List.length_drop]
  have : q.data.toList.length = q.size:=rfl
  omega
 have HC : ∀ w,Calls Tryz.prog 112 #[.string (p.extract 1 p.size),.string (q.extract 1 q.size)] w fun e w' => e = .returned (.int .i64 (cmpN (namesL p.data.toList) (namesL q.data.toList))) ∧ ∃ m,w' = w.drewN m:=by
  intro w
  have:=cmpnames_any (p.extract 1 p.size) (q.extract 1 q.size) (by omega) (by omega) (by rw [drop1]; exact noEmpty _ v1) (by rw [drop1]; exact noEmpty _ v2) w
  rw [drop1,drop1] at this
  exact this
 have HC':=hyq HC
 have H1:=hyq v1
 have H2:=hyq v2
 clear HC v1 v2 hz1 hz2
 go_enter Tryz.func96,Tryz.ntmps96
 go_wp2_with fail
 refine (valid_is p hp _ H1.out _).mono ?_
 rintro e w1 ⟨rfl,hb⟩
 go_wp2_with fail
 refine (valid_is q hq _ H2.out _).mono ?_
 rintro e w2 ⟨rfl,hb2⟩
 go_wp2_with fail
 go_quiet ((go_at_call 112; exact Calls.quiet_of (HC'.out _)))
 go_wp2
 go_ret
 exact ⟨rfl,below_drewN (hb.trans (hb2.mono hb.size)) _⟩
theorem cmp_vn (p q : ByteArray) (hp : p.size ≤ 140737488355328) (hq : q.size ≤ 140737488355328) (v1 : validB p.data.toList = true) (v2 : validB q.data.toList = false) (w : World) :
  Calls Tryz.prog 96 #[.string p,.string q] w fun e w' => e = .returned (.int .i64 1) ∧ Below w.heap.size w w':=by
 have H1:=hyq v1
 have H2:=hyq v2
 clear v1 v2
 go_enter Tryz.func96,Tryz.ntmps96
 go_wp2_with fail
 refine (valid_is p hp _ H1.out _).mono ?_
 rintro e w1 ⟨rfl,hb⟩
 go_wp2_with fail
 refine (valid_is q hq _ H2.out _).mono ?_
 rintro e w2 ⟨rfl,hb2⟩
 go_wp2_with fail
 go_ret
 exact ⟨rfl,hb.trans (hb2.mono hb.size)⟩
theorem cmp_nv (p q : ByteArray) (hp : p.size ≤ 140737488355328) (hq : q.size ≤ 140737488355328) (v1 : validB p.data.toList = false) (v2 : validB q.data.toList = true) (w : World) :
  Calls Tryz.prog 96 #[.string p,.string q] w fun e w' => e = .returned (.int .i64 (-1)) ∧ Below w.heap.size w w':=by
 have H1:=hyq v1
 have H2:=hyq v2
 clear v1 v2
 go_enter Tryz.func96,Tryz.ntmps96
 go_wp2_with fail
 refine (valid_is p hp _ H1.out _).mono ?_
 rintro e w1 ⟨rfl,hb⟩
 go_wp2_with fail
 refine (valid_is q hq _ H2.out _).mono ?_
 rintro e w2 ⟨rfl,hb2⟩
 go_wp2_with fail
 go_ret
 exact ⟨rfl,hb.trans (hb2.mono hb.size)⟩
theorem cmp_nn (p q : ByteArray) (hp : p.size ≤ 140737488355328) (hq : q.size ≤ 140737488355328) (v1 : validB p.data.toList = false) (v2 : validB q.data.toList = false) (w : World) :
  Calls Tryz.prog 96 #[.string p,.string q] w fun e w' => e = .returned (.int .i64 (Lib.compareBytes p.data.toList q.data.toList)) ∧ Below w.heap.size w w':=by
 have H1:=hyq v1
 have H2:=hyq v2
 clear v1 v2
 go_enter Tryz.func96,Tryz.ntmps96
 go_wp2_with fail
 refine (valid_is p hp _ H1.out _).mono ?_
 rintro e w1 ⟨rfl,hb⟩
 go_wp2_with fail
 refine (valid_is q hq _ H2.out _).mono ?_
 rintro e w2 ⟨rfl,hb2⟩
 go_wp2_with (go_at_call 113; refine (comp_any p.data.toList q.data.toList _).mono ?_; rintro e w' ⟨rfl,rfl⟩)
 go_ret
 exact ⟨rfl,hb.trans (hb2.mono hb.size)⟩
theorem cmp_any (p q : ByteArray) (hp : p.size ≤ 140737488355328) (hq : q.size ≤ 140737488355328) (w : World) :
  Calls Tryz.prog 96 #[.string p,.string q] w fun e w' => e = .returned (.int .i64 (cmpL p.data.toList q.data.toList)) ∧ Below w.heap.size w w':=by
 by_cases v1 : validB p.data.toList = true
 ·by_cases v2 : validB q.data.toList = true
  ·rw [cmpL,if_pos v1,if_pos v2]; exact cmp_vv p q hp hq v1 v2 w
  ·rw [cmpL,if_pos v1,if_neg v2]; exact cmp_vn p q hp hq v1 (Bool.eq_false_iff.2 v2) w
 ·by_cases v2 : validB q.data.toList = true
  ·rw [cmpL,if_neg v1,if_pos v2]; exact cmp_nv p q hp hq (Bool.eq_false_iff.2 v1) v2 w
  ·rw [cmpL,if_neg v1,if_neg v2]; exact cmp_nn p q hp hq (Bool.eq_false_iff.2 v1) (Bool.eq_false_iff.2 v2) w
end Go.Proofs.YtigopecainocgaaGreatDoor
namespace Go.Proofs.YtigopecainocgaaGreatDoor
open Go.RowKit Go.Shelf
theorem strs_at (l : List Str) (j : Nat) (x : ByteArray) (h : (l.map fun s => (⟨s.toArray⟩ : ByteArray))[j]? = some x) : (l.map encS)[j]? = some (.string x):=by
 rw [List.getElem?_map] at h ⊢
 cases e : l[j]? with
 | none => rw [e] at h; cases h
 | some s => rw [e] at h; cases h; rfl
theorem sjoin_own (l : List Str) (base : Nat) (v : Value) (w : World) (hown : w.ownsRow base 9 1 v l.length (l.map encS)) (hn : l.length ≤ 140737488355328) (hlen : (Lib.join l [47]).length ≤ 140737488355328) :
  Calls Tryz.prog 133 #[v,.string ⟨#[47]⟩] w fun e w' => e = .returned (.string ⟨(Lib.join l [47]).toArray⟩) ∧ Below w.heap.size w w':=by
 have hmap : (l.map fun s => (⟨s.toArray⟩ : ByteArray)).map (·.data.toList) = l:=by
  rw [List.map_map]; exact (List.map_congr_left (fun _ _ => rfl)).trans (List.map_id l)
 by_cases h0 : l = []
 ·subst h0
  rcases hown.2 with ⟨rfl,_⟩ | ⟨g,cap,cur,rfl,_⟩
  ·exact (Tryz.strings_Join_none none 0 ⟨#[47]⟩ w).mono fun _ _ ⟨he,hw⟩ => ⟨he,hw ▸ Below.refl _ _⟩
  ·exact (Tryz.strings_Join_none (some ⟨g,0,none⟩) cap ⟨#[47]⟩ w).mono fun _ _ ⟨he,hw⟩ => ⟨he,hw ▸ Below.refl _ _⟩
 ·have hpos : 0 < l.length:=List.length_pos_iff.2 h0
  obtain ⟨g,cap,rfl,_,hlt⟩:=hown.form hpos
  have hc:=hown.cells (g:=g) rfl
  have hcap : l.length ≤ cap:=by
   rcases hown.2 with ⟨h,_⟩ | ⟨g',cap',cur,hv,_,_,hnc,_⟩
   ·cases h
   ·injection hv with _ _ h3; omega
  have:=Tryz.strings_Join g 0 cap (l.map fun s => (⟨s.toArray⟩ : ByteArray)) ⟨#[47]⟩ w
   (fun j x hx => by
    have h1:=hc j _ (strs_at l j x hx)
    have e : (⟨g,0,none⟩ : Addr).add j = ⟨g,0 + j,none⟩:=by
     unfold Addr.add
     by_cases hj : j = 0
     ·simp [hj]
     ·simp [hj]
    rw [e] at h1
    exact h1) hlt (by simpa using hn) (by simpa using hcap) (by rw [hmap]; exact hlen)
  rw [hmap,List.length_map] at this
  exact this
theorem join_any (l : List Str) (base : Nat) (v : Value) (w : World) (hown : w.ownsRow base 9 1 v l.length (l.map encS)) (hn : l.length ≤ 140737488355328) (hlen : (Lib.join l [47]).length ≤ 1000000) :
  Calls Tryz.prog 122 #[v] w fun e w' => e = .returned (.string ⟨(joinL l).toArray⟩) ∧ Below w.heap.size w w':=by
 have HO:=hyq hown
 clear hown
 go_enter Tryz.func122,Tryz.ntmps122
 go_wp2_with (go_at_call 133; refine (sjoin_own l base v _ HO.out hn (by omega)).mono ?_; rintro e w' ⟨rfl,hb⟩)
 go_ret
 exact ⟨rfl,hb⟩
/-! ### A path that goes on,behind a pointer -/
def Way (w : World) (base Bw : Nat) (l : List Str) : Prop:=∃ v,Boxed w Bw 142 v ∧ w.ownsRow base 9 1 v l.length (l.map encS)
def KeepBox (Bw : Nat) (w w' : World) : Prop:=∀ k t u,k ≠ Bw → t ≠ 9 → Boxed w k t u → Boxed w' k t u
structure Step (base Bw : Nat) (w w' : World) : Prop where
 below : Below base w w'
 others : KeepsOthers w w'
 box : KeepBox Bw w w'
theorem keeps_below {W W' : World} (h : Below W.heap.size W W') : KeepsOthers W W' :=
 ⟨h.size,fun k _ hk _ => (h.block k (Array.getElem?_eq_some_iff.1 hk).1).trans hk⟩
theorem Step.of_below {base Bw : Nat} {w w' : World} (h : Below w.heap.size w w') (hb : base ≤ w.heap.size) : Step base Bw w w' :=
 ⟨h.mono hb,keeps_below h,fun _ _ _ _ _ hk => boxed_below hk h hk.lt⟩
theorem Step.trans {base Bw : Nat} {a b c : World} (h : Step base Bw a b) (k : Step base Bw b c) : Step base Bw a c :=
 ⟨h.below.trans k.below,h.others.trans k.others,fun i t u hi ht hb => k.box i t u hi ht (h.box i t u hi ht hb)⟩
theorem Step.refl (base Bw : Nat) (w : World) : Step base Bw w w:=⟨Below.refl _ _,KeepsOthers.refl _,fun _ _ _ _ _ h => h⟩
theorem owns_below {w w' : World} {base n : Nat} {v : Value} {t : TypeId} {xs : List Value} (h : w.ownsRow base t 1 v n xs) (hb : Below w.heap.size w w') : w'.ownsRow base t 1 v n xs:=by
 obtain ⟨h1,h2⟩:=h
 refine ⟨h1,?_⟩
 rcases h2 with h2 | ⟨g,cap,cur,hv,hg,hh,r⟩
 ·exact .inl h2
 ·exact .inr ⟨g,cap,cur,hv,hg,(hb.block g (Array.getElem?_eq_some_iff.1 hh).1).trans hh,r⟩
theorem Way.below {w w' : World} {base Bw : Nat} {l : List Str} (h : Way w base Bw l) (hb : Below w.heap.size w w') : Way w' base Bw l:=by
 obtain ⟨v,h1,h2⟩:=h
 exact ⟨v,boxed_below h1 hb h1.lt,owns_below h2 hb⟩
theorem Step.appended {W w1 : World} {base Bw : Nat} {v v' : Value} {k m : Nat} {xs ys : List Value} {tmp : Obj}
  (hv : Boxed W Bw 142 v) (hrow : W.ownsRow base 9 1 v k xs) (hn₀ : base ≤ W.heap.size) (hB : base ≤ Bw)
  (hown' : w1.ownsRow base 9 1 v' m ys) (hgrow : (W.alloc tmp).grownBy w1 v.ownBlock) : Step base Bw W (w1.setCell ⟨Bw,0,none⟩ v'):=by
 obtain ⟨_,_,_,h4,h5⟩:=hv.appended (by decide) hrow hn₀ hB hown' hgrow
 refine ⟨h5,h4,fun i t u hi ht hk => ?_⟩
 have h1 : Boxed w1 i t u:=(hk.alloc tmp).kept hgrow (hk.not_row ht hrow)
 exact h1.other hi _
theorem add_full (base Bw : Nat) (l : List Str) (x : Str) (w : World) (hW : Way w base Bw l) (hl : l.length = 40) :
  Calls Tryz.prog 121 #[.pointer (some ⟨Bw,0,none⟩),.string ⟨x.toArray⟩] w fun e w' => e = .returned (.bool false) ∧ Below w.heap.size w w':=by
 obtain ⟨v,hv,hrow⟩:=hW
 have hc:=hv.cell
 obtain ⟨g,cap,rfl,_,_⟩:=hrow.form (by omega)
 rw [hl] at hc
 clear hv hrow
 go_enter Tryz.func121,Tryz.ntmps121
 go_wp2_with fail
 go_ret
 exact ⟨rfl,Below.refl _ _⟩
theorem own_len {w : World} {base n : Nat} {v : Value} {xs : List Value} (h : w.ownsRow base 9 1 v n xs) : ∃ a cap,v = .slice a n cap:=by
 rcases h.2 with ⟨rfl,rfl⟩ | ⟨g,cap,cur,rfl,_⟩
 ·exact ⟨none,0,rfl⟩
 ·exact ⟨_,cap,rfl⟩
theorem add_bad (base Bw : Nat) (l : List Str) (x : Str) (w : World) (hW : Way w base Bw l) (hl : l.length < 40) (hx : nameB x = false) :
  Calls Tryz.prog 121 #[.pointer (some ⟨Bw,0,none⟩),.string ⟨x.toArray⟩] w fun e w' => e = .returned (.bool false) ∧ Below w.heap.size w w':=by
 obtain ⟨v,hv,hrow⟩:=hW
 have hc:=hv.cell
 obtain ⟨a,cap,rfl⟩:=own_len hrow
 have HX:=hyq hx
 have hq : ((l.length : Int) == 40) = false:=by rw [beq_eq_false_iff_ne]; omega
 clear hv hrow hx
 go_enter Tryz.func121,Tryz.ntmps121
 go_wp2_with (go_at_call 111; refine (namel_any x _).mono ?_; rintro e w' ⟨rfl,hb⟩; rw [HX.out])
 go_ret
 exact ⟨rfl,hb⟩
theorem add_good (base Bw : Nat) (l : List Str) (x : Str) (w : World) (hW : Way w base Bw l) (hB : base ≤ Bw) (hbs : base ≤ w.heap.size) (hl : l.length < 40) (hx : nameB x = true) :
  Calls Tryz.prog 121 #[.pointer (some ⟨Bw,0,none⟩),.string ⟨x.toArray⟩] w fun e w' => e = .returned (.bool true) ∧ Way w' base Bw (l ++ [x]) ∧ Step base Bw w w':=by
 obtain ⟨v,hv,hrow⟩:=hW
 have hc:=hv.cell
 obtain ⟨a,cap,rfl⟩:=own_len hrow
 have HX:=hyq hx
 have hq : ((l.length : Int) == 40) = false:=by rw [beq_eq_false_iff_ne]; omega
 obtain ⟨i0,hi,hz0,hz1,hz2⟩:=info_parts info9
 clear hx
 go_enter Tryz.func121,Tryz.ntmps121
 go_wp2_with (first | (go_at_call 111; refine (namel_any x _).mono ?_; rintro e w1 ⟨rfl,hb⟩; rw [HX.out]; have hv1:=boxed_below hv hb hv.lt; have hr1:=owns_below hrow hb; have hc1:=hv1.cell; have hsz:=hb.size) | (at_builtin; refine wpList_append_own _ rfl _ _ 69 rfl base 9 i0 (.string ⟨#[]⟩) 1 16 Tryz.underlying69 hi hz0 hz1 hz2 rfl (by decide) _ _ _ rfl (hr1.alloc _) ⟨w1.heap.size,0,none⟩ 1 1 [.string ⟨x.toArray⟩] rfl rfl ?c1 ?c2 ?c3 ?c4 ?c5 ?_))
 case c1 => exact cell_one_new _ _ _
 case c2 => simp [Value.oneCell']
 case c3 => unfold maxLen; omega
 case c4 => omega
 case c5 => simp; omega
 intro v' w2 hown' hgrow _
 obtain ⟨g',cap',rfl⟩:=ownsRow_succ hown'
 have hst:=Step.appended hv1 hr1 (by omega) hB hown' hgrow
 obtain ⟨ha1,ha2,hr2,_,_⟩:=hv1.appended (by decide) hr1 (by omega) hB hown' hgrow
 have hc2:=ha1.cell
 have hf2:=ha1.frozen
 have HF:=hyq (And.intro hst (And.intro ha2 hr2))
 clear hst ha2 hr2 ha1 hown' hgrow hv1 hr1 hc1 hc hv hrow
 go_wp2
 go_ret
 obtain ⟨hst,ha2,hr2⟩:=HF.out
 exact ⟨rfl,⟨_,ha2,by simpa [encS] using hr2⟩,(Step.of_below hb hbs).trans hst⟩
end Go.Proofs.YtigopecainocgaaGreatDoor
namespace Go.Proofs.YtigopecainocgaaGreatDoor
open Go.RowKit Go.Shelf
def ofRes (l : List Str) : Str × Int:=if partsB l = true then (joinL l,0) else ([],110)
def OfPost (l : List Str) (w : World) (e : Ending) (w' : World) : Prop:=e = .returned (.tuple #[.string ⟨(ofRes l).1.toArray⟩,.int .i64 (ofRes l).2]) ∧ Below w.heap.size w w'
theorem of_yes {l : List Str} {w w' : World} {e : Ending} (h : partsB l = true) (he : e = .returned (.tuple #[.string ⟨(joinL l).toArray⟩,.int .i64 0])) (hb : Below w.heap.size w w') : OfPost l w e w':=by
 unfold OfPost ofRes; rw [if_pos h]; exact ⟨he,hb⟩
theorem of_no {l : List Str} {w w' : World} {e : Ending} (h : partsB l = false) (he : e = .returned (.tuple #[.string ⟨#[]⟩,.int .i64 110])) (hb : Below w.heap.size w w') : OfPost l w e w':=by
 unfold OfPost ofRes; rw [if_neg (by simp [h])]; exact ⟨he,hb⟩
theorem take_get (l : List Str) (k : Nat) (x : Str) (h : l[k]? = some x) : l.take (k + 1) = l.take k ++ [x]:=by
 rw [List.take_add_one,h]; rfl
theorem parts_take_no (l : List Str) (k : Nat) (x : Str) (h : l[k]? = some x) (hb : (l.take k).length = 40 ∨ nameB x = false) : partsB l = false:=by
 rcases hb with hb | hb
 ·refine partsB_snoc_long (l.take (k + 1)) l ?_ (List.take_prefix _ _)
  rw [take_get l k x h]; simp only [List.length_append,hb]; simp
 ·exact partsB_bad l l x hb (List.mem_of_getElem? h) (List.prefix_refl _)
theorem own_cell {w : World} {B g n cap : Nat} {xs : List Value} (h : w.ownsRow B 9 1 (.slice (some ⟨g,0,none⟩) n cap) n xs) (j : Nat) (u : Value) (hj : xs[j]? = some u) : w.cell? ⟨g,j,none⟩ = some u:=by
 have hl:=h.1
 have hlt : j < xs.length:=(List.getElem?_eq_some_iff.1 hj).1
 rw [h.cellAt j (by omega),hj]
theorem of_some (l : List Str) (b0 g cap : Nat) (w : World) (hown : w.ownsRow b0 9 1 (.slice (some ⟨g,0,none⟩) l.length cap) l.length (l.map encS)) (hn : l.length ≤ 1000000) :
  Calls Tryz.prog 106 #[.slice (some ⟨g,0,none⟩) l.length cap] w (OfPost l w):=by
 have hglt:=(hown.lt g rfl).2
 have HCells:=hyq (fun (j : Nat) (x : Str) (hj : l[j]? = some x) => own_cell hown j (encS x) (by rw [List.getElem?_map,hj]; rfl))
 have hn1 : (l.length : Int) ≤ 1000000:=by omega
 clear hown
 go_enter Tryz.func106,Tryz.ntmps106
 go_wp2
 have HW0 : Hid (Way (w.alloc (.cells #[.slice none 0 0] 142)) w.heap.size w.heap.size []):=⟨_,Boxed.new _ _ _,World.ownsRow_nil _ _ _ _⟩
 go_loopw [9] (fun i wr => ∃ k : Nat,k ≤ l.length ∧ i = .int .i64 k ∧ Hid (Way wr w.heap.size w.heap.size (l.take k)) ∧ Hid (partsB (l.take k) = true) ∧ Below w.heap.size w wr ∧ w.heap.size < wr.heap.size) (fun i _ => l.length - (intOf i).toNat)
 case atStart => exact ⟨0,Nat.zero_le _,rfl,HW0,rfl,(Below.refl _ _).alloc (Nat.le_refl _) _,by simp⟩
 case round =>
  obtain ⟨k,hk,rfl,HW,HP,hb,hsz⟩:=hrel
  by_cases hlt : k < l.length
  ·obtain ⟨x,hx⟩ : ∃ x,l[k]? = some x:=⟨_,List.getElem?_eq_getElem hlt⟩
   have hcell : wr.cell? ⟨g,k,none⟩ = some (.string ⟨x.toArray⟩):=(hb.cell (p:=⟨g,k,none⟩) hglt).trans (HCells.out k x hx)
   have HX:=hyq hx
   clear hx
   by_cases h40 : (l.take k).length = 40
   ·have HC:=hyq (add_full w.heap.size w.heap.size (l.take k) x wr HW.out h40)
    have HN:=hyq (parts_take_no l k x HX.out (.inl h40))
    clear h40
    go_wp2_with (go_at_call 121; refine HC.out.mono ?_; rintro e w1 ⟨rfl,hb1⟩)
    go_ret2
    exact of_no HN.out rfl (hb.trans (hb1.mono hb.size))
   ·have hle : (l.take k).length ≤ 40:=((parts_iff _).1 HP.out).1
    by_cases hn : nameB x = true
    ·have HC:=hyq (add_good w.heap.size w.heap.size (l.take k) x wr HW.out (Nat.le_refl _) (by omega) (by omega) hn)
     have HN:=hyq (parts_snoc (l.take k) x HP.out h40 hn)
     clear h40 hn hle
     go_wp2_with (go_at_call 121; refine HC.out.mono ?_; rintro e w1 ⟨rfl,hw1,hst⟩; have HW1:=hyq hw1; clear hw1)
     go_roundw
     case rel => exact ⟨k + 1,hlt,by go_num,by rw [take_get l k x HX.out]; exact HW1,by rw [take_get l k x HX.out]; exact HN,hb.trans hst.below,Nat.lt_of_lt_of_le hsz hst.below.size⟩
     case measure => simp [intOf]; omega
    ·have HC:=hyq (add_bad w.heap.size w.heap.size (l.take k) x wr HW.out (by omega) (Bool.eq_false_iff.2 hn))
     have HN:=hyq (parts_take_no l k x HX.out (.inr (Bool.eq_false_iff.2 hn)))
     clear h40 hn hle
     go_wp2_with (go_at_call 121; refine HC.out.mono ?_; rintro e w1 ⟨rfl,hb1⟩)
     go_ret2
     exact of_no HN.out rfl (hb.trans (hb1.mono hb.size))
  ·have hke : l.take k = l:=List.take_of_length_le (by omega)
   have HP1 : Hid (partsB l = true):=by have:=HP.out; rw [hke] at this; exact this
   have hw1:=HW.out
   rw [hke] at hw1
   obtain ⟨v',hv',hr'⟩:=hw1
   have hc:=hv'.cell
   have HR:=hyq hr'
   obtain ⟨a1,cap1,rfl⟩:=own_len hr'
   have HL:=hyq (join_len l HP1.out)
   clear hke hr' hv'
   go_wp2_with (go_at_call 122; refine (join_any l w.heap.size _ _ HR.out (by omega) (Nat.le_trans HL.out (by omega))).mono ?_; rintro e w3 ⟨rfl,hb3⟩)
   go_ret2
   exact of_yes HP1.out rfl (hb.trans (hb3.mono hb.size))
theorem of_none (a : Option Addr) (cap : Nat) (w : World) : Calls Tryz.prog 106 #[.slice a 0 cap] w (OfPost [] w):=by
 go_enter Tryz.func106,Tryz.ntmps106
 go_wp2
 have HW0 : Hid (Way (w.alloc (.cells #[.slice none 0 0] 142)) w.heap.size w.heap.size []):=⟨_,Boxed.new _ _ _,World.ownsRow_nil _ _ _ _⟩
 go_loopw [9] (fun i wr => i = .int .i64 0 ∧ wr = w.alloc (.cells #[.slice none 0 0] 142)) (fun _ _ => 0)
 case atStart => exact ⟨rfl,rfl⟩
 case round =>
  obtain ⟨rfl,rfl⟩:=hrel
  have HR:=hyq (World.ownsRow_nil (w.alloc (.cells #[.slice none 0 0] 142)) w.heap.size 9 1)
  go_wp2_with (go_at_call 122; refine (join_any [] w.heap.size _ _ HR.out (by simp) (by simp [Lib.join_nil])).mono ?_; rintro e w3 ⟨rfl,hb3⟩)
  go_ret2
  exact of_yes rfl rfl (((Below.refl _ _).alloc (Nat.le_refl _) _).trans (hb3.mono (by simp)))
theorem of_any (l : List Str) (b0 : Nat) (v : Value) (w : World) (hown : w.ownsRow b0 9 1 v l.length (l.map encS)) (hn : l.length ≤ 1000000) : Calls Tryz.prog 106 #[v] w (OfPost l w):=by
 rcases hown.2 with ⟨rfl,h0⟩ | ⟨g,cap,cur,rfl,_⟩
 ·have : l = []:=List.eq_nil_of_length_eq_zero h0
  subst this
  exact of_none none 0 w
 ·exact of_some l b0 g cap w hown hn
end Go.Proofs.YtigopecainocgaaGreatDoor
namespace Go.Proofs.YtigopecainocgaaGreatDoor
open Go.RowKit Go.Shelf
theorem below_drewN' {B : Nat} {a w : World} (h : Below B a w) (n : Nat) : Below B a (w.drewN n):=⟨h.os,h.tape,h.output,h.size,h.block⟩
theorem bch {w w1 w2 : World} (h : Below w.heap.size w w1) (h2 : Below w1.heap.size w1 w2) : Below w.heap.size w w2:=h.trans (h2.mono h.size)
theorem retb {a b : Bool} (h : a = b) : Ending.returned (.bool a) = .returned (.bool b):=by rw [h]
def Box (w : World) (g : Nat) (t : TypeId) (cs : Array Value) : Prop:=w.heap[g]? = some (.cells cs t (0,0))
theorem Box.lt {w : World} {g : Nat} {t : TypeId} {cs : Array Value} (h : Box w g t cs) : g < w.heap.size:=by
 rcases Nat.lt_or_ge g w.heap.size with h' | h'
 ·exact h'
 ·unfold Box at h
  rw [Array.getElem?_eq_none h'] at h
  cases h
theorem Box.below {w w' : World} {B g : Nat} {t : TypeId} {cs : Array Value} (h : Box w g t cs) (hb : Below B w w') (hg : g < B) : Box w' g t cs:=(hb.block g hg).trans h
theorem Box.on {w w' : World} {g : Nat} {t : TypeId} {cs : Array Value} (h : Box w g t cs) (hb : Below w.heap.size w w') : Box w' g t cs:=h.below hb h.lt
theorem Box.alloc {w : World} {g : Nat} {t : TypeId} {cs : Array Value} (h : Box w g t cs) (o : Obj) : Box (w.alloc o) g t cs:=(Below.heap_alloc w o g h.lt).trans h
theorem Box.set {w : World} {g k : Nat} {t : TypeId} {cs : Array Value} (h : Box w g t cs) (v : Value) : Box (w.setCell ⟨g,k,none⟩ v) g t (cs.setIfInBounds k v):=heap_setCell_same w g k cs t v h
theorem Box.far {w : World} {g : Nat} {t : TypeId} {cs : Array Value} (h : Box w g t cs) {p : Addr} (hp : g ≠ p.block) (v : Value) : Box (w.setCell p v) g t cs:=(heap_setCell_other w p g v hp).trans h
theorem Box.cell {w : World} {g : Nat} {t : TypeId} {cs : Array Value} (h : Box w g t cs) {k : Nat} {v : Value} (hv : cs[k]? = some v) : w.cell? ⟨g,k,none⟩ = some v:=(cell_of_row w g k cs t (0,0) h).trans hv
theorem Box.kept {W W' : World} {row : Option Nat} {g : Nat} {t : TypeId} {cs : Array Value} (h : Box W g t cs) (hg : W.grownBy W' row) (hne : some g ≠ row) : Box W' g t cs:=(hg.block g h.lt hne).trans h
theorem box_new {w : World} {t : TypeId} {cs : Array Value} : Box (w.alloc (.cells cs t)) w.heap.size t cs:=heap_alloc_new w _
theorem below_new (w : World) (o : Obj) : Below w.heap.size w (w.alloc o):=(Below.refl _ _).alloc (Nat.le_refl _) _
theorem Box.drew {w : World} {g : Nat} {t : TypeId} {cs : Array Value} (h : Box w g t cs) : Box w.drew g t cs:=h
theorem Box.row {w : World} {g : Nat} {t : TypeId} {old : Array Value} (h : Box w g t old) (cs : Array Value) : Box (w.setRow g cs) g t cs:=setRow_heap w g old cs t _ h
theorem Box.far_row {w : World} {g k : Nat} {t : TypeId} {cs : Array Value} (h : Box w k t cs) (hk : k ≠ g) (new : Array Value) : Box (w.setRow g new) k t cs:=(setRow_other w g k new hk).trans h
theorem below_row {B g : Nat} {a w : World} (h : Below B a w) (hg : B ≤ g) (cs : Array Value) : Below B a (w.setRow g cs) :=
 ⟨h.os,h.tape,h.output,by simpa using h.size,fun k hk => (setRow_other w g k cs (by omega)).trans (h.block k hk)⟩
theorem Box.free {w : World} {g k : Nat} {t : TypeId} {cs : Array Value} (h : Box w g t cs) : w.frozen? ⟨g,k,none⟩ = some false:=by
 unfold World.frozen?
 rw [show w.heap[g]? = _ from h]
 rfl
theorem add_to (g o j : Nat) : (⟨g,o,none⟩ : Addr).add j = ⟨g,o + j,none⟩:=by
 unfold Addr.add
 split <;> simp_all
/-! ### Items -/
def It.arr (x : It) : Array Value:=#[.string ⟨x.path.toArray⟩,.int .i64 x.kind,.string ⟨x.data.toArray⟩]
def It.cells (x : It) : List Value:=[.string ⟨x.path.toArray⟩,.int .i64 x.kind,.string ⟨x.data.toArray⟩]
def flatI (l : List It) : List Value:=l.flatMap It.cells
theorem flatI_cons (v : It) (l : List It) : flatI (v :: l) = v.cells ++ flatI l:=rfl
theorem flatI_append (a b : List It) : flatI (a ++ b) = flatI a ++ flatI b:=List.flatMap_append
theorem icells_len (v : It) : v.cells.length = 3:=rfl
theorem flatI_len (l : List It) : (flatI l).length = l.length * 3:=by
 induction l with
 | nil => rfl
 | cons v l ih => rw [flatI_cons,List.length_append,ih,List.length_cons,icells_len]; omega
theorem flat3 (l : List It) (j r : Nat) (hr : r < 3) : (flatI l)[j * 3 + r]? = (l[j]?).bind fun v => v.cells[r]?:=by
 induction l generalizing j with
 | nil => simp [flatI]
 | cons v l ih =>
  cases j with
  | zero =>
   rw [flatI_cons,Nat.zero_mul,Nat.zero_add,List.getElem?_append_left (by rw [icells_len]; exact hr)]
   rfl
  | succ j =>
   rw [flatI_cons,List.getElem?_append_right (by rw [icells_len]; omega),icells_len,show (j + 1) * 3 + r - 3 = j * 3 + r by omega,ih]
   rfl
theorem it_one (v : It) : ∀ u ∈ v.cells,u.oneCell' = true:=by
 intro u hu
 simp [It.cells] at hu
 rcases hu with rfl | rfl | rfl <;> rfl
theorem flatI_one (l : List It) : ∀ u ∈ flatI l,u.oneCell' = true:=by
 intro u hu
 obtain ⟨v,_,hv⟩:=List.mem_flatMap.1 hu
 exact it_one v u hv
theorem flatI_take (l : List It) (k : Nat) : flatI (l.take k) = (flatI l).take (k * 3):=by
 induction l generalizing k with
 | nil => simp [flatI]
 | cons v l ih =>
  cases k with
  | zero => simp [flatI]
  | succ k =>
   rw [List.take_succ_cons,flatI_cons,flatI_cons,ih,show (k + 1) * 3 = v.cells.length + k * 3 by rw [icells_len]; omega,List.take_append,Nat.add_sub_cancel_left,List.take_of_length_le (l:=v.cells) (by omega)]
def RdF (w : World) (x : Value) (n : Nat) (xs : List Value) : Prop :=
 ∃ a c,x = .slice a n c ∧ n ≤ c ∧ c ≤ maxLen ∧ (0 < n → ∃ g o,a = some ⟨g,o,none⟩ ∧ g < w.heap.size ∧ ∀ (j : Nat) (u : Value),xs[j]? = some u → w.cell? ⟨g,o + j,none⟩ = some u)
theorem RdF.nil (w : World) : RdF w (.slice none 0 0) 0 []:=⟨none,0,rfl,Nat.le_refl _,Nat.zero_le _,fun h => absurd h (Nat.lt_irrefl _)⟩
theorem RdF.on {w w' : World} {x : Value} {n : Nat} {xs : List Value} (h : RdF w x n xs) (hb : Below w.heap.size w w') : RdF w' x n xs:=by
 obtain ⟨a,c,h1,h2,h3,h4⟩:=h
 refine ⟨a,c,h1,h2,h3,fun h0 => ?_⟩
 obtain ⟨g,o,e,hg,hc⟩:=h4 h0
 exact ⟨g,o,e,Nat.lt_of_lt_of_le hg hb.size,fun j u hu => (hb.cell (p:=⟨g,_,none⟩) hg).trans (hc j u hu)⟩
theorem RdF.of_own {w : World} {B s n : Nat} {e : TypeId} {x : Value} {xs : List Value} (h : w.ownsRow B e s x n xs) : RdF w x n xs:=by
 have hx:=h
 rcases h.2 with ⟨rfl,rfl⟩ | ⟨g,cap,cur,rfl,_,hg,h2,h3,_⟩
 ·exact ⟨none,0,rfl,Nat.le_refl _,Nat.zero_le _,fun h => absurd h (Nat.lt_irrefl _)⟩
 ·exact ⟨_,_,rfl,h2,h3,fun _ => ⟨g,0,rfl,(hx.lt g rfl).2,fun j u hu => by
   have:=hx.cells (g:=g) rfl j u hu
   rw [add_to] at this
   exact this⟩⟩
def RdI (w : World) (x : Value) (l : List It) : Prop:=RdF w x l.length (flatI l)
theorem RdI.on {w w' : World} {x : Value} {l : List It} (h : RdI w x l) (hb : Below w.heap.size w w') : RdI w' x l:=RdF.on h hb
theorem RdI.nil (w : World) : RdI w (.slice none 0 0) []:=RdF.nil w
structure IAt (w : World) (g o : Nat) (b : It) : Prop where
 c0 : w.cell? ⟨g,o,none⟩ = some (.string ⟨b.path.toArray⟩)
 c1 : w.cell? ⟨g,o + 1,none⟩ = some (.int .i64 b.kind)
 c2 : w.cell? ⟨g,o + 2,none⟩ = some (.string ⟨b.data.toArray⟩)
theorem iat_of {w : World} {g o : Nat} {l : List It} (hc : ∀ (j : Nat) (u : Value),(flatI l)[j]? = some u → w.cell? ⟨g,o + j,none⟩ = some u) (j : Nat) (b : It) (hj : l[j]? = some b) : IAt w g (o + j * 3) b:=by
 have key : ∀ r u,r < 3 → b.cells[r]? = some u → w.cell? ⟨g,o + j * 3 + r,none⟩ = some u:=fun r u hr hu => by
  have:=flat3 l j r hr
  rw [hj] at this
  rw [Nat.add_assoc]
  exact hc (j * 3 + r) u (this.trans hu)
 exact ⟨key 0 _ (by omega) rfl,key 1 _ (by omega) rfl,key 2 _ (by omega) rfl⟩
theorem IAt.on {w w' : World} {g o : Nat} {b : It} (h : IAt w g o b) (hg : g < w.heap.size) (hb : Below w.heap.size w w') : IAt w' g o b :=
 have k : ∀ r u,w.cell? ⟨g,r,none⟩ = some u → w'.cell? ⟨g,r,none⟩ = some u:=fun _ _ hu => (hb.cell (p:=⟨g,_,none⟩) hg).trans hu
 ⟨k _ _ h.c0,k _ _ h.c1,k _ _ h.c2⟩
theorem Box.it {w : World} {g : Nat} {t : TypeId} {b : It} (h : Box w g t b.arr) : IAt w g 0 b:=⟨h.cell rfl,h.cell rfl,h.cell rfl⟩
theorem RdI.open {w : World} {x : Value} {l : List It} (h : RdI w x l) : ∃ a c,x = .slice a l.length c ∧ l.length ≤ c ∧ c ≤ maxLen ∧
  (0 < l.length → ∃ g o,a = some ⟨g,o,none⟩ ∧ g < w.heap.size ∧ ∀ (j : Nat) (b : It),l[j]? = some b → IAt w g (o + j * 3) b):=by
 obtain ⟨a,c,h1,h2,h3,h4⟩:=h
 refine ⟨a,c,h1,h2,h3,fun h0 => ?_⟩
 obtain ⟨g,o,e,hg,hc⟩:=h4 h0
 exact ⟨g,o,e,hg,fun j b hj => iat_of hc j b hj⟩
theorem RdI.take {w : World} {a : Option Addr} {n c : Nat} {l : List It} (hn : n = l.length) (h : RdI w (.slice a n c) l) (q : Nat) (hq : q ≤ n) : RdI w (.slice a q c) (l.take q):=by
 obtain ⟨a',c',e,h1,h2,h3⟩:=h
 cases e
 have el : (l.take q).length = q:=by rw [List.length_take]; omega
 unfold RdI
 rw [el]
 refine ⟨a,c,rfl,by omega,h2,fun h0 => ?_⟩
 obtain ⟨g,o,e,hg,hc⟩:=h3 (by omega)
 refine ⟨g,o,e,hg,fun j u hj => hc j u ?_⟩
 rw [flatI_take] at hj
 rw [List.getElem?_take] at hj
 split at hj
 ·exact hj
 ·cases hj
theorem zeroI : Tryz.prog.built 59 [] = some It.nil.arr:=by kernel_rfl
theorem zero35 : (Tryz.prog.info? 59).map (·.zero) = some (some (.agg It.nil.arr)):=by kernel_rfl
theorem info35 (b : It) : (Tryz.prog.info? 59).map (·.size) = some b.arr.size:=by
 show _ = some 3
 kernel_rfl
theorem info35z : (Tryz.prog.info? 59).map (fun i => (i.zero,i.size,i.bytes)) = some (some (.agg It.nil.arr),3,40):=by kernel_rfl
theorem iarr_one (b : It) : (b.arr).all (·.oneCell') = true:=by
 simp [It.arr,Value.oneCell']
theorem clone_any (l : List It) (x : Value) (w : World) (hx : RdI w x l) (hl : l.length ≤ 1000000) :
  Calls Tryz.prog 36 #[x] w fun e w' => ∃ x',e = .returned x' ∧ w'.ownsRow w.heap.size 59 3 x' l.length (flatI l) ∧ Below w.heap.size w w':=by
 obtain ⟨a,cap,rfl,hlc,hcm,hcell⟩:=id hx
 obtain ⟨i0,hi,hz0,hz1,hz2⟩:=info_parts info35z
 have q33 : ∀ (w : World) (a : Option Addr) (n c n' c' : Nat),(binOp .eql 22 (.slice a n c) (.slice none n' c')).run Tryz.prog w = .ok (.bool a.isNone) w:=fun w a n c n' c' => Lib.run_eql_slice_nil w _ _ a n c n' c' Tryz.underlying22
 cases a with
 | none =>
  have h0 : l.length = 0:=by
   rcases Nat.eq_zero_or_pos l.length with h | h
   ·exact h
   ·obtain ⟨g,o,e,_⟩:=hcell h; cases e
  have : l = []:=List.eq_nil_of_length_eq_zero h0
  subst this
  clear hcell hx
  go_enter Tryz.func36,Tryz.ntmps36
  go_wp2
  go_ret
  exact ⟨_,rfl,World.ownsRow_nil _ _ _ _,Below.refl _ _⟩
 | some ad =>
  have hnews : ∀ (j : Nat) (u : Value),(flatI l)[j]? = some u → (w.alloc (.cells #[] 59)).cell? (ad.add j) = some u:=fun j u hu => by
   have h0 : 0 < l.length:=by
    have:=(List.getElem?_eq_some_iff.1 hu).1
    rw [flatI_len] at this
    omega
   obtain ⟨g,o,e,hg,hc⟩:=hcell h0
   cases e
   rw [add_to]
   exact Lib.cell?_alloc_some _ (hc j u hu)
  obtain ⟨n,hn⟩:=nmq (l.length)
  have hfl:=flatI_len l
  rw [← hn] at hfl hl hlc
  rw [← hn]
  have HFL:=hyq hfl
  have HNW:=hyq hnews
  clear hcell hx hn hfl hnews
  go_enter Tryz.func36,Tryz.ntmps36
  go_wp2_with (at_builtin; refine wpList_append_own _ rfl _ _ 22 rfl w.heap.size 59 i0 (.agg It.nil.arr) 3 40 Tryz.underlying22 hi hz0 hz1 hz2 rfl (by decide) _ _ _ rfl (World.ownsRow_made w #[] 0 (Nat.le_refl _) (Nat.zero_le _) rfl) ad n cap (flatI l) rfl HFL.out HNW.out (flatI_one l) (by unfold maxLen; omega) (by omega) (by simp) ?_)
  intro v' w1 hown hgrow _
  go_wp2
  go_ret
  refine ⟨v',rfl,by simpa using hown,?_⟩
  exact ((Below.refl _ w).alloc (Nat.le_refl _) _).grown hgrow (by simp) (by intro k hk; simp [Value.ownBlock] at hk; omega)
end Go.Proofs.YtigopecainocgaaGreatDoor
namespace Go.Proofs.YtigopecainocgaaGreatDoor
open Go.RowKit Go.Shelf
theorem vdata_any (x : It) (w : World) : Calls Tryz.prog 62 #[.agg x.arr] w fun e w' => e = .returned (.bool x.dataB) ∧ Below w.heap.size w w':=by
 obtain ⟨n,hn⟩:=nmq (x.data.length)
 obtain ⟨d,hd⟩ : ∃ d : ByteArray,d = ⟨x.data.toArray⟩:=⟨_,rfl⟩
 have hdn : d.size = n:=by rw [hd,hn]; rfl
 have harr : x.arr = #[.string ⟨x.path.toArray⟩,.int .i64 x.kind,.string d]:=by rw [hd]; rfl
 obtain ⟨k,hk⟩:=nmq (x.kind)
 have hB : x.dataB = if k = 1 then decide (n = 0) else if k = 2 then decide (n ≤ 524288) else if k = 3 then decide (1 ≤ n ∧ n ≤ 2000) else false:=by rw [hk,hn]; rfl
 rw [harr,hB,← hk]
 have X : Box (w.alloc (.cells #[.string ⟨x.path.toArray⟩,.int .i64 k,.string d] 59)) w.heap.size 59 #[.string ⟨x.path.toArray⟩,.int .i64 k,.string d]:=box_new
 have c1 : (w.alloc (.cells #[.string ⟨x.path.toArray⟩,.int .i64 k,.string d] 59)).cell? ⟨w.heap.size,1,none⟩ = some (.int .i64 k):=X.cell rfl
 have c2 : (w.alloc (.cells #[.string ⟨x.path.toArray⟩,.int .i64 k,.string d] 59)).cell? ⟨w.heap.size,2,none⟩ = some (.string d):=X.cell rfl
 have HB:=hyq (below_new w (.cells #[.string ⟨x.path.toArray⟩,.int .i64 k,.string d] 59))
 have HN:=hyq hdn
 clear X hB harr hk hd hn hdn
 by_cases k1 : k = 1
 ·subst k1
  go_enter Tryz.func62,Tryz.ntmps62
  go_wp2_with fail
  go_ret
  exact ⟨retb (by rw [HN.out]; show decide _ = decide _; exact decide_eq_decide.2 (by omega)),HB.out⟩
 ·have e1 : (k == 1) = false:=by simp [k1]
  by_cases k2 : k = 2
  ·subst k2
   clear e1
   go_enter Tryz.func62,Tryz.ntmps62
   go_wp2_with fail
   go_ret
   exact ⟨retb (by first | (rw [HN.out]; done) | (have:=HN.out; simp <;> omega)),HB.out⟩
  ·have e2 : (k == 2) = false:=by simp [k2]
   by_cases k3 : k = 3
   ·subst k3
    clear e1 e2
    by_cases h1 : 1 ≤ d.size
    ·have d1 : decide ((1 : Int) ≤ (d.size : Int)) = true:=decide_eq_true (by omega)
     go_enter Tryz.func62,Tryz.ntmps62
     go_wp2_with fail
     go_ret
     exact ⟨retb (by rw [← HN.out]; simp [h1] <;> omega),HB.out⟩
    ·have d1 : decide ((1 : Int) ≤ (d.size : Int)) = false:=decide_eq_false (by omega)
     go_enter Tryz.func62,Tryz.ntmps62
     go_wp2_with fail
     go_ret
     exact ⟨retb (by rw [← HN.out]; first | rfl | (simp [h1] <;> omega)),HB.out⟩
   ·have e3 : (k == 3) = false:=by simp [k3]
    go_enter Tryz.func62,Tryz.ntmps62
    go_wp2_with fail
    go_ret
    exact ⟨retb (by first | rfl | simp),HB.out⟩
/-! ### Levels -/
def lvCells (e : Lv) : List Value:=[.string ⟨e.1.toArray⟩,.string ⟨e.2.toArray⟩]
def flatL (l : List Lv) : List Value:=l.flatMap lvCells
theorem flatL_cons (v : Lv) (l : List Lv) : flatL (v :: l) = lvCells v ++ flatL l:=rfl
theorem flatL_append (a b : List Lv) : flatL (a ++ b) = flatL a ++ flatL b:=List.flatMap_append
theorem flatL_len (l : List Lv) : (flatL l).length = l.length * 2:=by
 induction l with
 | nil => rfl
 | cons v l ih => rw [flatL_cons,List.length_append,ih,List.length_cons]; show 2 + _ = _; omega
theorem flatL_last (l : List Lv) (e : Lv) (r : Nat) (hr : r < 2) : (flatL (l ++ [e]))[l.length * 2 + r]? = (lvCells e)[r]?:=by
 rw [flatL_append,List.getElem?_append_right (by rw [flatL_len]; omega),flatL_len,Nat.add_sub_cancel_left]
 show (lvCells e ++ [])[r]? = _
 rw [List.append_nil]
def OwnL (w : World) (B : Nat) (v : Value) (st : List Lv) : Prop:=w.ownsRow B 92 2 v st.length (flatL st.reverse)
theorem OwnL.pop {w : World} {B : Nat} {a : Option Addr} {c : Nat} {s1 s2 : List Lv} (h : OwnL w B (.slice a (s1 ++ s2).length c) (s1 ++ s2)) : OwnL w B (.slice a s2.length c) s2:=by
 obtain ⟨h1,h2⟩:=h
 refine ⟨by rw [flatL_len,List.length_reverse],?_⟩
 rcases h2 with ⟨h2,h3⟩ | ⟨g,cap,cur,hv,hg,hh,hn,hcap,hcs,htake⟩
 ·left
  have : s2.length = 0:=by rw [List.length_append] at h3; omega
  injection h2 with e1 e2 e3
  exact ⟨by rw [e1,e3,this],this⟩
 ·right
  injection hv with e1 e2 e3
  subst e1 e3
  refine ⟨g,c,cur,rfl,hg,hh,by rw [List.length_append] at hn; omega,hcap,hcs,?_⟩
  have : cur.toList.take (s2.length * 2) = (cur.toList.take ((s1 ++ s2).length * 2)).take (s2.length * 2):=by
   rw [List.take_take,Nat.min_eq_left (by rw [List.length_append]; omega)]
  rw [this,htake,List.reverse_append,flatL_append,List.take_append_of_le_length (by rw [flatL_len,List.length_reverse]; omega),List.take_of_length_le (by rw [flatL_len,List.length_reverse]; omega)]
theorem OwnL.form {w : World} {B : Nat} {v : Value} {e : Lv} {r : List Lv} (h : OwnL w B v (e :: r)) : ∃ g c,v = .slice (some ⟨g,0,none⟩) (r.length + 1) c ∧ B ≤ g ∧ g < w.heap.size ∧ r.length + 1 ≤ c ∧ c ≤ maxLen ∧
  w.cell? ⟨g,r.length * 2,none⟩ = some (.string ⟨e.1.toArray⟩) ∧ w.cell? ⟨g,r.length * 2 + 1,none⟩ = some (.string ⟨e.2.toArray⟩) ∧ w.frozen? ⟨g,r.length * 2 + 1,none⟩ = false:=by
 have h':=h
 rcases h.2 with ⟨_,h3⟩ | ⟨g,cap,cur,rfl,hg,hh,hn,hcap,hcs,htake⟩
 ·cases h3
 ·have hc : ∀ r' u,r' < 2 → (lvCells e)[r']? = some u → w.cell? ⟨g,r.length * 2 + r',none⟩ = some u:=fun r' u hr hu => by
   have k:=World.ownsRow.cellAt (g:=g) (cap:=cap) h' (r.length * 2 + r') (by rw [List.length_cons]; omega)
   rw [k,List.reverse_cons]
   have:=flatL_last r.reverse e r' hr
   rw [List.length_reverse] at this
   rw [this]; exact hu
  exact ⟨g,cap,rfl,hg,(h'.lt g rfl).2,hn,hcap,hc 0 _ (by omega) rfl,hc 1 _ (by omega) rfl,World.ownsRow.frozenAt (g:=g) (cap:=cap) h' _⟩
theorem OwnL.nil_form {w : World} {B : Nat} {v : Value} {st : List Lv} (h : OwnL w B v st) : ∃ a c,v = .slice a st.length c ∧ st.length ≤ c ∧ c ≤ maxLen:=by
 rcases h.2 with ⟨h2,h3⟩ | ⟨g,cap,cur,rfl,hg,hh,hn,hcap,hcs,htake⟩
 ·exact ⟨none,0,by rw [h2,h3],by omega,Nat.zero_le _⟩
 ·exact ⟨_,cap,rfl,hn,hcap⟩
theorem leave_any (st : List Lv) (a : Option Addr) (c : Nat) (d : Str) (B : Nat) (w : World) (h : OwnL w B (.slice a st.length c) st) : Calls Tryz.prog 60 #[.slice a st.length c,.string ⟨d.toArray⟩] w fun e w' => e = .returned (.slice a (leaveL st d).length c) ∧ w = w':=by
 have H:=hyq h
 clear h
 go_enter Tryz.func60,Tryz.ntmps60
 go_wp2_with fail
 go_loop [0,5,6,7,8,9,10,11,12,13,14,15,16,17,18,19,20,21,22,23] (fun s _ _ _ _ _ _ _ _ _ _ _ _ _ _ _ _ _ _ _ => ∃ s1 s2 : List Lv,Hid (st = s1 ++ s2) ∧ Hid (leaveL st d = leaveL s2 d) ∧ s = .slice a s2.length c) (fun s _ _ _ _ _ _ _ _ _ _ _ _ _ _ _ _ _ _ _ => match s with | .slice _ n _ => n | _ => 0)
 case atStart => exact ⟨[],st,hyq rfl,hyq rfl,rfl⟩
 case round =>
  obtain ⟨s1,s2,HS,HL,rfl⟩:=hrel
  have HO : Hid (OwnL w B (.slice a s2.length c) s2):=hyq (OwnL.pop (s1:=s1) (by rw [← HS.out]; exact H.out))
  cases s2 with
  | nil =>
   have e0 : Hid (leaveL st d = []):=hyq HL.out
   clear HO
   go_wp2_with fail
   go_ret
   exact ⟨by rw [e0.out]; rfl,rfl⟩
  | cons e r =>
   obtain ⟨g,c',hv,hgB,hg,hrc,hcm,c0,c1,_⟩:=HO.out.form
   obtain ⟨k,hk⟩:=nmq (r.length)
   have HK:=hyq hk
   rw [List.length_cons] at hv ⊢
   rw [← hk] at hv hrc c0 c1 ⊢
   cases hv
   unfold maxLen at hcm
   clear hk HO c1
   have k1 : IntKind.i64.wrap ((k : Int) + 1 - 1) = (k : Int):=by rw [show (k : Int) + 1 - 1 = (k : Int) by omega]; exact IntWalk.i64_in _ (by omega)
   by_cases hd : e.1 = d
   ·have n1 : (e.1 == d) = true:=by simp [hd]
    have e0 : Hid (leaveL st d = e :: r):=hyq (by rw [HL.out]; unfold leaveL; rw [List.dropWhile_cons,if_neg (by simp [hd])])
    clear hd
    go_wp2_with fail
    go_ret
    exact ⟨by rw [e0.out,List.length_cons,HK.out]; rfl,rfl⟩
   ·have n1 : (e.1 == d) = false:=by simp [hd]
    have e0 : Hid (leaveL st d = leaveL r d):=hyq (by rw [HL.out]; unfold leaveL; rw [List.dropWhile_cons,if_pos (by simp [hd])])
    clear hd
    go_wp2_with fail
    go_round
    case rel => exact ⟨s1 ++ [e],r,hyq (by rw [HS.out]; simp),e0,by rw [← HK.out]⟩
    case measure => simp
end Go.Proofs.YtigopecainocgaaGreatDoor
namespace Go.Proofs.YtigopecainocgaaGreatDoor
open Go.RowKit Go.Shelf
structure Tabs (w : World) : Prop where
 r0 : w.cell? ⟨0,0,none⟩ = some (.string ⟨#[47]⟩)
 r1 : w.cell? ⟨0,1,none⟩ = some (.int .i64 1)
 r2 : w.cell? ⟨0,2,none⟩ = some (.string ⟨#[]⟩)
 max : ∃ m,w.cell? ⟨2,0,none⟩ = some (.int .i64 m)
 one : 3 ≤ w.heap.size
theorem Tabs.on {w w' : World} (h : Tabs w) (hb : Below w.heap.size w w') : Tabs w' :=
 have k : ∀ g o u,g < 3 → w.cell? ⟨g,o,none⟩ = some u → w'.cell? ⟨g,o,none⟩ = some u:=fun _ _ _ hg hu => (hb.cell (p:=⟨_,_,none⟩) (Nat.lt_of_lt_of_le hg h.one)).trans hu
 ⟨k _ _ _ (by omega) h.r0,k _ _ _ (by omega) h.r1,k _ _ _ (by omega) h.r2,h.max.imp fun _ q => k _ _ _ (by omega) q,Nat.le_trans h.one hb.size⟩
theorem bl_cb (a b : Str) : (Op.bytesLess a b || a == b) = decide (Lib.compareBytes a b ≤ 0):=by
 induction a generalizing b with
 | nil => cases b <;> rfl
 | cons x xs ih =>
  cases b with
  | nil => rfl
  | cons y ys =>
   have h:=ih ys
   rw [cb_cons]
   simp only [Op.bytesLess]
   by_cases h1 : x < y
   ·simp [h1]
   ·by_cases h2 : y < x
    ·have hne : x ≠ y:=fun e => by subst e; exact h1 h2
     simp [h1,h2,hne]
    ·have hxy : x = y:=by
      rcases byte_tri x y with k | k | k
      ·exact absurd k h1
      ·exact k
      ·exact absurd k h2
     subst hxy
     simp [h1] at h ⊢
     exact h
theorem owns_l1 (w : World) (B : Nat) (hB : B ≤ w.heap.size) : OwnL (w.alloc (.cells #[.string ⟨#[47]⟩,.string ⟨#[47]⟩] 92)) B (.slice (some ⟨w.heap.size,0,none⟩) 1 1) [([47],[47])]:=by
 have:=World.ownsRow_lit (e:=92) (size:=2) w #[.string ⟨#[47]⟩,.string ⟨#[47]⟩] 1 hB (by unfold maxLen; omega) rfl
 exact this
theorem OwnL.store {w : World} {B g c : Nat} {d l : Str} {r : List Lv} (h : OwnL w B (.slice (some ⟨g,0,none⟩) (r.length + 1) c) ((d,l) :: r)) (x : Str) :
  OwnL (w.setCell ⟨g,r.length * 2 + 1,none⟩ (.string ⟨x.toArray⟩)) B (.slice (some ⟨g,0,none⟩) (r.length + 1) c) ((d,x) :: r):=by
 obtain ⟨h1,h2⟩:=h
 rcases h2 with ⟨_,h3⟩ | ⟨g',cap,cur,hv,hg,hh,hn,hcap,hcs,htake⟩
 ·cases h3
 ·injection hv with e1 e2 e3
  injection e1 with e1
  injection e1 with e1
  subst e1 e3
  refine ⟨by rw [flatL_len,List.length_reverse],.inr ⟨g,c,cur.setIfInBounds (r.length * 2 + 1) (.string ⟨x.toArray⟩),rfl,hg,heap_setCell_same w g _ cur 92 _ hh,hn,hcap,by rw [Array.size_setIfInBounds]; exact hcs,?_⟩⟩
  rw [Array.toList_setIfInBounds,List.take_set]
  rw [List.length_cons] at htake ⊢
  rw [htake]
  simp only [List.reverse_cons,flatL_append]
  rw [List.set_append_right _ _ (by rw [flatL_len,List.length_reverse]; omega),flatL_len,List.length_reverse,Nat.add_sub_cancel_left]
  rfl
theorem OwnL.far {w : World} {B : Nat} {v : Value} {st : List Lv} (h : OwnL w B v st) {w' : World} (hw : Below w.heap.size w w') : OwnL w' B v st:=by
 refine h.kept (row:=none) ⟨hw.os,hw.tape,hw.output,hw.size,fun k hk _ => hw.block k hk⟩ ?_
 cases e : v.ownBlock <;> simp
theorem OwnL.on {w w' : World} {B : Nat} {v : Value} {st : List Lv} (h : OwnL w B v st) (hw : Below w.heap.size w w') : OwnL w' B v st:=h.far hw
theorem info109z : (Tryz.prog.info? 92).map (fun i => (i.zero,i.size,i.bytes)) = some (some (.agg #[.string ⟨#[]⟩,.string ⟨#[]⟩]),2,32):=by kernel_rfl
theorem up_is (x : Str) (hx : x.length ≤ 140737488355328) (u : Str) (hu : upL x = u) (w : World) : Calls Tryz.prog 61 #[.string ⟨x.toArray⟩] w fun e w' => e = .returned (.string ⟨u.toArray⟩) ∧ Below w.heap.size w w':=by
 rw [← hu]; exact up_any ⟨x.toArray⟩ hx w
theorem vdata_is (x : It) (b : Bool) (hb : x.dataB = b) (w : World) : Calls Tryz.prog 62 #[.agg x.arr] w fun e w' => e = .returned (.bool b) ∧ Below w.heap.size w w':=by
 rw [← hb]; exact vdata_any x w
theorem leave_is (st : List Lv) (a : Option Addr) (n c m : Nat) (d : Str) (B : Nat) (w : World) (h : OwnL w B (.slice a n c) st) (hn : n = st.length) (hm : (leaveL st d).length = m) : Calls Tryz.prog 60 #[.slice a n c,.string ⟨d.toArray⟩] w fun e w' => e = .returned (.slice a m c) ∧ w = w':=by
 subst hn hm; exact leave_any st a c d B w h
theorem runV_len (l : List It) (st : List Lv) (h : runV l = some st) : st.length ≤ l.length + 1:=by
 induction l using snoc_ind generalizing st with
 | nil => cases h; simp
 | snoc l x ih =>
  rw [runV_snoc] at h
  cases e : runV l with
  | none => rw [e] at h; cases h
  | some s =>
   rw [e] at h
   have h1:=ih s e
   obtain ⟨d,lb,r,e1,_,_,_,e5⟩:=stepV_some h
   have h2 : ((d,lb) :: r).length ≤ s.length:=by
    rw [← e1]; exact (List.dropWhile_sublist _).length_le
   rw [List.length_append,e5]
   simp only [List.length_cons,List.length_nil] at h2 ⊢
   split <;> simp <;> omega
theorem OwnL.ne {w : World} {B g b n c : Nat} {st : List Lv} {cs : Array Value} (h : OwnL w B (.slice (some ⟨g,0,none⟩) n c) st) (hx : Box w b 59 cs) : b ≠ g:=by
 intro e
 subst e
 rcases h.2 with ⟨h2,_⟩ | ⟨g',cap,cur,hv,_,hh,_⟩
 ·cases h2
 ·injection hv with e1 e2 e3
  injection e1 with e1
  injection e1 with e1
  subst e1
  rw [show w.heap[b]? = _ from hx] at hh
  injection hh with hh
  injection hh with _ hh
  cases hh
theorem owns_l2 {w : World} {B : Nat} {v : Value} {st : List Lv} {p : Str} (h : w.ownsRow B 92 2 v (st.length + 1) (flatL st.reverse ++ [.string ⟨p.toArray⟩,.string ⟨p.toArray⟩])) : OwnL w B v ((p,p) :: st):=by
 unfold OwnL
 rw [List.length_cons,List.reverse_cons,flatL_append]
 exact h
theorem two_new (W : World) (x y : Value) : ∀ (j : Nat) (u : Value),[x,y][j]? = some u → (W.alloc (.cells #[x,y] 92)).cell? ((⟨W.heap.size,0,none⟩ : Addr).add j) = some u:=by
 intro j u hu
 rw [add_to,Nat.zero_add]
 exact (box_new (w:=W) (t:=92) (cs:=#[x,y])).cell (by rw [← hu]; simp)
theorem step_yes {st r : List Lv} {x : It} {d l : Str} {u : Str} (hu : upL x.path = u) (hl : leaveL st u = (d,l) :: r) (h1 : ¬ Lib.compareBytes x.path l ≤ 0) (h2 : x.dataB = true) :
  stepV st x = some (if x.kind = 1 then (x.path,x.path) :: (d,x.path) :: r else (d,x.path) :: r):=by
 unfold stepV
 rw [hu,hl]
 simp only
 rw [if_neg (fun k => k.elim h1 (fun q => by rw [h2] at q; cases q))]
theorem tvalid_any (l : List It) (v : Value) (w : World) (hv : RdI w v l) (hsz : ∀ x ∈ l,x.path.length ≤ 140737488355328) (hT : Tabs w) : Calls Tryz.prog 45 #[v] w fun e w' => e = .returned (.bool (validT l)) ∧ Below w.heap.size w w':=by
 obtain ⟨a,c,rfl,hlc,hcm,hcell⟩:=hv.open
 have HC:=hyq hcell
 have HZ:=hyq hsz
 have HT:=hyq hT
 obtain ⟨n,hn⟩:=nmq (l.length)
 rw [← hn] at hlc HC ⊢
 have HN:=hyq hn
 unfold maxLen at hcm
 obtain ⟨r0,-,-,-,-⟩:=hT
 clear hn hcell hv hsz
 by_cases h2 : 2000 < n
 ·have d2 : decide ((n : Int) > 2000) = true:=decide_eq_true (by omega)
  have HF : Hid (validT l = false):=hyq (by unfold validT; rw [decide_eq_false (by have:=HN.out; omega)]; rfl)
  go_enter Tryz.func45,Tryz.ntmps45
  go_wp2_with fail
  go_ret
  exact ⟨retb HF.out.symm,Below.refl _ _⟩
 ·have d2 : decide ((n : Int) > 2000) = false:=decide_eq_false (by omega)
  have X0 : Hid (OwnL (w.alloc (.cells #[.string ⟨#[47]⟩,.string ⟨#[47]⟩] 92)) w.heap.size (.slice (some ⟨w.heap.size,0,none⟩) 1 1) [([47],[47])]):=hyq (owns_l1 w _ (Nat.le_refl _))
  have B0 : Hid (Below w.heap.size w (w.alloc (.cells #[.string ⟨#[47]⟩,.string ⟨#[47]⟩] 92))):=hyq (below_new _ _)
  go_enter Tryz.func45,Tryz.ntmps45
  go_wp2_with fail
  go_loopw [3,5,6,18,19,20,21,22,23,24,25,26,27,28,29,30,31,32,33,34,35,36,37,38,39,40,41,42,43,44,45,46,47,48,49,50,51,52,53,54,55,56,57,58,59,60,61,62,63,64] (fun o _ _ i _ _ _ _ _ _ _ _ _ _ _ _ _ _ _ _ _ _ _ _ _ _ _ _ _ _ _ _ _ _ _ _ _ _ _ _ _ _ _ _ _ _ _ _ _ _ W => ∃ (k : Nat) (st : List Lv),k ≤ n ∧ i = .int .i64 k ∧ Hid (runV (l.take k) = some st) ∧ Hid (OwnL W w.heap.size o st) ∧ Hid (Below w.heap.size w W)) (fun _ _ _ i _ _ _ _ _ _ _ _ _ _ _ _ _ _ _ _ _ _ _ _ _ _ _ _ _ _ _ _ _ _ _ _ _ _ _ _ _ _ _ _ _ _ _ _ _ _ _ => n - (Lib.intOf i).toNat)
  case atStart => exact ⟨0,_,Nat.zero_le _,rfl,hyq rfl,X0,B0⟩
  case round =>
   clear X0 B0 r0
   obtain ⟨k,st,hk,rfl,HR,HO,HB⟩:=hrel
   obtain ⟨wq,hwq⟩:=nmq (wr)
   rw [← hwq] at HB HO ⊢
   clear hwq
   obtain ⟨a3,c3,hv3,hc3,hc3m⟩:=HO.out.nil_form
   subst hv3
   obtain ⟨m,hm⟩:=nmq (st.length)
   rw [← hm] at HO hc3 ⊢
   have HM:=hyq hm
   unfold maxLen at hc3m
   clear hm
   by_cases hlt : k < n
   ·obtain ⟨x,hx⟩ : ∃ x,l[k]? = some x:=⟨_,List.getElem?_eq_getElem (by have:=HN.out; omega)⟩
    obtain ⟨g,o,rfl,hg,hc⟩:=HC.out (by omega)
    obtain ⟨q0,q1,q2⟩:=(hc k x hx).on hg HB.out
    have HX:=hyq hx
    have k1 : (k : Int) < (n : Int):=by omega
    have k2 : (0 : Int) ≤ (k : Int):=by omega
    have k4 : IntKind.i64.wrap ((k : Int) + 1) = (k : Int) + 1:=IntWalk.i64_in _ (by omega)
    have hxz:=HZ.out x (List.mem_of_getElem? hx)
    have X1 : Box (wq.alloc (.cells #[.string ⟨x.path.toArray⟩,.int .i64 x.kind,.string ⟨x.data.toArray⟩] 59)) wq.heap.size 59 x.arr:=box_new
    have HO1 : Hid (OwnL (wq.alloc (.cells #[.string ⟨x.path.toArray⟩,.int .i64 x.kind,.string ⟨x.data.toArray⟩] 59)) w.heap.size (.slice a3 m c3) st):=hyq (HO.out.on (below_new _ _))
    have HB1 : Hid (Below w.heap.size w (wq.alloc (.cells #[.string ⟨x.path.toArray⟩,.int .i64 x.kind,.string ⟨x.data.toArray⟩] 59))):=hyq (bch HB.out (below_new _ _))
    obtain ⟨c0,c1,c2⟩:=X1.it
    have HX1:=hyq X1
    clear hx hc X1
    obtain ⟨u,hu⟩ : ∃ u,upL x.path = u:=⟨_,rfl⟩
    have HU:=hyq hu
    have HRD : Hid (stepV st x = none → validT l = false):=hyq (fun hs => by
     have h1 : runV (l.take (k + 1)) = none:=by
      rw [List.take_add_one,HX.out,Option.toList_some,runV_snoc,HR.out]; exact hs
     unfold validT
     rw [runV_dead _ _ h1 (List.take_prefix _ _)]
     simp)
    clear hu
    go_upto_region 7 with fail
    obtain ⟨w1,hw1⟩:=nmq (wq.alloc (.cells #[.string ⟨x.path.toArray⟩,.int .i64 x.kind,.string ⟨x.data.toArray⟩] 59))
    obtain ⟨b5,hb5⟩:=nmq (wq.heap.size)
    rw [← hw1,← hb5] at HX1 c0 c1 c2 ⊢
    rw [← hw1] at HO1 HB1
    clear hw1 hb5 q0 q1 q2 HO HB
    go_wp2_with fail
    refine (up_is x.path hxz u HU.out _).mono ?_
    rintro e w2 ⟨rfl,hb2⟩
    have HO2:=hyq (HO1.out.on hb2)
    have HX2:=hyq (HX1.out.on hb2)
    have HB2:=hyq (bch HB1.out hb2)
    obtain ⟨d0,d1,d2⟩:=HX2.out.it
    clear c0 c1 c2 hb2 HO1 HX1 HB1
    cases hst : leaveL st u with
    | nil =>
     have HL:=hyq hst
     have HF : Hid (validT l = false):=hyq (HRD.out (by unfold stepV; rw [HU.out,HL.out]))
     clear hst
     go_wp2_with fail
     refine (leave_is st a3 m c3 0 u _ _ HO2.out HM.out (by rw [HL.out]; rfl)).mono ?_
     rintro e w' ⟨rfl,rfl⟩
     go_wp2_with fail
     go_quiet (fail)
     go_wp2_with fail
     go_ret
     exact ⟨retb HF.out.symm,below_drewN' HB2.out _⟩
    | cons e r =>
     obtain ⟨d',lb⟩:=e
     obtain ⟨j,hj⟩:=nmq (r.length)
     have HL:=hyq hst
     have HJ:=hyq hj
     have HO3 : Hid (OwnL w2 w.heap.size (.slice a3 (j + 1) c3) ((d',lb) :: r)):=hyq (by
      obtain ⟨s1,hs1⟩ : ∃ s1,st = s1 ++ ((d',lb) :: r):=by
       obtain ⟨s1,hs1⟩:=List.dropWhile_suffix (l:=st) (fun e : Lv => e.1 != u)
       refine ⟨s1,?_⟩
       rw [← hst]; exact hs1.symm
      have h1:=HO2.out
      rw [HM.out,hs1] at h1
      have h2:=h1.pop
      rw [List.length_cons,← hj] at h2
      exact h2)
     obtain ⟨g3,c3',hv3,hg3b,hg3,hjc,-,e0,e1,e1f⟩:=HO3.out.form
     rw [← hj] at hv3 hjc e0 e1 e1f
     injection hv3 with i1 _ i3
     subst i1 i3
     have j0 : IntKind.i64.wrap ((j : Int) + 1 - 1) = (j : Int):=by rw [show (j : Int) + 1 - 1 = (j : Int) by omega]; exact IntWalk.i64_in _ (by omega)
     have j1 : decide ((j : Int) < 0) = false:=decide_eq_false (by omega)
     have j2 : (0 : Int) ≤ (j : Int):=by omega
     have j3 : (j : Int) < (j : Int) + 1:=by omega
     clear hst hj
     go_wp2_with fail
     refine (leave_is st _ m c3 (j + 1) u _ _ HO2.out HM.out (by rw [HL.out,HJ.out]; rfl)).mono ?_
     rintro e w' ⟨rfl,rfl⟩
     go_upto_region 9 with fail
     by_cases hle : Lib.compareBytes x.path lb ≤ 0
     ·have HF : Hid (validT l = false):=hyq (HRD.out (by unfold stepV; rw [HU.out,HL.out]; simp only; rw [if_pos (.inl hle)]))
      have t1 : (Op.bytesLess x.path lb || x.path == lb) = true:=by rw [bl_cb]; exact decide_eq_true hle
      clear hle
      go_quiet (fail)
      go_wp2_with fail
      go_ret
      exact ⟨retb HF.out.symm,below_drewN' HB2.out _⟩
     ·have t1 : (Op.bytesLess x.path lb || x.path == lb) = false:=by rw [bl_cb]; exact decide_eq_false hle
      have HLE:=hyq hle
      clear hle
      cases hd : x.dataB with
      | false =>
       have HD:=hyq hd
       have HF : Hid (validT l = false):=hyq (HRD.out (by unfold stepV; rw [HU.out,HL.out]; simp only; rw [if_pos (.inr HD.out)]))
       clear hd
       go_still_tail 14,(by kernel_rfl)
       go_wp2_with fail
       refine (vdata_is x false HD.out _).mono ?_
       rintro e w4 ⟨rfl,hb4⟩
       go_wp2_with fail
       go_ret
       exact ⟨retb HF.out.symm,bch (below_drewN' HB2.out _) hb4⟩
      | true =>
       have HD:=hyq hd
       clear hd
       go_still_tail 14,(by kernel_rfl)
       go_wp2_with fail
       refine (vdata_is x true HD.out _).mono ?_
       rintro e w4 ⟨rfl,hb4⟩
       have HO4 : Hid (OwnL w4 w.heap.size (.slice (some ⟨g3,0,none⟩) (j + 1) c3) ((d',lb) :: r)):=hyq (OwnL.on (w:=World.drewN w2 _) HO3.out hb4)
       have HX4 : Hid (Box w4 b5 59 x.arr):=hyq (Box.on (w:=World.drewN w2 _) HX2.out hb4)
       have HB4:=hyq (bch (below_drewN' HB2.out _) hb4)
       have hlen:=runV_len _ _ HR.out
       have hjm : j + 1 ≤ m:=by
        have h1 : ((d',lb) :: r).length ≤ st.length:=by rw [← HL.out]; exact (List.dropWhile_sublist _).length_le
        rw [List.length_cons,← HJ.out,← HM.out] at h1
        exact h1
       have hjb : j ≤ 2001:=by
        rw [← HM.out,List.length_take] at hlen
        omega
       have HSTEP:=hyq (step_yes HU.out HL.out (by have:=HLE.out; omega) HD.out)
       have HRN : Hid (runV (l.take (k + 1)) = some (if x.kind = 1 then (x.path,x.path) :: (d',x.path) :: r else (d',x.path) :: r)):=hyq (by
        rw [List.take_add_one,HX.out,Option.toList_some,runV_snoc,HR.out]; exact HSTEP.out)
       have hne:=HO4.out.ne HX4.out
       obtain ⟨g4,c4,hv4,-,hg4,-,-,-,f1,f1f⟩:=HO4.out.form
       injection hv4 with i1 i2 i3
       clear i2 i3
       injection i1 with i1
       injection i1 with i1 i2 i3
       clear i2 i3
       subst i1
       rw [← HJ.out] at f1 f1f
       obtain ⟨x0,x1,x2⟩:=HX4.out.it
       obtain ⟨w5,hw5⟩:=nmq (w4.setCell ⟨g3,j * 2 + 1,none⟩ (.string ⟨x.path.toArray⟩))
       have HO5 : Hid (OwnL w5 w.heap.size (.slice (some ⟨g3,0,none⟩) (j + 1) c3) ((d',x.path) :: r)):=hyq (by
        have:=HO4.out
        rw [HJ.out] at this
        rw [hw5,HJ.out]
        exact this.store x.path)
       have HX5 : Hid (Box w5 b5 59 x.arr):=hyq (by rw [hw5]; exact HX4.out.far hne _)
       have HB5 : Hid (Below w.heap.size w w5):=hyq (by rw [hw5]; exact HB4.out.setCell (p:=⟨g3,j * 2 + 1,none⟩) hg3b _)
       clear hlen hjm hne d0 d1 d2 e0 e1 e1f hb4 HO2 HO3 HX2 HB2 t1
       go_upto_region 12 with fail
       rw [← hw5]
       clear hw5 f1 f1f x0 x1 x2 HO4 HX4 HB4
       obtain ⟨x0,x1,x2⟩:=HX5.out.it
       by_cases hk1 : x.kind = 1
       ·have t1 : (x.kind == 1) = true:=by simp [hk1]
        have HRY : Hid (runV (l.take (k + 1)) = some ((x.path,x.path) :: (d',x.path) :: r)):=hyq (by rw [HRN.out,if_pos hk1])
        obtain ⟨i0,hi,hz0,hz1,hz2⟩:=info_parts info109z
        have hws : w.heap.size ≤ w5.heap.size:=HB5.out.size
        have HOF : Hid (w5.ownsRow w.heap.size 92 2 (.slice (some ⟨g3,0,none⟩) (j + 1) c3) (j + 1) (flatL ((d',x.path) :: r).reverse)):=hyq (by
         have:=HO5.out
         unfold OwnL at this
         rw [List.length_cons,← HJ.out] at this
         exact this)
        have HNW:=hyq (two_new w5 (.string ⟨x.path.toArray⟩) (.string ⟨x.path.toArray⟩))
        clear hk1
        go_wp2_with (at_builtin; refine wpList_append_own _ rfl _ _ 93 rfl w.heap.size 92 i0 (.agg #[.string ⟨#[]⟩,.string ⟨#[]⟩]) 2 32 Tryz.underlying93 hi hz0 hz1 hz2 rfl (by decide) _ _ _ rfl (HOF.out.alloc _) ⟨w5.heap.size,0,none⟩ 1 1 [.string ⟨x.path.toArray⟩,.string ⟨x.path.toArray⟩] rfl rfl HNW.out (by simp [Value.oneCell']) (by unfold maxLen; omega) (by omega) (by simp; omega) ?_)
        intro v6 w6 hown6 hgrow6 _
        have HO6 : Hid (OwnL w6 w.heap.size v6 ((x.path,x.path) :: (d',x.path) :: r)):=hyq (owns_l2 (st:=(d',x.path) :: r) (by rw [List.length_cons,← HJ.out,List.reverse_cons]; exact hown6))
        have HB6 : Hid (Below w.heap.size w w6):=hyq ((HB5.out.alloc hws _).grown hgrow6 (by simp; omega) (by intro q hq; simp [Value.ownBlock] at hq; omega))
        clear hown6 hgrow6
        go_wp2_with fail
        go_roundw
        case rel => exact ⟨k + 1,_,hlt,by go_num,HRY,HO6,HB6⟩
        case measure => simp [Lib.intOf]; omega
       ·have t1 : (x.kind == 1) = false:=by simp [hk1]
        have HRY : Hid (runV (l.take (k + 1)) = some ((d',x.path) :: r)):=hyq (by rw [HRN.out,if_neg hk1])
        clear hk1
        go_wp2_with fail
        go_roundw
        case rel => exact ⟨k + 1,_,hlt,by go_num,HRY,HO5,HB5⟩
        case measure => simp [Lib.intOf]; omega
   ·have k1 : ¬ ((k : Int) < (n : Int)):=by omega
    have HF : Hid (validT l = true):=hyq (by
     have h1:=HR.out
     rw [List.take_of_length_le (by have:=HN.out; omega)] at h1
     unfold validT
     rw [h1,decide_eq_true (by have:=HN.out; omega)]; rfl)
    go_wp2_with fail
    go_ret
    exact ⟨retb HF.out.symm,HB.out⟩
theorem tvalid_is (l : List It) (b : Bool) (hb : b = validT l) (v : Value) (w : World) (hv : RdI w v l) (hsz : ∀ x ∈ l,x.path.length ≤ 140737488355328) (hT : Tabs w) : Calls Tryz.prog 45 #[v] w fun e w' => e = .returned (.bool b) ∧ Below w.heap.size w w':=by
 rw [hb]; exact tvalid_any l v w hv hsz hT
end Go.Proofs.YtigopecainocgaaGreatDoor
namespace Go.Proofs.YtigopecainocgaaGreatDoor
open Go.RowKit Go.Shelf
theorem built35 (p d : ByteArray) (k : Int) : Tryz.prog.built 59 [(0,.string p),(1,.int .i64 k),(2,.string d)] = some #[.string p,.int .i64 k,.string d]:=by kernel_rfl
theorem info24 (v : Value) : (Tryz.prog.info? 24).map (·.size) = some (#[v] : Array Value).size:=by
 show _ = some 1
 kernel_rfl
theorem slice_one (a : Option Addr) (n c : Nat) : (#[Value.slice a n c]).all (·.oneCell') = true:=by simp [Value.oneCell']
theorem own_base {w : World} {B B' s n : Nat} {e : TypeId} {v : Value} {xs : List Value} (h : w.ownsRow B e s v n xs) (hb : B' ≤ B) : w.ownsRow B' e s v n xs:=by
 refine ⟨h.1,?_⟩
 rcases h.2 with h0 | ⟨g,cap,cur,hv,hB,hr⟩
 ·exact .inl h0
 ·exact .inr ⟨g,cap,cur,hv,Nat.le_trans hb hB,hr⟩
end Go.Proofs.YtigopecainocgaaGreatDoor
namespace Go.Proofs.YtigopecainocgaaGreatDoor
open Go.RowKit Go.Shelf
theorem it_eq (a b : It) : a = b ↔ a.path = b.path ∧ a.kind = b.kind ∧ a.data = b.data:=by
 cases a
 cases b
 simp [It.mk.injEq]
theorem eq35 (a b : It) (w : World) : (Op.equalIn 10000 59 (.agg #[.string ⟨a.path.toArray⟩,.int .i64 a.kind,.string ⟨a.data.toArray⟩]) (.agg #[.string ⟨b.path.toArray⟩,.int .i64 b.kind,.string ⟨b.data.toArray⟩])).run Tryz.prog w = .ok (decide (a = b)) w:=by
 have u3:=Tryz.underlying3
 have a3:=Tryz.isAgg3
 have z3:=Tryz.sizeOf3
 have u9:=Tryz.underlying9
 have a9:=Tryz.isAgg9
 have z9:=Tryz.sizeOf9
 have hS : Tryz.prog.underlying 59 = some (.struct (Tryz.prog.fieldsOf 59)):=by kernel_rfl
 have hp : Tryz.prog.stoodInHeld 59 = false:=by kernel_rfl
 have hv:=it_eq a b
 rw [show (10000 : Nat) = 9999 + 1 from rfl,run_equalIn_agg w 9999 59 _ _ hS hp]
 simp only [Program.fieldsOf,Tryz.underlying59]
 go_simp
 clear u3 a3 z3 u9 a9 z9 hS hp
 by_cases h0 : a.path = b.path <;> by_cases h1 : a.kind = b.kind <;> by_cases h2 : a.data = b.data <;> simp [h0,h1,h2]
end Go.Proofs.YtigopecainocgaaGreatDoor
namespace Go.Proofs.YtigopecainocgaaGreatDoor
open Go.RowKit Go.Shelf
theorem results_two {P : Program} {fn : Func} {p q : Tmp} {ty : TypeId} (h : fn.results = #[.cell p ty,.tmp q]) (tmps : Array Value) (w : World) (g : Nat) (hp : tmps.getD p undef = .pointer (some ⟨g,0,none⟩)) (cs : Array Value) (hr : (loadVar ty ⟨g,0,none⟩).run P w = .ok (.agg cs) w) :
  (results fn tmps).run P w = .ok (.tuple #[.agg cs,tmps.getD q undef]) w:=by
 have e : tmps[p]?.getD undef = .pointer (some ⟨g,0,none⟩):=by rw [← hp]; simp
 simp [results,h,e,asAddr,hr]
theorem end_item {fn : Func} {p q : Tmp} (h : fn.results = #[.cell p 59,.tmp q]) (tmps : Array Value) {w : World} {g : Nat} {y : It} (X : Box w g 59 y.arr) (hp : tmps.getD p undef = .pointer (some ⟨g,0,none⟩)) {v : Value} (hq : tmps.getD q undef = v) :
  (results fn tmps).run Tryz.prog w = .ok (.tuple #[.agg y.arr,v]) w:=by
 rw [← hq]
 exact results_two h tmps w g hp y.arr (run_loadVar_row _ g 59 59 y.arr (0,0) _ X Tryz.underlying59 rfl (info35 _))
theorem find1_any (l : List It) (a : Option Addr) (n c b2 b3 k : Nat) (x : It) (p : ByteArray) (w : World) (hn : n = l.length) (hk : l[k]? = some x) (X2 : Box w b2 22 #[.slice a n c]) (X3 : Box w b3 9 #[.string p]) (hv : RdI w (.slice a n c) l) (hx : x.path.length ≤ 140737488355328) (hp : p.size ≤ 140737488355328) :
  Calls Tryz.prog 95 #[.int .i64 k,.pointer (some ⟨b2,0,none⟩),.pointer (some ⟨b3,0,none⟩)] w fun e w' => e = .returned (.bool (decide (0 ≤ cmpL x.path p.data.toList))) ∧ Below w.heap.size w w':=by
 have hkn : k < n:=by rw [hn]; exact (List.getElem?_eq_some_iff.1 hk).1
 obtain ⟨a',c',e,_,hcm,hc⟩:=hv.open
 rw [← hn] at e
 cases e
 obtain ⟨g,o,rfl,hg,hc⟩:=hc (by omega)
 obtain ⟨q0,_,_⟩:=hc k x hk
 have d2 : w.cell? ⟨b2,0,none⟩ = some (.slice (some ⟨g,o,none⟩) n c):=X2.cell (k:=0) rfl
 have d3 : w.cell? ⟨b3,0,none⟩ = some (.string p):=X3.cell (k:=0) rfl
 have k1 : (k : Int) < (n : Int):=by omega
 have k2 : (0 : Int) ≤ (k : Int):=by omega
 have HC:=hyq (cmp_any ⟨x.path.toArray⟩ p hx hp)
 clear hk X2 X3 hv hc hn
 go_enter Tryz.func95,Tryz.ntmps95
 go_upto_region 1 with fail
 go_still_tail 6,(by kernel_rfl)
 go_wp2_with fail
 refine (HC.out _).mono ?_
 rintro e w2 ⟨rfl,hb⟩
 obtain ⟨q,hq⟩:=nmq (cmpL (⟨x.path.toArray⟩ : ByteArray).data.toList p.data.toList)
 rw [← hq]
 have HQ:=hyq hq
 have HB:=hyq hb
 clear hq hb
 go_wp2_with fail
 go_ret
 exact ⟨by rw [HQ.out]; rfl,bch ((Below.refl _ _).drew) HB.out⟩
def Spot (l : List It) (p : Str) (r : Nat) : Prop:=r ≤ l.length ∧ (∀ (j : Nat) (x : It),l[j]? = some x → j < r → cmpL x.path p < 0) ∧ ∀ (j : Nat) (x : It),l[j]? = some x → r ≤ j → 0 ≤ cmpL x.path p
theorem search_any (l : List It) (a : Option Addr) (n c b2 b3 : Nat) (p : ByteArray) (w : World) (hn : n = l.length) (hn2 : n ≤ 2000) (X2 : Box w b2 22 #[.slice a n c]) (X3 : Box w b3 9 #[.string p]) (hv : RdI w (.slice a n c) l) (hx : ∀ x ∈ l,x.path.length ≤ 140737488355328) (hp : p.size ≤ 140737488355328)
  (hs : ∀ (i j : Nat) (x y : It),l[i]? = some x → l[j]? = some y → i ≤ j → 0 ≤ cmpL x.path p.data.toList → 0 ≤ cmpL y.path p.data.toList) :
  Calls Tryz.prog 94 #[.int .i64 n,.func (.func 95) #[] #[.pointer (some ⟨b2,0,none⟩),.pointer (some ⟨b3,0,none⟩)]] w fun e w' => ∃ r,Spot l p.data.toList r ∧ e = .returned (.int .i64 r) ∧ Below w.heap.size w w':=by
 have HN:=hyq hn
 have HS:=hyq hs
 have HX:=hyq hx
 have HV:=hyq hv
 have HX2:=hyq X2
 have HX3:=hyq X3
 have hnI : (n : Int) ≤ 2000:=by omega
 clear hs hx hv X2 X3 hn
 go_enter Tryz.func94,Tryz.ntmps94
 go_wp2_with fail
 go_loopw [5,6] (fun i j W => ∃ a b : Nat,a ≤ b ∧ b ≤ n ∧ i = .int .i64 a ∧ j = .int .i64 b ∧ Hid (∀ (j : Nat) (x : It),l[j]? = some x → j < a → cmpL x.path p.data.toList < 0) ∧ Hid (∀ (j : Nat) (x : It),l[j]? = some x → b ≤ j → 0 ≤ cmpL x.path p.data.toList) ∧ Hid (Below w.heap.size w W)) (fun i j _ => (Lib.intOf j).toNat - (Lib.intOf i).toNat)
 case atStart => exact ⟨0,n,Nat.zero_le _,Nat.le_refl _,rfl,rfl,hyq (fun j x _ h => absurd h (Nat.not_lt_zero _)),hyq (fun j x h h2 => absurd (List.getElem?_eq_some_iff.1 h).1 (by rw [← HN.out]; omega)),hyq (Below.refl _ _)⟩
 case round =>
  obtain ⟨i,j,hij,hjn,rfl,rfl,HLo,HHi,HBk⟩:=hrel
  obtain ⟨wq,hwq⟩:=nmq (wr)
  rw [← hwq] at HBk ⊢
  clear hwq
  by_cases hlt : i < j
  ·have k1 : (i : Int) < (j : Int):=by omega
   have k0 : IntKind.i64.wrap ((i : Int) + (j : Int)) = (i : Int) + (j : Int):=IntWalk.i64_in _ (by omega)
   obtain ⟨h,hh⟩:=nmq ((i + j) / 2)
   have hih : i ≤ h:=by omega
   have hhj : h < j:=by omega
   obtain ⟨x,hx⟩ : ∃ x,l[h]? = some x:=⟨_,List.getElem?_eq_getElem (by rw [← HN.out]; omega)⟩
   have HC : Hid (Calls Tryz.prog 95 #[.int .i64 h,.pointer (some ⟨b2,0,none⟩),.pointer (some ⟨b3,0,none⟩)] wq fun e w' => e = .returned (.bool (decide (0 ≤ cmpL x.path p.data.toList))) ∧ Below wq.heap.size wq w'):=hyq (find1_any l a n c b2 b3 h x p wq HN.out hx (HX2.out.on HBk.out) (HX3.out.on HBk.out) (HV.out.on HBk.out) (HX.out x (List.mem_of_getElem? hx)) hp)
   have HH:=hyq hx
   clear hx
   go_wp2_with fail
   rw [show ((i : Int) + (j : Int)) / 2 = (h : Int) by omega]
   refine HC.out.mono ?_
   rintro e w2 ⟨rfl,hb⟩
   have HB2:=hyq (bch HBk.out hb)
   obtain ⟨t,ht⟩:=nmq (decide (0 ≤ cmpL x.path p.data.toList))
   rw [← ht]
   have k5 : IntKind.i64.wrap ((h : Int) + 1) = (h : Int) + 1:=IntWalk.i64_in _ (by omega)
   have HT:=hyq ht
   clear hb HC ht hh
   cases t with
   | true =>
    have h0 : 0 ≤ cmpL x.path p.data.toList:=of_decide_eq_true HT.out.symm
    have HHi2 : Hid (∀ (q : Nat) (y : It),l[q]? = some y → h ≤ q → 0 ≤ cmpL y.path p.data.toList):=hyq (fun q y hq hle => HS.out h q x y HH.out hq hle h0)
    clear h0
    go_wp2_with fail
    go_roundw
    case rel => exact ⟨i,h,hih,by omega,rfl,rfl,HLo,HHi2,HB2⟩
    case measure => simp [Lib.intOf]; omega
   | false =>
    have h0 : ¬ 0 ≤ cmpL x.path p.data.toList:=of_decide_eq_false HT.out.symm
    have HLo2 : Hid (∀ (q : Nat) (y : It),l[q]? = some y → q < h + 1 → cmpL y.path p.data.toList < 0):=hyq (fun q y hq hle => by
     by_cases hy : 0 ≤ cmpL y.path p.data.toList
     ·exact absurd (HS.out q h y x hq HH.out (by omega) hy) h0
     ·omega)
    clear h0
    go_wp2_with fail
    go_roundw
    case rel => exact ⟨h + 1,j,by omega,hjn,by go_num,rfl,HLo2,HHi,HB2⟩
    case measure => simp [Lib.intOf]; omega
  ·have k1 : ¬ ((i : Int) < (j : Int)):=by omega
   obtain rfl : i = j:=by omega
   have HSP : Hid (Spot l p.data.toList i):=hyq ⟨by rw [← HN.out]; exact hjn,HLo.out,HHi.out⟩
   go_wp2_with fail
   go_ret
   exact ⟨i,HSP.out,rfl,HBk.out⟩
theorem sorted_up {l : List It} (h : l.Pairwise fun a b => cmpL a.path b.path < 0) {i j : Nat} {x y : It} (hi : l[i]? = some x) (hj : l[j]? = some y) (hij : i < j) : cmpL x.path y.path < 0:=by
 obtain ⟨h1,rfl⟩:=List.getElem?_eq_some_iff.1 hi
 obtain ⟨h2,rfl⟩:=List.getElem?_eq_some_iff.1 hj
 exact List.pairwise_iff_getElem.1 h i j h1 h2 hij
theorem ba_of {p : ByteArray} {s : Str} (h : p.data.toList = s) : p = ⟨s.toArray⟩:=by subst h; cases p; rfl
theorem tget_root (l : List It) (v : Value) (w : World) (hv : RdI w v l) (hT : Tabs w) :
  Calls Tryz.prog 49 #[v,.string ⟨#[47]⟩] w fun e w' => e = .returned (.tuple #[.agg It.root.arr,.bool true]) ∧ Below w.heap.size w w':=by
 obtain ⟨a,c,rfl,_⟩:=hv.open
 obtain ⟨w1,hw1⟩:=nmq (w.alloc (.cells #[.string ⟨#[]⟩,.int .i64 0,.string ⟨#[]⟩] 59))
 have X : Hid (Box w1 w.heap.size 59 It.nil.arr):=hyq (by rw [hw1]; exact box_new)
 have HB : Hid (Below w.heap.size w w1):=hyq (by rw [hw1]; exact below_new _ _)
 have T:=hT.on HB.out
 have r0:=T.r0
 have r1:=T.r1
 have r2:=T.r2
 clear hv hT T
 go_enter Tryz.func49,Tryz.ntmps49
 go_upto_region 1 with fail
 rw [← hw1]
 clear hw1
 go_wp2_with (refine wpList_store_row rfl 59 (.tmp 4) (.tmp 12) rfl w.heap.size It.root.arr rfl rfl 59 _ X.out (info35 _) rfl (iarr_one _) ?_)
 exact bodyPost_ret (end_item rfl _ (X.out.row _) rfl rfl) rfl ⟨rfl,below_row HB.out (Nat.le_refl _) _⟩
end Go.Proofs.YtigopecainocgaaGreatDoor
