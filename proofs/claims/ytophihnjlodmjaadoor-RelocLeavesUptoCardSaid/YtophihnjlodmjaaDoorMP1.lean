/- Proved here: what rows of texts that are somebody's own read. | The contracts of the library's functions that the program calls, laid at this program's numbers: each is one application of the guide's own theorem. | Plain words on texts: names, parts, paths. Nothing of the program stands here. | Plain words on paths. | Plain words on paths: names and paths lead back to one another; what is under what; the order; what a text means at a path. | Plain words on paths: what the stage's theorem comes to. | Plain words on the order of texts, rows of names, and paths: it is one; what stands under a path stands behind it, side by side; and on rows that stand in order. | Proved here: letter, and Name of package path: what each hands back for every text. | Proved here: strings.Cut, and what it calls, at a slash: what each hands back for every text of at most 2^47 bytes. | Proved here: What parts of package path hands out, part by part, whatever the loop over it does: the parts between the slashes, in order, or a first row of them. | Proved here: valid of package path at a text with a slash ahead, at the root, and at any other text. | Proved here: valid and split of package path: whether a text is a path; the parts of a text in a new slice. | Proved here: Check and Names of package path for every text. | Proved here: cutLast of package path by the place of the last slash. | Proved here: cutLast, Up, Base and behind of package path for every text. | Proved here: Under, Beneath, compareNames and Compare of package path for every two texts. -/
import Derived.Test.YtophihnjlodmjaaDoorShelf
import Derived.Shelf.Strings.OnBuilder
import Derived.Shelf.Small.Strs
import Derived.Shelf.Small.Wraps
import Derived.Shelf.Strings.Search1
import Derived.Shelf.Strings.Count
import Derived.Shelf.Strings.LastIndex
import Derived.Shelf.Strings.Prefix
import Derived.Shelf.Slices.Equal
import Derived.Shelf.Slices.Clone
import Derived.Shelf.Slices.Empties2
import Derived.Test.YtophihnjlodmjaaDoorProg
import Derived.Below
import Derived.Lib.Join
import Derived.Lib.Bytealg
import Derived.Test.YtophihnjlodmjaaDoorRows
import Derived.WalkKit
import Derived.Lib.Strings
import Derived.Lib.Hide
import Derived.WalkSpells
import Derived.WalkLawsBesides
import Derived.Deep.QuietTactic
import Derived.BigQuiet
import Derived.IntWalk
import Derived.ShutString
import Derived.Lib.IndexBytes
import Derived.RangeFuncNested
import Derived.RangeFuncBound
import Derived.RangeFuncCalls
import Derived.RangeFuncLeaves
import Derived.Shelf.Abstract
import Derived.Shelf.RegionOpen
import Derived.OwnWalkIn
import Derived.TacticsInMore
import Derived.LoopNIn
import Derived.LoopIn
import Derived.RangeFuncBox
import Derived.Maps.AppendAt
import Derived.BigGuardPartIn
import Derived.Deep.AppendLies
namespace Go.Proofs
open Go.Shelf
def Tryd.lays106_ren : Go.Shelf.Ren := ⟨fun | 106 => 73 | 213 => 95 | 265 => 110 | n => n, fun | 9 => 9 | 3 => 3 | n => n, fun | n => n⟩
theorem Tryd.lays106 : Go.Proofs.Lays.n106 Tryd.prog Tryd.lays106_ren := {
  mixed := by kernel_rfl
  f106 := Tryd.func73.trans (congrArg some (by kernel_rfl))
  f213 := Tryd.func95.trans (congrArg some (by kernel_rfl))
  f265 := Tryd.func110.trans (congrArg some (by kernel_rfl))
  t3 := Tryd.underlying3
  a3 := Tryd.isAgg3
  z3 := Tryd.sizeOf3
  v3 := Tryd.zeroValue3
  t9 := Tryd.underlying9
  a9 := Tryd.isAgg9
  z9 := Tryd.sizeOf9
  v9 := Tryd.zeroValue9 }
open Go.RowKit in
theorem Tryd.strings_Compare (a b : ByteArray) (w : World) :
    Calls Tryd.prog 73 #[.string a, .string b] w fun e w' => e = .returned (.int .i64 (Lib.compareBytes a.data.toList b.data.toList)) ∧ w' = w := Any.strings_Compare Tryd.lays106 a b w
def Tryd.lays103_ren : Go.Shelf.Ren := ⟨fun | 103 => 90 | 210 => 105 | 206 => 41 | n => n, fun | 9 => 9 | 4 => 4 | 24 => 107 | 3 => 3 | n => n, fun | n => n⟩
theorem Tryd.lays103 : Go.Proofs.Lays.n103 Tryd.prog Tryd.lays103_ren := {
  mixed := by kernel_rfl
  f103 := Tryd.func90.trans (congrArg some (by kernel_rfl))
  f206 := Tryd.func41.trans (congrArg some (by kernel_rfl))
  f210 := Tryd.func105.trans (congrArg some (by kernel_rfl))
  t3 := Tryd.underlying3
  a3 := Tryd.isAgg3
  z3 := Tryd.sizeOf3
  v3 := Tryd.zeroValue3
  t4 := Tryd.underlying4
  a4 := Tryd.isAgg4
  z4 := Tryd.sizeOf4
  v4 := Tryd.zeroValue4
  t9 := Tryd.underlying9
  a9 := Tryd.isAgg9
  z9 := Tryd.sizeOf9
  v9 := Tryd.zeroValue9
  t24 := Tryd.underlying107
  a24 := Tryd.isAgg107
  z24 := Tryd.sizeOf107
  v24 := Tryd.zeroValue107 }
open Go.RowKit in
theorem Tryd.strings_CutPrefix (s p : ByteArray) (w : World) :
    Calls Tryd.prog 90 #[.string s, .string p] w fun e w' => e = .returned (.tuple #[.string ⟨(Lib.trimPrefix s.data.toList p.data.toList).toArray⟩, .bool (Lib.hasPrefix s.data.toList p.data.toList)]) ∧ w' = w := Any.strings_CutPrefix Tryd.lays103 s p w
def Tryd.lays122_ren : Go.Shelf.Ren := ⟨fun | 122 => 94 | 215 => 109 | n => n, fun | 3 => 3 | 4 => 4 | n => n, fun | n => n⟩
theorem Tryd.lays122 : Go.Proofs.Lays.n122 Tryd.prog Tryd.lays122_ren := {
  mixed := by kernel_rfl
  f122 := Tryd.func94.trans (congrArg some (by kernel_rfl))
  f215 := Tryd.func109.trans (congrArg some (by kernel_rfl))
  t3 := Tryd.underlying3
  a3 := Tryd.isAgg3
  z3 := Tryd.sizeOf3
  v3 := Tryd.zeroValue3
  t4 := Tryd.underlying4
  a4 := Tryd.isAgg4
  z4 := Tryd.sizeOf4
  v4 := Tryd.zeroValue4 }
open Go.RowKit in
theorem Tryd.cmp_Compare_int (x y : Int) (w : World) :
    Calls Tryd.prog 94 #[.int .i64 x, .int .i64 y] w fun e w' => e = .returned (.int .i64 (Lib.compareInt x y)) ∧ w' = w := Any.cmp_Compare_int Tryd.lays122 x y w
def Tryd.lays217_ren : Go.Shelf.Ren := ⟨fun | 217 => 74 | 266 => 96 | n => n, fun | 9 => 9 | 5 => 5 | 3 => 3 | n => n, fun | n => n⟩
theorem Tryd.lays217 : Go.Proofs.Lays.n217 Tryd.prog Tryd.lays217_ren := {
  mixed := by kernel_rfl
  f217 := Tryd.func74.trans (congrArg some (by kernel_rfl))
  f266 := Tryd.func96.trans (congrArg some (by kernel_rfl))
  t3 := Tryd.underlying3
  a3 := Tryd.isAgg3
  z3 := Tryd.sizeOf3
  v3 := Tryd.zeroValue3
  t5 := Tryd.underlying5
  a5 := Tryd.isAgg5
  z5 := Tryd.sizeOf5
  v5 := Tryd.zeroValue5
  t9 := Tryd.underlying9
  a9 := Tryd.isAgg9
  z9 := Tryd.sizeOf9
  v9 := Tryd.zeroValue9 }
open Go.RowKit Go.Lib in
theorem Tryd.stringslite_IndexByte (s : ByteArray) (c : Int) (w : World) :
    Calls Tryd.prog 74 #[.string s, .int .u8 c] w fun e w' => e = .returned (.int .i64 (Lib.indexByte s.data.toList c.toNat.toUInt8)) ∧ w' = w := Any.stringslite_IndexByte Tryd.lays217 s c w
def Tryd.lays138_ren : Go.Shelf.Ren := ⟨fun | 138 => 67 | 195 => 86 | 218 => 88 | 143 => 45 | 219 => 60 | 217 => 74 | 225 => 75 | 224 => 76 | 267 => 77 | 266 => 96 | 314 => 97 | n => n, fun | 9 => 9 | 3 => 3 | 4 => 4 | 5 => 5 | 0 => 0 | 46 => 93 | 146 => 116 | 51 => 115 | n => n, fun | 1 => 0 | n => n⟩
theorem Tryd.lays138 : Go.Proofs.Lays.n138 Tryd.prog Tryd.lays138_ren := {
  mixed := by kernel_rfl
  f138 := Tryd.func67.trans (congrArg some (by kernel_rfl))
  f143 := Tryd.func45.trans (congrArg some (by kernel_rfl))
  f195 := Tryd.func86.trans (congrArg some (by kernel_rfl))
  f217 := Tryd.func74.trans (congrArg some (by kernel_rfl))
  f218 := Tryd.func88.trans (congrArg some (by kernel_rfl))
  f219 := Tryd.func60.trans (congrArg some (by kernel_rfl))
  f224 := Tryd.func76.trans (congrArg some (by kernel_rfl))
  f225 := Tryd.func75.trans (congrArg some (by kernel_rfl))
  f266 := Tryd.func96.trans (congrArg some (by kernel_rfl))
  f267 := Tryd.func77.trans (congrArg some (by kernel_rfl))
  f314 := Tryd.func97.trans (congrArg some (by kernel_rfl))
  t0 := Tryd.underlying0
  a0 := Tryd.isAgg0
  z0 := Tryd.sizeOf0
  v0 := Tryd.zeroValue0
  t3 := Tryd.underlying3
  a3 := Tryd.isAgg3
  z3 := Tryd.sizeOf3
  v3 := Tryd.zeroValue3
  t4 := Tryd.underlying4
  a4 := Tryd.isAgg4
  z4 := Tryd.sizeOf4
  v4 := Tryd.zeroValue4
  t5 := Tryd.underlying5
  a5 := Tryd.isAgg5
  z5 := Tryd.sizeOf5
  v5 := Tryd.zeroValue5
  t9 := Tryd.underlying9
  a9 := Tryd.isAgg9
  z9 := Tryd.sizeOf9
  v9 := Tryd.zeroValue9
  t46 := Tryd.underlying93
  a46 := Tryd.isAgg93
  z46 := Tryd.sizeOf93
  v46 := Tryd.zeroValue93
  t51 := Tryd.underlying115
  a51 := Tryd.isAgg115
  z51 := Tryd.sizeOf115
  v51 := Tryd.zeroValue115
  t146 := Tryd.underlying116
  a146 := Tryd.isAgg116
  z146 := Tryd.sizeOf116
  v146 := Tryd.zeroValue116
  g1 := by kernel_rfl }
open Go.RowKit Go.Lib in
theorem Tryd.strings_Count_one (s : ByteArray) (c : UInt8) (w : World) :
    Calls Tryd.prog 67 #[.string s, .string ⟨#[c]⟩] w fun e w' => e = .returned (.int .i64 (Lib.countByte s.data.toList c)) ∧ w' = w := Any.strings_Count_one Tryd.lays138 s c w
def Tryd.lays149_ren : Go.Shelf.Ren := ⟨fun | 149 => 104 | 222 => 112 | n => n, fun | 9 => 9 | 5 => 5 | 3 => 3 | 4 => 4 | n => n, fun | n => n⟩
theorem Tryd.lays149 : Go.Proofs.Lays.n149 Tryd.prog Tryd.lays149_ren := {
  mixed := by kernel_rfl
  f149 := Tryd.func104.trans (congrArg some (by kernel_rfl))
  f222 := Tryd.func112.trans (congrArg some (by kernel_rfl))
  t3 := Tryd.underlying3
  a3 := Tryd.isAgg3
  z3 := Tryd.sizeOf3
  v3 := Tryd.zeroValue3
  t4 := Tryd.underlying4
  a4 := Tryd.isAgg4
  z4 := Tryd.sizeOf4
  v4 := Tryd.zeroValue4
  t5 := Tryd.underlying5
  a5 := Tryd.isAgg5
  z5 := Tryd.sizeOf5
  v5 := Tryd.zeroValue5
  t9 := Tryd.underlying9
  a9 := Tryd.isAgg9
  z9 := Tryd.sizeOf9
  v9 := Tryd.zeroValue9 }
open Go.RowKit Go.Lib in
theorem Tryd.strings_LastIndexByte (s : ByteArray) (c : Int) (hs : s.size < 4611686018427387904) (w : World) :
    Calls Tryd.prog 104 #[.string s, .int .u8 c] w fun e w' => e = .returned (.int .i64 (Lib.lastIndexByte s c)) ∧ w' = w := Any.strings_LastIndexByte Tryd.lays149 s c hs w
def Tryd.lays101_ren : Go.Shelf.Ren := ⟨fun | 101 => 80 | 208 => 108 | 206 => 41 | n => n, fun | 9 => 9 | 4 => 4 | 3 => 3 | n => n, fun | n => n⟩
end Go.Proofs

namespace Go.Proofs.YtophihnjlodmjaaDoor.Pt

abbrev Str := List UInt8

def letB (r : Int) : Bool := decide (97 ≤ r ∧ r ≤ 122 ∨ 48 ≤ r ∧ r ≤ 57 ∨ r = 46 ∨ r = 95 ∨ r = 43 ∨ r = 45)
def okB (c : UInt8) : Bool := letB (c.toNat : Int)
def nameB (s : Str) : Bool := decide (s ≠ [] ∧ s ≠ [46] ∧ s ≠ [46, 46] ∧ s.length ≤ 32) && s.all okB

theorem letB_high (r : Int) (h : 128 ≤ r) : letB r = false := by
  unfold letB; exact decide_eq_false (by omega)

theorem all_yes (s : ByteArray) (p : UInt8 → Bool) (h : ∀ j (hj : j < s.size), p s[j] = true) : s.data.toList.all p = true := by
  rw [List.all_eq_true]
  intro x hx
  obtain ⟨j, hj, rfl⟩ := List.mem_iff_getElem.1 hx
  exact h j (by simpa using hj)

theorem all_no (s : ByteArray) (p : UInt8 → Bool) (j : Nat) (hj : j < s.size) (h : p s[j] = false) : s.data.toList.all p = false := by
  rw [List.all_eq_false]
  exact ⟨s[j], by rw [List.mem_iff_getElem]; exact ⟨j, by simpa using hj, rfl⟩, by simp [h]⟩


theorem nameB_no (s : Str) (h : s = [] ∨ s = [46] ∨ s = [46, 46] ∨ 32 < s.length) : nameB s = false := by
  unfold nameB
  rw [decide_eq_false, Bool.false_and]
  rcases h with h | h | h | h
  · simp [h]
  · simp [h]
  · simp [h]
  · intro ⟨_, _, _, h4⟩; omega

theorem nameB_mid (s : Str) (h1 : s ≠ []) (h2 : s ≠ [46]) (h3 : s ≠ [46, 46]) (h4 : s.length ≤ 32) : nameB s = s.all okB := by
  unfold nameB
  rw [decide_eq_true ⟨h1, h2, h3, h4⟩, Bool.true_and]


/-! ### Cutting at a slash -/
def cut1 (l : Str) : Str × Str × Bool :=
  if 47 ∈ l then (l.takeWhile (· != 47), (l.dropWhile (· != 47)).drop 1, true) else (l, [], false)

def consHead (c : UInt8) : List Str → List Str
  | [] => [[c]]
  | h :: t => (c :: h) :: t
def cutP : Str → List Str
  | [] => [[]]
  | c :: s => if c = 47 then [] :: cutP s else consHead c (cutP s)

theorem cutP_cons (c : UInt8) (s : Str) : cutP (c :: s) = if c = 47 then [] :: cutP s else consHead c (cutP s) := rfl

theorem cutP_ne (l : Str) : cutP l ≠ [] := by
  cases l with
  | nil => simp [cutP]
  | cons c s =>
    rw [cutP_cons]
    by_cases h : c = 47
    · simp [h]
    · rw [if_neg h]
      cases cutP s <;> simp [consHead]

theorem cutP_last (l : Str) (h : 47 ∉ l) : cutP l = [l] := by
  induction l with
  | nil => rfl
  | cons c s ih =>
    simp only [List.mem_cons, not_or] at h
    rw [cutP_cons]
    rw [if_neg (fun e => h.1 e.symm), ih h.2]
    rfl

theorem cutP_step (l : Str) (h : 47 ∈ l) : cutP l = l.takeWhile (· != 47) :: cutP ((l.dropWhile (· != 47)).drop 1) := by
  induction l with
  | nil => simp at h
  | cons c s ih =>
    rw [cutP_cons, List.takeWhile_cons, List.dropWhile_cons]
    by_cases hc : c = 47
    · simp [hc]
    · have h' : 47 ∈ s := by
        rcases List.mem_cons.1 h with h | h
        · exact absurd h.symm hc
        · exact h
      rw [if_neg hc, ih h']
      simp [hc, consHead]

theorem cut1_yes (l : Str) (h : 47 ∈ l) : cut1 l = (l.takeWhile (· != 47), (l.dropWhile (· != 47)).drop 1, true) := by unfold cut1; rw [if_pos h]
theorem cut1_no (l : Str) (h : 47 ∉ l) : cut1 l = (l, [], false) := by unfold cut1; rw [if_neg h]

theorem cutP_cut1 (l : Str) : cutP l = (cut1 l).1 :: (if (cut1 l).2.2 = true then cutP (cut1 l).2.1 else []) := by
  by_cases h : 47 ∈ l
  · rw [cut1_yes l h, cutP_step l h]; simp
  · rw [cut1_no l h, cutP_last l h]; simp

theorem cut1_len (l : Str) (h : (cut1 l).2.2 = true) : (cut1 l).2.1.length < l.length := by
  by_cases hm : 47 ∈ l
  · rw [cut1_yes l hm]
    have h0 : 0 < l.length := List.length_pos_of_mem hm
    have := (List.dropWhile_sublist (l := l) (p := (· != 47))).length_le
    simp only [List.length_drop]
    omega
  · rw [cut1_no l hm] at h; simp at h

theorem cut1_le (l : Str) : (cut1 l).1.length ≤ l.length ∧ (cut1 l).2.1.length ≤ l.length := by
  by_cases hm : 47 ∈ l
  · rw [cut1_yes l hm]
    have h1 := (List.dropWhile_sublist (l := l) (p := (· != 47))).length_le
    have h2 := (List.takeWhile_sublist (l := l) (p := (· != 47))).length_le
    simp only [List.length_drop]
    omega
  · rw [cut1_no l hm]; simp

theorem take_while_len (l : Str) : l.take (l.takeWhile (· != 47)).length = l.takeWhile (· != 47) := by
  induction l with
  | nil => rfl
  | cons c s ih =>
    by_cases hc : c = 47
    · simp [hc]
    · rw [List.takeWhile_cons]; simp [hc, ih]

theorem drop_while_len (l : Str) : l.drop (l.takeWhile (· != 47)).length = l.dropWhile (· != 47) := by
  induction l with
  | nil => rfl
  | cons c s ih =>
    by_cases hc : c = 47
    · simp [hc]
    · rw [List.takeWhile_cons, List.dropWhile_cons]; simp [hc, ih]

theorem take_while_lt (l : Str) (h : 47 ∈ l) : (l.takeWhile (· != 47)).length < l.length := by
  induction l with
  | nil => simp at h
  | cons c s ih =>
    by_cases hc : c = 47
    · simp [hc]
    · have h' : 47 ∈ s := by
        rcases List.mem_cons.1 h with h | h
        · exact absurd h.symm hc
        · exact h
      rw [List.takeWhile_cons]; simp [hc, ih h']


theorem cut1_snd_le (l : Str) (n : Nat) (h : l.length ≤ n) : (cut1 l).2.1.length ≤ n := Nat.le_trans (cut1_le l).2 h

/-- What is still to come: the part at hand, and those of the rest, if there is more. -/
def tail1 (part rest : Str) (more : Bool) : List Str := part :: (if more = true then cutP rest else [])
theorem tail1_start (l : Str) : cutP l = tail1 (cut1 l).1 (cut1 l).2.1 (cut1 l).2.2 := cutP_cut1 l
theorem tail1_more (part rest : Str) : tail1 part rest true = part :: tail1 (cut1 rest).1 (cut1 rest).2.1 (cut1 rest).2.2 := by
  unfold tail1; rw [if_pos rfl, ← cutP_cut1 rest]
theorem tail1_last (part rest : Str) : tail1 part rest false = [part] := rfl

open Go.RowKit in
def msr : Value → Value → Nat
  | .string s, .bool true => s.size + 1
  | _, _ => 0
theorem msr_true (l : Str) : msr (.string ⟨l.toArray⟩) (.bool true) = l.length + 1 := by simp [msr, ByteArray.size]
theorem msr_lt (l : Str) : msr (.string ⟨(cut1 l).2.1.toArray⟩) (.bool (cut1 l).2.2) < msr (.string ⟨l.toArray⟩) (.bool true) := by
  rw [msr_true]
  by_cases h : (cut1 l).2.2 = true
  · have := cut1_len l h
    rw [h, msr_true]; omega
  · rw [Bool.eq_false_iff.2 h]
    show 0 < _
    omega

end Go.Proofs.YtophihnjlodmjaaDoor.Pt

namespace Go.Proofs.YtophihnjlodmjaaDoor.Pt

/-- Do these parts make a path's names? -/
def partsB (l : List Str) : Bool := decide (l.length ≤ 40) && l.all nameB
def validB : Str → Bool
  | c :: r => decide (c = 47) && (decide (r = []) || partsB (cutP r))
  | [] => false

theorem partsB_snoc_long (l m : List Str) (h : 40 < l.length) (hp : l <+: m) : partsB m = false := by
  unfold partsB
  have := hp.length_le
  rw [decide_eq_false (by omega), Bool.false_and]
theorem partsB_bad (l m : List Str) (x : Str) (hx : nameB x = false) (hm : x ∈ l) (hp : l <+: m) : partsB m = false := by
  unfold partsB
  have : m.all nameB = false := by
    rw [List.all_eq_false]
    exact ⟨x, hp.subset hm, by simp [hx]⟩
  rw [this, Bool.and_false]
theorem partsB_all (l : List Str) (h : l.length ≤ 40) (ha : l.all nameB = true) : partsB l = true := by
  unfold partsB; rw [decide_eq_true h, ha]; rfl
theorem validB_root : validB [47] = true := by simp [validB]
theorem validB_slash (r : Str) (h : r ≠ []) : validB (47 :: r) = partsB (cutP r) := by simp [validB, h]
theorem validB_bad (p : Str) (h : p.head? ≠ some 47) : validB p = false := by
  cases p with
  | nil => rfl
  | cons c r => simp at h; simp [validB, h]

theorem consHead_len (c : UInt8) (l : List Str) (h : l ≠ []) : (consHead c l).length = l.length := by
  cases l with
  | nil => exact absurd rfl h
  | cons a t => rfl
theorem cutP_count (l : Str) : (cutP l).length = l.count 47 + 1 := by
  induction l with
  | nil => rfl
  | cons c s ih =>
    rw [cutP_cons, List.count_cons]
    by_cases h : c = 47
    · simp [h, ih]
    · rw [if_neg h, consHead_len _ _ (cutP_ne s), ih]
      simp [h]
def splitL (s : Str) : List Str := if s = [] then [] else cutP s
end Go.Proofs.YtophihnjlodmjaaDoor.Pt

namespace Go.Proofs.YtophihnjlodmjaaDoor.Pt

def flat (l : List Str) : Str := Lib.joinTail [47] l
def joinL (l : List Str) : Str := 47 :: Lib.join l [47]
def namesL (p : Str) : List Str := splitL (p.drop 1)

theorem flat_nil : flat [] = [] := rfl
theorem flat_cons (x : Str) (r : List Str) : flat (x :: r) = 47 :: (x ++ flat r) := by simp [flat, Lib.joinTail]
theorem flat_append (l m : List Str) : flat (l ++ m) = flat l ++ flat m := by simp [flat, Lib.joinTail]
theorem join_cons (x : Str) (r : List Str) : Lib.join (x :: r) [47] = x ++ flat r := Lib.join_cons x r [47]
theorem joinL_nil : joinL [] = [47] := rfl
theorem joinL_flat (l : List Str) (h : l ≠ []) : joinL l = flat l := by
  cases l with
  | nil => exact absurd rfl h
  | cons x r => rw [joinL, join_cons, flat_cons]

theorem consHead_append (c : UInt8) (l m : List Str) (h : l ≠ []) : consHead c (l ++ m) = consHead c l ++ m := by
  cases l with
  | nil => exact absurd rfl h
  | cons a t => rfl

theorem cutP_app (a b : Str) : cutP (a ++ 47 :: b) = cutP a ++ cutP b := by
  induction a with
  | nil => rfl
  | cons c s ih =>
    rw [List.cons_append, cutP_cons, cutP_cons, ih]
    by_cases h : c = 47
    · simp [h]
    · rw [if_neg h, if_neg h, consHead_append _ _ _ (cutP_ne s)]

theorem cutP_flat (x : Str) (r : List Str) (hx : 47 ∉ x) (hr : ∀ y ∈ r, 47 ∉ y) : cutP (x ++ flat r) = x :: r := by
  induction r generalizing x with
  | nil => rw [flat_nil, List.append_nil, cutP_last x hx]
  | cons y r ih =>
    rw [flat_cons, cutP_app, cutP_last x hx, ih y (hr y (by simp)) (fun z hz => hr z (by simp [hz]))]
    rfl

theorem join_cutP (s : Str) : Lib.join (cutP s) [47] = s := by
  induction s with
  | nil => rfl
  | cons c s ih =>
    rw [cutP_cons]
    obtain ⟨h, t, e⟩ : ∃ h t, cutP s = h :: t := by
      cases e : cutP s with
      | nil => exact absurd e (cutP_ne s)
      | cons h t => exact ⟨h, t, rfl⟩
    rw [e, join_cons] at ih
    by_cases hc : c = 47
    · rw [if_pos hc, e, join_cons, flat_cons, ih, hc]; rfl
    · rw [if_neg hc, e, consHead, join_cons, List.cons_append, ih]

theorem name_ne (x : Str) (h : nameB x = true) : x ≠ [] ∧ x ≠ [46] ∧ x ≠ [46, 46] ∧ x.length ≤ 32 := by
  unfold nameB at h
  rw [Bool.and_eq_true] at h
  exact of_decide_eq_true h.1
theorem name_slash (x : Str) (h : nameB x = true) : 47 ∉ x := by
  unfold nameB at h
  rw [Bool.and_eq_true, List.all_eq_true] at h
  intro hm
  have := h.2 47 hm
  simp [okB, letB] at this

theorem parts_iff (l : List Str) : partsB l = true ↔ l.length ≤ 40 ∧ ∀ x ∈ l, nameB x = true := by
  unfold partsB
  rw [Bool.and_eq_true, List.all_eq_true, decide_eq_true_iff]

theorem join_valid (l : List Str) (h : partsB l = true) : validB (joinL l) = true ∧ namesL (joinL l) = l := by
  cases l with
  | nil => exact ⟨validB_root, rfl⟩
  | cons x r =>
    have hp := (parts_iff _).1 h
    have hx := hp.2 x (by simp)
    have hne : x ++ flat r ≠ [] := by
      intro e
      exact (name_ne x hx).1 (List.append_eq_nil_iff.1 e).1
    have hc := cutP_flat x r (name_slash x hx) (fun y hy => name_slash y (hp.2 y (by simp [hy])))
    rw [joinL, join_cons]
    refine ⟨?_, ?_⟩
    · rw [validB_slash _ hne, hc, h]
    · show splitL (x ++ flat r) = _
      rw [splitL, if_neg hne, hc]

theorem valid_join (p : Str) (h : validB p = true) : joinL (namesL p) = p ∧ partsB (namesL p) = true := by
  cases p with
  | nil => cases h
  | cons c t =>
    simp only [validB, Bool.and_eq_true, decide_eq_true_iff] at h
    obtain ⟨rfl, h⟩ := h
    by_cases ht : t = []
    · subst ht; exact ⟨rfl, rfl⟩
    · simp only [ht, decide_false, Bool.false_or] at h
      have e : namesL (47 :: t) = cutP t := by
        show splitL t = _
        rw [splitL, if_neg ht]
      rw [e]
      exact ⟨by rw [joinL, join_cutP], h⟩

theorem valid_names (p : Str) (h : validB p = true) : (namesL p).length ≤ 40 ∧ ∀ x ∈ namesL p, nameB x = true := (parts_iff _).1 (valid_join p h).2

theorem joinL_inj (l m : List Str) (hl : partsB l = true) (hm : partsB m = true) (h : joinL l = joinL m) : l = m := by
  rw [← (join_valid l hl).2, h, (join_valid m hm).2]

theorem names_root (p : Str) (h : validB p = true) : namesL p = [] ↔ p = [47] := by
  constructor
  · intro e
    have := (valid_join p h).1
    rw [e] at this
    exact this.symm
  · intro e; subst e; rfl

/-! ### Lengths -/
theorem flat_len (l : List Str) (h : ∀ x ∈ l, nameB x = true) : (flat l).length ≤ 33 * l.length := by
  induction l with
  | nil => simp [flat_nil]
  | cons x r ih =>
    have h1 := ih (fun y hy => h y (by simp [hy]))
    have h2 := (name_ne x (h x (by simp))).2.2.2
    rw [flat_cons]
    simp only [List.length_cons, List.length_append]
    omega
theorem join_len (l : List Str) (h : partsB l = true) : (Lib.join l [47]).length ≤ 1400 := by
  have hp := (parts_iff _).1 h
  have := flat_len l hp.2
  cases l with
  | nil => simp [Lib.join_nil]
  | cons x r =>
    rw [join_cons]
    rw [flat_cons] at this
    simp only [List.length_cons] at this hp
    omega
theorem valid_len (p : Str) (h : validB p = true) : p.length ≤ 1401 := by
  have h1 := valid_join p h
  have h2 := join_len _ h1.2
  rw [← h1.1, joinL, List.length_cons]
  omega

/-! ### Up and Base -/
def upL (p : Str) : Str := if validB p = true then joinL (namesL p).dropLast else []
def baseL (p : Str) : Str := if validB p = true then (namesL p).getLast?.getD [] else []

theorem parts_dropLast (l : List Str) (h : partsB l = true) : partsB l.dropLast = true := by
  have hp := (parts_iff _).1 h
  refine (parts_iff _).2 ⟨?_, fun x hx => hp.2 x ((List.dropLast_sublist l).subset hx)⟩
  rw [List.length_dropLast]; omega

/-- A path that is not the root: all but its last name, a slash, that name. -/
theorem valid_last (p : Str) (h : validB p = true) (hr : p ≠ [47]) : ∃ init x, namesL p = init ++ [x] ∧ p = flat init ++ 47 :: x ∧ nameB x = true ∧ partsB init = true ∧ 47 ∉ x := by
  have hn : namesL p ≠ [] := fun e => hr ((names_root p h).1 e)
  have hj := valid_join p h
  obtain ⟨init, x, e⟩ : ∃ init x, namesL p = init ++ [x] := ⟨_, _, (List.dropLast_concat_getLast hn).symm⟩
  have hx : nameB x = true := (valid_names p h).2 x (by rw [e]; simp)
  have hd := parts_dropLast _ hj.2
  rw [e, List.dropLast_concat] at hd
  refine ⟨init, x, e, ?_, hx, hd, name_slash _ hx⟩
  have hp := hj.1
  rw [joinL_flat _ hn, e, flat_append, flat_cons, flat_nil, List.append_nil] at hp
  exact hp.symm

theorem up_last (p init : Str) (li : List Str) (x : Str) (h : validB p = true) (hn : namesL p = li ++ [x]) (hi : flat li = init) : upL p = if li = [] then [47] else init := by
  rw [upL, if_pos h, hn, List.dropLast_concat]
  by_cases hl : li = []
  · rw [if_pos hl, hl]; rfl
  · rw [if_neg hl, joinL_flat _ hl, hi]
theorem base_last (p : Str) (li : List Str) (x : Str) (h : validB p = true) (hn : namesL p = li ++ [x]) : baseL p = x := by
  rw [baseL, if_pos h, hn]; simp
theorem up_root : upL [47] = [47] := by rw [upL, if_pos validB_root]; rfl
theorem base_root : baseL [47] = [] := by rw [baseL, if_pos validB_root]; rfl
theorem up_bad (p : Str) (h : validB p = false) : upL p = [] := by rw [upL, if_neg (by simp [h])]
theorem base_bad (p : Str) (h : validB p = false) : baseL p = [] := by rw [baseL, if_neg (by simp [h])]
theorem flat_zero (l : List Str) : (flat l).length = 0 ↔ l = [] := by
  cases l with
  | nil => simp [flat_nil]
  | cons x r => simp [flat_cons]

/-! ### Under -/
def underB (p d : Str) : Bool := validB p && validB d && (namesL d).isPrefixOf (namesL p)

theorem noEmpty (p : Str) (h : validB p = true) : [] ∉ namesL p := fun hm => (name_ne [] ((valid_names p h).2 [] hm)).1 rfl

/-- What stands behind dir, if that is no root. -/
theorem behind_yes (p d rest : Str) (hp : validB p = true) (hd : validB d = true) (hr : d ≠ [47]) (e : p = d ++ rest) (h : rest = [] ∨ rest.head? = some 47) :
    namesL d <+: namesL p ∧ splitL (rest.drop 1) = (namesL p).drop (namesL d).length := by
  rcases h with rfl | h
  · rw [List.append_nil] at e
    subst e
    exact ⟨List.prefix_refl _, by simp [splitL]⟩
  · obtain ⟨r, rfl⟩ : ∃ r, rest = 47 :: r := by
      cases rest with
      | nil => cases h
      | cons c r => simp at h; exact ⟨r, by rw [h]⟩
    cases d with
    | nil => cases hd
    | cons c d' =>
      have hd' : d' ≠ [] := by
        intro e2; subst e2
        simp only [validB, Bool.and_eq_true, decide_eq_true_iff] at hd
        exact hr (by rw [hd.1])
      have e1 : namesL (c :: d') = cutP d' := by show splitL d' = _; rw [splitL, if_neg hd']
      have e2 : namesL p = cutP d' ++ cutP r := by
        rw [e]
        show splitL (d' ++ 47 :: r) = _
        rw [splitL, if_neg (by simp), cutP_app]
      have hr' : r ≠ [] := by
        intro e3; subst e3
        exact noEmpty p hp (by rw [e2]; simp [cutP])
      refine ⟨by rw [e1, e2]; exact List.prefix_append _ _, ?_⟩
      rw [e1, e2, List.drop_left]
      show splitL r = _
      rw [splitL, if_neg hr']

theorem behind_no (p d : Str) (hp : validB p = true) (hd : validB d = true) (hr : d ≠ [47]) (h : namesL d <+: namesL p) : ∃ rest, p = d ++ rest ∧ (rest = [] ∨ rest.head? = some 47) := by
  obtain ⟨m, hm⟩ := h
  have hn : namesL d ≠ [] := fun e => hr ((names_root d hd).1 e)
  have e1 := (valid_join p hp).1
  have e2 := (valid_join d hd).1
  rw [joinL_flat _ (by rw [← hm]; simp [hn]), ← hm, flat_append] at e1
  rw [joinL_flat _ hn] at e2
  refine ⟨flat m, by rw [← e1, e2], ?_⟩
  cases m with
  | nil => left; rfl
  | cons x r => right; rw [flat_cons]; rfl

/-! ### The order -/
def cmpN : List Str → List Str → Int
  | [], [] => 0
  | [], _ :: _ => -1
  | _ :: _, [] => 1
  | x :: xs, y :: ys => if x = y then cmpN xs ys else Lib.compareBytes x y
def cmpL (p q : Str) : Int :=
  if validB p = true then (if validB q = true then cmpN (namesL p) (namesL q) else 1)
  else (if validB q = true then -1 else Lib.compareBytes p q)

theorem split_step (a : Str) (ha : a ≠ []) (h : [] ∉ splitL a) : splitL a = (cut1 a).1 :: splitL (cut1 a).2.1 := by
  have e : splitL a = cutP a := by rw [splitL, if_neg ha]
  rw [e] at h ⊢
  rw [cutP_cut1] at h ⊢
  by_cases hm : 47 ∈ a
  · rw [cut1_yes a hm] at h ⊢
    dsimp only at h ⊢
    rw [if_pos rfl] at h ⊢
    have hne : (a.dropWhile (· != 47)).drop 1 ≠ [] := by
      intro e2
      rw [e2] at h
      exact h (by simp [cutP])
    congr 1
    rw [splitL, if_neg hne]
  · rw [cut1_no a hm]; rfl

theorem cmpN_prefix (l : List Str) (x : Str) (m : List Str) : cmpN l (l ++ x :: m) = -1 := by
  induction l with
  | nil => rfl
  | cons a l ih => rw [List.cons_append, cmpN, if_pos rfl, ih]
theorem cmpN_self (l : List Str) : cmpN l l = 0 := by
  induction l with
  | nil => rfl
  | cons a l ih => rw [cmpN, if_pos rfl, ih]

/-! ### What a text means at a path -/
def stepW (o : Option (List Str)) (x : Str) : Option (List Str) :=
  match o with
  | none => none
  | some l => if x = [] ∨ x = [46] then some l else if x = [46, 46] then some l.dropLast else if l.length = 40 ∨ nameB x = false then none else some (l ++ [x])
def goW (l : List Str) (xs : List Str) : Option (List Str) := xs.foldl stepW (some l)
def cleanL (dir s : Str) : Option (List Str) := goW (if s.head? = some 47 then [] else namesL dir) (cutP s)

theorem fold_none (xs : List Str) : xs.foldl stepW none = none := by
  induction xs with
  | nil => rfl
  | cons x r ih => exact ih
theorem goW_snoc (l : List Str) (pre : List Str) (x : Str) : goW l (pre ++ [x]) = stepW (goW l pre) x := by simp [goW]
theorem goW_dead (l pre m : List Str) (h : goW l pre = none) (hp : pre <+: m) : goW l m = none := by
  obtain ⟨r, rfl⟩ := hp
  unfold goW at h ⊢
  rw [List.foldl_append, h, fold_none]
theorem stepW_skip (l : List Str) (x : Str) (h : x = [] ∨ x = [46]) : stepW (some l) x = some l := by simp [stepW, h]
theorem stepW_up (l : List Str) : stepW (some l) [46, 46] = some l.dropLast := by simp [stepW]
theorem stepW_no (l : List Str) (x : Str) (h1 : x ≠ []) (h2 : x ≠ [46]) (h3 : x ≠ [46, 46]) (h : l.length = 40 ∨ nameB x = false) : stepW (some l) x = none := by
  rw [stepW, if_neg (by simp [h1, h2]), if_neg h3, if_pos h]
theorem stepW_add (l : List Str) (x : Str) (h : l.length ≠ 40) (hn : nameB x = true) : stepW (some l) x = some (l ++ [x]) := by
  have hx := name_ne x hn
  rw [stepW, if_neg (by simp [hx.1, hx.2.1]), if_neg hx.2.2.1, if_neg (by simp [h, hn])]
theorem parts_snoc (l : List Str) (x : Str) (h : partsB l = true) (hl : l.length ≠ 40) (hn : nameB x = true) : partsB (l ++ [x]) = true := by
  have hp := (parts_iff _).1 h
  refine (parts_iff _).2 ⟨by simp; omega, fun y hy => ?_⟩
  rcases List.mem_append.1 hy with hy | hy
  · exact hp.2 y hy
  · simp at hy; rw [hy]; exact hn

end Go.Proofs.YtophihnjlodmjaaDoor.Pt

namespace Go.Proofs.YtophihnjlodmjaaDoor.Pt

theorem goW_names (m l0 : List Str) (h : partsB (l0 ++ m) = true) : goW l0 m = some (l0 ++ m) := by
  induction m generalizing l0 with
  | nil => simp [goW]
  | cons x r ih =>
    have hp := (parts_iff _).1 h
    have hx := hp.2 x (by simp)
    have hl : l0.length ≠ 40 := by
      have := hp.1
      simp only [List.length_append, List.length_cons] at this
      omega
    show (r.foldl stepW (stepW (some l0) x)) = _
    rw [stepW_add l0 x hl hx]
    have e : l0 ++ x :: r = (l0 ++ [x]) ++ r := by simp
    rw [e] at h ⊢
    exact ih _ h

theorem clean_path (dir p : Str) (hp : validB p = true) : cleanL dir p = some (namesL p) := by
  have hj := valid_join p hp
  cases p with
  | nil => cases hp
  | cons c t =>
    have hc : c = 47 := by
      simp only [validB, Bool.and_eq_true, decide_eq_true_iff] at hp
      exact hp.1
    subst hc
    rw [cleanL, if_pos (show (47 :: t : Str).head? = some 47 from rfl), cutP_cons, if_pos rfl]
    show ((cutP t).foldl stepW (stepW (some []) [])) = _
    rw [stepW_skip [] [] (.inl rfl)]
    by_cases ht : t = []
    · subst ht; rfl
    · have e : namesL (47 :: t) = cutP t := by
        show splitL t = _
        rw [splitL, if_neg ht]
      rw [e] at hj ⊢
      have := goW_names (cutP t) [] (by simpa using hj.2)
      simpa [goW] using this

theorem clean_base (u x : Str) (li : List Str) (hn : namesL u = li) (hx : nameB x = true) (hl : li.length < 40) : cleanL u x = some (li ++ [x]) := by
  have h47 := name_slash x hx
  have hh : x.head? ≠ some 47 := by
    intro e
    cases x with
    | nil => cases e
    | cons c r => simp at e; exact h47 (by simp [e])
  rw [cleanL, if_neg hh, hn, cutP_last x h47]
  show stepW (some li) x = _
  rw [stepW_add li x (by omega) hx]

theorem up_valid (p : Str) (h : validB p = true) : validB (upL p) = true ∧ namesL (upL p) = (namesL p).dropLast := by
  rw [upL, if_pos h]
  exact join_valid _ (parts_dropLast _ (valid_join p h).2)

theorem back_up (p : Str) (h : validB p = true) (hr : p ≠ [47]) : cleanL (upL p) (baseL p) = some (namesL p) := by
  obtain ⟨li, x, hn, _, hx, _, _⟩ := valid_last p h hr
  have hu := up_valid p h
  rw [hn, List.dropLast_concat] at hu
  rw [base_last p li x h hn, hn]
  have hl := (valid_names p h).1
  rw [hn] at hl
  simp only [List.length_append, List.length_cons, List.length_nil] at hl
  exact clean_base (upL p) x li hu.2 hx (by omega)

theorem up_cmp (p : Str) (h : validB p = true) (hr : p ≠ [47]) : cmpL (upL p) p = -1 := by
  obtain ⟨li, x, hn, _, _, _, _⟩ := valid_last p h hr
  have hu := up_valid p h
  rw [hn, List.dropLast_concat] at hu
  rw [cmpL, if_pos hu.1, if_pos h, hu.2, hn]
  exact cmpN_prefix li x []

theorem up_under (p : Str) (h : validB p = true) : underB p (upL p) = true := by
  have hu := up_valid p h
  have : namesL (upL p) <+: namesL p := by rw [hu.2]; exact List.dropLast_prefix _
  simp [underB, h, hu.1, List.isPrefixOf_iff_prefix, this]

theorem base_len (p : Str) (h : validB p = true) : (baseL p).length ≤ 32 := by
  rw [baseL, if_pos h]
  cases e : (namesL p).getLast? with
  | none => simp
  | some x =>
    have hx : x ∈ namesL p := List.mem_of_getLast? e
    exact (name_ne x ((valid_names p h).2 x hx)).2.2.2
end Go.Proofs.YtophihnjlodmjaaDoor.Pt

namespace Go.Proofs.YtophihnjlodmjaaDoor.Pt

/-! ### Texts, byte by byte -/
theorem cb_range (a b : Str) : Lib.compareBytes a b = -1 ∨ Lib.compareBytes a b = 0 ∨ Lib.compareBytes a b = 1 := by
  induction a generalizing b with
  | nil => cases b <;> simp [Lib.compareBytes]
  | cons x xs ih =>
    cases b with
    | nil => simp [Lib.compareBytes]
    | cons y ys =>
      unfold Lib.compareBytes
      by_cases h1 : x < y
      · simp [h1]
      · by_cases h2 : y < x
        · simp [h1, h2]
        · simp only [h1, h2, if_false]; exact ih ys
theorem byte_tri (x y : UInt8) : x < y ∨ x = y ∨ y < x := by
  rcases Nat.lt_trichotomy x.toNat y.toNat with h | h | h
  · exact .inl h
  · exact .inr (.inl (UInt8.toNat_inj.1 h))
  · exact .inr (.inr h)
theorem byte_asymm (x y : UInt8) (h : x < y) : ¬ y < x := by
  have h' : x.toNat < y.toNat := h
  intro k
  have k' : y.toNat < x.toNat := k
  omega
theorem byte_irr (x : UInt8) : ¬ x < x := fun h => byte_asymm x x h h
theorem byte_trans (x y z : UInt8) (h : x < y) (k : y < z) : x < z := by
  have h' : x.toNat < y.toNat := h
  have k' : y.toNat < z.toNat := k
  show x.toNat < z.toNat
  omega

theorem cb_cons (x y : UInt8) (xs ys : Str) : Lib.compareBytes (x :: xs) (y :: ys) = if x < y then -1 else if y < x then 1 else Lib.compareBytes xs ys := rfl
theorem cb_anti (a b : Str) : Lib.compareBytes a b = - Lib.compareBytes b a := by
  induction a generalizing b with
  | nil => cases b <;> simp [Lib.compareBytes]
  | cons x xs ih =>
    cases b with
    | nil => simp [Lib.compareBytes]
    | cons y ys =>
      rw [cb_cons, cb_cons]
      rcases byte_tri x y with h | h | h
      · rw [if_pos h, if_neg (byte_asymm x y h), if_pos h]
      · subst h; rw [if_neg (byte_irr x), if_neg (byte_irr x), if_neg (byte_irr x), if_neg (byte_irr x)]; exact ih ys
      · rw [if_neg (byte_asymm y x h), if_pos h, if_pos h]; rfl
theorem cb_zero (a b : Str) : Lib.compareBytes a b = 0 ↔ a = b := by
  induction a generalizing b with
  | nil => cases b <;> simp [Lib.compareBytes]
  | cons x xs ih =>
    cases b with
    | nil => simp [Lib.compareBytes]
    | cons y ys =>
      rw [cb_cons]
      rcases byte_tri x y with h | h | h
      · rw [if_pos h]
        refine ⟨(fun e => by cases e), fun e => ?_⟩
        injection e with e1 _; subst e1; exact absurd h (byte_irr x)
      · subst h; rw [if_neg (byte_irr x), if_neg (byte_irr x), ih ys]; simp
      · rw [if_neg (byte_asymm y x h), if_pos h]
        refine ⟨(fun e => by cases e), fun e => ?_⟩
        injection e with e1 _; subst e1; exact absurd h (byte_irr x)
theorem cb_trans (a b c : Str) (h : Lib.compareBytes a b ≤ 0) (k : Lib.compareBytes b c ≤ 0) : Lib.compareBytes a c ≤ 0 := by
  induction a generalizing b c with
  | nil => cases c <;> simp [Lib.compareBytes]
  | cons x xs ih =>
    cases b with
    | nil => simp [Lib.compareBytes] at h
    | cons y ys =>
      cases c with
      | nil => simp [Lib.compareBytes] at k
      | cons z zs =>
        rw [cb_cons] at h k ⊢
        rcases byte_tri x y with h1 | h1 | h1
        · rcases byte_tri y z with k1 | k1 | k1
          · rw [if_pos (byte_trans x y z h1 k1)]; omega
          · subst k1; rw [if_pos h1]; omega
          · rw [if_neg (byte_asymm z y k1), if_pos k1] at k; omega
        · subst h1
          rw [if_neg (byte_irr x), if_neg (byte_irr x)] at h
          rcases byte_tri x z with k1 | k1 | k1
          · rw [if_pos k1]; omega
          · subst k1
            rw [if_neg (byte_irr x), if_neg (byte_irr x)] at k ⊢
            exact ih ys zs h k
          · rw [if_neg (byte_asymm z x k1), if_pos k1] at k; omega
        · rw [if_neg (byte_asymm y x h1), if_pos h1] at h; omega

/-! ### Rows of names -/
theorem cn_cons (x y : Str) (xs ys : List Str) : cmpN (x :: xs) (y :: ys) = if x = y then cmpN xs ys else Lib.compareBytes x y := rfl
theorem cn_range (a b : List Str) : cmpN a b = -1 ∨ cmpN a b = 0 ∨ cmpN a b = 1 := by
  induction a generalizing b with
  | nil => cases b <;> simp [cmpN]
  | cons x xs ih =>
    cases b with
    | nil => simp [cmpN]
    | cons y ys =>
      rw [cn_cons]
      by_cases h : x = y
      · rw [if_pos h]; exact ih ys
      · rw [if_neg h]; exact cb_range x y
theorem cn_anti (a b : List Str) : cmpN a b = - cmpN b a := by
  induction a generalizing b with
  | nil => cases b <;> simp [cmpN]
  | cons x xs ih =>
    cases b with
    | nil => simp [cmpN]
    | cons y ys =>
      rw [cn_cons, cn_cons]
      by_cases h : x = y
      · subst h; rw [if_pos rfl, if_pos rfl]; exact ih ys
      · rw [if_neg h, if_neg (fun e => h e.symm)]; exact cb_anti x y
theorem cn_zero (a b : List Str) : cmpN a b = 0 ↔ a = b := by
  induction a generalizing b with
  | nil => cases b <;> simp [cmpN]
  | cons x xs ih =>
    cases b with
    | nil => simp [cmpN]
    | cons y ys =>
      rw [cn_cons]
      by_cases h : x = y
      · subst h; rw [if_pos rfl, ih ys]; simp
      · rw [if_neg h, cb_zero]; simp [h]
theorem cn_trans (a b c : List Str) (h : cmpN a b ≤ 0) (k : cmpN b c ≤ 0) : cmpN a c ≤ 0 := by
  induction a generalizing b c with
  | nil => cases c <;> simp [cmpN]
  | cons x xs ih =>
    cases b with
    | nil => simp [cmpN] at h
    | cons y ys =>
      cases c with
      | nil => simp [cmpN] at k
      | cons z zs =>
        rw [cn_cons] at h k ⊢
        by_cases hxy : x = y
        · subst hxy
          rw [if_pos rfl] at h
          by_cases hxz : x = z
          · subst hxz; rw [if_pos rfl] at k ⊢; exact ih ys zs h k
          · rw [if_neg hxz] at k ⊢; exact k
        · rw [if_neg hxy] at h
          by_cases hyz : y = z
          · subst hyz; rw [if_neg hxy]; exact h
          · rw [if_neg hyz] at k
            have hxz := cb_trans x y z h k
            by_cases e : x = z
            · subst e
              exfalso
              apply hxy
              have h1 := cb_anti x y
              exact (cb_zero x y).1 (by omega)
            · rw [if_neg e]; exact hxz
/-- What begins with a row stands behind it; and what stands between them begins with it, too. -/
theorem cn_prefix_le (a b : List Str) (h : a <+: b) : cmpN a b ≤ 0 := by
  obtain ⟨r, rfl⟩ := h
  cases r with
  | nil => rw [List.append_nil, cmpN_self]; omega
  | cons x r => rw [cmpN_prefix]; omega
theorem cn_between (a b c : List Str) (h : a <+: b) (h1 : cmpN a c ≤ 0) (h2 : cmpN c b ≤ 0) : a <+: c := by
  induction a generalizing b c with
  | nil => exact List.nil_prefix
  | cons x xs ih =>
    obtain ⟨r, rfl⟩ := h
    cases c with
    | nil => simp [cmpN] at h1
    | cons z zs =>
      rw [List.cons_append, cn_cons] at h2
      rw [cn_cons] at h1
      by_cases e : x = z
      · subst e
        rw [if_pos rfl] at h1 h2
        obtain ⟨r', hr'⟩ := ih (xs ++ r) zs (List.prefix_append _ _) h1 h2
        exact ⟨r', by rw [List.cons_append, hr']⟩
      · exfalso
        rw [if_neg e] at h1
        rw [if_neg (fun k => e k.symm)] at h2
        have h3 := cb_anti x z
        exact e ((cb_zero x z).1 (by omega))

/-! ### Paths -/
theorem cl_range (a b : Str) : cmpL a b = -1 ∨ cmpL a b = 0 ∨ cmpL a b = 1 := by
  unfold cmpL
  split
  · split
    · exact cn_range _ _
    · omega
  · split
    · omega
    · exact cb_range _ _
theorem cl_anti (a b : Str) : cmpL a b = - cmpL b a := by
  unfold cmpL
  by_cases ha : validB a = true <;> by_cases hb : validB b = true
  · rw [if_pos ha, if_pos hb, if_pos hb, if_pos ha]; exact cn_anti _ _
  · rw [if_pos ha, if_neg hb, if_neg hb, if_pos ha]; rfl
  · rw [if_neg ha, if_pos hb, if_pos hb, if_neg ha]
  · rw [if_neg ha, if_neg hb, if_neg hb, if_neg ha]; exact cb_anti _ _
theorem names_inj (a b : Str) (ha : validB a = true) (hb : validB b = true) (h : namesL a = namesL b) : a = b := by
  rw [← (valid_join a ha).1, h, (valid_join b hb).1]
theorem cl_zero (a b : Str) : cmpL a b = 0 ↔ a = b := by
  unfold cmpL
  by_cases ha : validB a = true <;> by_cases hb : validB b = true
  · rw [if_pos ha, if_pos hb, cn_zero]
    exact ⟨names_inj a b ha hb, fun e => by rw [e]⟩
  · rw [if_pos ha, if_neg hb]
    exact ⟨fun e => by omega, fun e => by subst e; exact absurd ha hb⟩
  · rw [if_neg ha, if_pos hb]
    exact ⟨fun e => by omega, fun e => by subst e; exact absurd hb ha⟩
  · rw [if_neg ha, if_neg hb]; exact cb_zero _ _
theorem cl_trans (a b c : Str) (h : cmpL a b ≤ 0) (k : cmpL b c ≤ 0) : cmpL a c ≤ 0 := by
  unfold cmpL at h k ⊢
  by_cases ha : validB a = true <;> by_cases hb : validB b = true <;> by_cases hc : validB c = true
  · rw [if_pos ha, if_pos hb] at h; rw [if_pos hb, if_pos hc] at k; rw [if_pos ha, if_pos hc]; exact cn_trans _ _ _ h k
  · rw [if_pos hb, if_neg hc] at k; omega
  · rw [if_pos ha, if_neg hb] at h; omega
  · rw [if_pos ha, if_neg hb] at h; omega
  · rw [if_neg ha, if_pos hc]; omega
  · rw [if_pos hb, if_neg hc] at k; omega
  · rw [if_neg ha, if_pos hc]; omega
  · rw [if_neg ha, if_neg hb] at h; rw [if_neg hb, if_neg hc] at k; rw [if_neg ha, if_neg hc]; exact cb_trans _ _ _ h k
theorem cl_under (a b : Str) (h : underB b a = true) : cmpL a b ≤ 0 := by
  have hv : validB b = true ∧ validB a = true := by
    unfold underB at h; rw [Bool.and_eq_true, Bool.and_eq_true] at h; exact h.1
  have hp : namesL a <+: namesL b := by
    unfold underB at h; rw [Bool.and_eq_true, List.isPrefixOf_iff_prefix] at h; exact h.2
  rw [cmpL, if_pos hv.2, if_pos hv.1]
  exact cn_prefix_le _ _ hp
theorem cl_between (a b c : Str) (h : underB b a = true) (h1 : cmpL a c ≤ 0) (h2 : cmpL c b ≤ 0) : underB c a = true := by
  have hv : validB b = true ∧ validB a = true := by
    unfold underB at h; rw [Bool.and_eq_true, Bool.and_eq_true] at h; exact h.1
  have hp : namesL a <+: namesL b := by
    unfold underB at h; rw [Bool.and_eq_true, List.isPrefixOf_iff_prefix] at h; exact h.2
  have hc : validB c = true := by
    by_cases hc : validB c = true
    · exact hc
    · rw [cmpL, if_pos hv.2, if_neg hc] at h1; omega
  rw [cmpL, if_pos hv.2, if_pos hc] at h1
  rw [cmpL, if_pos hc, if_pos hv.1] at h2
  have := cn_between _ _ _ hp h1 h2
  simp [underB, hc, hv.2, List.isPrefixOf_iff_prefix, this]

/-! ### Rows in order -/
def SortedP (l : List Str) : Prop := l.Pairwise fun a b => cmpL a b ≤ 0
theorem cl_total (a b : Str) (h : ¬ cmpL a b < 0) : cmpL b a ≤ 0 := by
  have := cl_anti a b
  omega
/-- The one that goes on to the left stands in its place. -/
theorem insert_here (A B : List Str) (x : Str) (hs : SortedP (A ++ B)) (hB : ∀ b ∈ B, cmpL x b < 0) (hA : ∀ a, A.getLast? = some a → ¬ cmpL x a < 0) : SortedP (A ++ x :: B) := by
  unfold SortedP at hs ⊢
  rw [List.pairwise_append] at hs ⊢
  obtain ⟨h1, h2, h3⟩ := hs
  refine ⟨h1, ?_, ?_⟩
  · rw [List.pairwise_cons]
    exact ⟨fun b hb => by have := hB b hb; omega, h2⟩
  · intro a ha y hy
    rcases List.mem_cons.1 hy with rfl | hy
    · have hne : A ≠ [] := fun e => by rw [e] at ha; cases ha
      obtain ⟨A', z, rfl⟩ : ∃ A' z, A = A' ++ [z] := ⟨_, _, (List.dropLast_concat_getLast hne).symm⟩
      have hz := cl_total y z (hA z (by simp))
      rcases List.mem_append.1 ha with ha | ha
      · rw [List.pairwise_append] at h1
        exact cl_trans _ _ _ (h1.2.2 a ha z (by simp)) hz
      · simp at ha; subst ha; exact hz
    · exact h3 a ha y hy
theorem sorted_get (l : List Str) (h : SortedP l) (i j : Nat) (x y : Str) (hi : l[i]? = some x) (hj : l[j]? = some y) (hij : i ≤ j) : cmpL x y ≤ 0 := by
  rcases Nat.lt_or_eq_of_le hij with hlt | rfl
  · obtain ⟨hi', rfl⟩ := List.getElem?_eq_some_iff.1 hi
    obtain ⟨hj', rfl⟩ := List.getElem?_eq_some_iff.1 hj
    exact List.pairwise_iff_getElem.1 h i j hi' hj' hlt
  · rw [hi] at hj
    cases hj
    rw [(cl_zero x x).2 rfl]; omega
end Go.Proofs.YtophihnjlodmjaaDoor.Pt

namespace Go.Proofs.YtophihnjlodmjaaDoor.Pt
open Go.RowKit

theorem ret_bool {a b : Bool} (h : a = b) : Ending.returned (.bool a) = .returned (.bool b) := by rw [h]

set_option maxHeartbeats 400000 in
theorem letter_any (r : Int) (w : World) : Calls Tryd.prog 107 #[.int .i32 r] w fun e w' => e = .returned (.bool (letB r)) ∧ w = w' := by
  by_cases h : letB r = true
  · have h' : 97 ≤ r ∧ r ≤ 122 ∨ 48 ≤ r ∧ r ≤ 57 ∨ r = 46 ∨ r = 95 ∨ r = 43 ∨ r = 45 := by simpa [letB] using h
    rw [h]
    clear h
    go_enter Tryd.func107, Tryd.ntmps107
    go_wp2
    all_goals (go_ret; exact ⟨rfl, rfl⟩)
  · have h' : ¬ (97 ≤ r ∧ r ≤ 122 ∨ 48 ≤ r ∧ r ≤ 57 ∨ r = 46 ∨ r = 95 ∨ r = 43 ∨ r = 45) := by simpa [letB] using h
    rw [Bool.eq_false_iff.2 h]
    clear h
    go_enter Tryd.func107, Tryd.ntmps107
    go_wp2
    all_goals (go_ret; exact ⟨rfl, rfl⟩)

theorem isEmpty_no {l : List UInt8} (h : l ≠ []) : l.isEmpty = false := by cases l <;> simp_all
theorem beq_no {l m : List UInt8} (h : l ≠ m) : (l == m) = false := by simp [h]

set_option maxHeartbeats 1000000 in
theorem name_any (s : ByteArray) (w : World) : Calls Tryd.prog 92 #[.string s] w fun e w' => e = .returned (.bool (nameB s.data.toList)) ∧ Below w.heap.size w w' := by
  have hl : s.data.toList.length = s.size := rfl
  by_cases h1 : s.toList = [] ∨ s.toList = [46] ∨ s.toList = [46, 46] ∨ (32 : Int) < (s.size : Int)
  · rw [nameB_no _ (by
      rw [Lib.toList_data] at h1
      rcases h1 with h | h | h | h
      · exact .inl h
      · exact .inr (.inl h)
      · exact .inr (.inr (.inl h))
      · exact .inr (.inr (.inr (by omega))))]
    go_enter Tryd.func92, Tryd.ntmps92
    go_wp2
    all_goals first | (go_ret; exact ⟨rfl, Below.refl _ _⟩) | (exfalso; simp_all; done) | (exfalso; simp_all; omega)
  · have e1 : s.toList ≠ [] := fun h => h1 (.inl h)
    have e2 : s.toList ≠ [46] := fun h => h1 (.inr (.inl h))
    have e3 : s.toList ≠ [46, 46] := fun h => h1 (.inr (.inr (.inl h)))
    have e4 : (s.size : Int) ≤ 32 := by omega
    have HN := nameB_mid s.data.toList (by rw [← Lib.toList_data]; exact e1) (by rw [← Lib.toList_data]; exact e2) (by rw [← Lib.toList_data]; exact e3) (by omega)
    have f1 := isEmpty_no e1
    have f2 := beq_no e2
    have f3 := beq_no e3
    clear h1 hl e1 e2 e3
    rw [HN]
    clear HN
    go_enter Tryd.func92, Tryd.ntmps92
    go_wp2
    go_loopw [4, 22, 23, 24, 25, 26, 27] (fun _ _ _ _ _ _ _ w' => ∃ pos : Nat, w' = w.iter s pos ∧ pos ≤ s.size ∧ ∀ j (hj : j < s.size), j < pos → okB s[j] = true) (fun _ _ _ _ _ _ _ w' => s.size - w'.iterPos w.heap.size)
    case atStart => exact ⟨0, rfl, Nat.zero_le _, fun j _ hj => absurd hj (Nat.not_lt_zero _)⟩
    case round =>
      obtain ⟨pos, rfl, hp, hok⟩ := hrel
      have HOK := Lib.hid hok
      clear hok
      by_cases hlt : pos < s.size
      · by_cases ha : (s[pos]'hlt).toNat < 128
        · have hnx : ∀ ty, (Instr.next (.pointer (some ⟨w.heap.size, 0, none⟩)) true ty).run Tryd.prog (w.iter s pos) = _ := fun ty => run_next_ascii w s pos ty hlt ha
          by_cases hb : letB ((s[pos]'hlt).toNat : Int) = true
          · go_wp2_with (go_at_call 107; refine (letter_any _ _).mono ?_; rintro e w' ⟨rfl, rfl⟩)
            go_roundw
            case rel => exact ⟨pos + 1, rfl, hlt, fun j hj hjp => by
              rcases Nat.lt_or_ge j pos with h | h
              · exact HOK.out j hj h
              · obtain rfl : j = pos := by omega
                exact hb⟩
            case measure => simp; omega
          · have hb' : letB ((s[pos]'hlt).toNat : Int) = false := Bool.eq_false_iff.2 hb
            have HA := Lib.hid (all_no s okB pos hlt hb')
            clear hb
            go_wp2_with (go_at_call 107; refine (letter_any _ _).mono ?_; rintro e w' ⟨rfl, rfl⟩)
            go_ret
            exact ⟨ret_bool HA.out.symm, (Below.refl _ _).alloc (Nat.le_refl _) _⟩
        · have hnx : ∀ ty, (Instr.next (.pointer (some ⟨w.heap.size, 0, none⟩)) true ty).run Tryd.prog (w.iter s pos) = _ := fun ty => run_next_any w s pos ty hlt
          have hd := decode_high s pos hlt (by omega)
          have hb' : letB ((Utf8.decode s pos).1 : Int) = false := letB_high _ (by omega)
          have HA := Lib.hid (all_no s okB pos hlt (letB_high _ (by omega)))
          clear hd
          go_wp2_with (go_at_call 107; refine (letter_any _ _).mono ?_; rintro e w' ⟨rfl, rfl⟩)
          go_ret
          exact ⟨ret_bool HA.out.symm, (Below.refl _ _).alloc (Nat.le_refl _) _⟩
      · have hnx : ∀ ty, (Instr.next (.pointer (some ⟨w.heap.size, 0, none⟩)) true ty).run Tryd.prog (w.iter s pos) = _ := fun ty => run_next_end w s pos ty hlt
        go_wp2
        go_ret
        exact ⟨ret_bool (all_yes s okB fun j hj => HOK.out j hj (by omega)).symm, (Below.refl _ _).alloc (Nat.le_refl _) _⟩
end Go.Proofs.YtophihnjlodmjaaDoor.Pt

namespace Go.Proofs.YtophihnjlodmjaaDoor.Pt
open Go.RowKit

theorem index_none (l : Str) (h : 47 ∉ l) : Lib.indexByte l 47 = -1 := by
  induction l with
  | nil => rfl
  | cons c s ih =>
    simp only [List.mem_cons, not_or] at h
    unfold Lib.indexByte
    have : (c == 47) = false := by simp; exact fun e => h.1 e.symm
    rw [this, ih h.2]; rfl
theorem index_some (l : Str) (h : 47 ∈ l) : Lib.indexByte l 47 = ((l.takeWhile (· != 47)).length : Int) := by
  induction l with
  | nil => simp at h
  | cons c s ih =>
    by_cases hc : c = 47
    · simp [hc, Lib.indexByte]
    · have h' : 47 ∈ s := by
        rcases List.mem_cons.1 h with h | h
        · exact absurd h.symm hc
        · exact h
      unfold Lib.indexByte
      have e : (c == 47) = false := by simp; exact hc
      rw [e, ih h', List.takeWhile_cons]
      have e2 : (((s.takeWhile (· != 47)).length : Int) == -1) = false := by rw [beq_eq_false_iff_ne]; omega
      simp [hc, e2]

theorem ba_eq (s : ByteArray) (l : Str) (h : s.data.toList = l) : s = ⟨l.toArray⟩ := by
  subst h; rfl

set_option maxHeartbeats 1000000 in
theorem index_any (s : ByteArray) (w : World) : Calls Tryd.prog 60 #[.string s, .string ⟨#[47]⟩] w fun e w' => e = .returned (.int .i64 (Lib.indexByte s.data.toList 47)) ∧ w = w' := by
  by_cases h : ([47] == s.toList) = true
  · have hs : s.data.toList = [47] := by rw [← Lib.toList_data]; exact (beq_iff_eq.1 h).symm
    have e : Lib.indexByte s.data.toList 47 = 0 := by rw [hs]; rfl
    rw [e]
    clear e hs
    go_enter Tryd.func60, Tryd.ntmps60
    go_wp2
    go_ret
    exact ⟨rfl, rfl⟩
  · have h' : ([47] == s.toList) = false := by simpa using h
    clear h
    go_enter Tryd.func60, Tryd.ntmps60
    go_wp2_with (go_at_call 74; refine (Tryd.stringslite_IndexByte _ _ _).mono ?_; rintro e w' ⟨rfl, rfl⟩)
    go_ret
    exact ⟨rfl, rfl⟩

theorem tup3 {a a' b b' : ByteArray} {c : Bool} (h1 : a = a') (h2 : b = b') : Ending.returned (.tuple #[.string a, .string b, .bool c]) = .returned (.tuple #[.string a', .string b', .bool c]) := by rw [h1, h2]

set_option maxHeartbeats 1000000 in
theorem scut_any (s : ByteArray) (w : World) (hs : s.size ≤ 140737488355328) : Calls Tryd.prog 108 #[.string s, .string ⟨#[47]⟩] w fun e w' => e = .returned (.tuple #[.string ⟨(cut1 s.data.toList).1.toArray⟩, .string ⟨(cut1 s.data.toList).2.1.toArray⟩, .bool (cut1 s.data.toList).2.2]) ∧ ∃ n, w' = w.drewN n := by
  have hl : s.data.toList.length = s.size := rfl
  by_cases h : 47 ∈ s.data.toList
  · have hi := index_some _ h
    have hlt := take_while_lt _ h
    have e1 := take_while_len s.data.toList
    have e2 := drop_while_len s.data.toList
    rw [cut1_yes _ h]
    dsimp only
    obtain ⟨k, hk⟩ : ∃ k, k = (s.data.toList.takeWhile (· != 47)).length := ⟨_, rfl⟩
    rw [← hk] at e1 e2 hi hlt
    rw [← e1, ← e2]
    have c1 : (0 : Int) ≤ ↑k := by omega
    have c2 : (↑k : Int) ≤ ↑s.size := by omega
    have c3 : (0 : Int) ≤ ↑k + 1 := by omega
    have c4 : (↑k + 1 : Int) ≤ ↑s.size := by omega
    have HI := Lib.hid hi
    have HL := Lib.hid hl
    have c5 : IntKind.i64.wrap (↑k + 1) = (↑k + 1 : Int) := IntWalk.i64_in _ (by omega)
    have c6 : ((k : Int) + 1).toNat = k + 1 := by omega
    clear h hi hlt e1 e2 hk hl
    go_enter Tryd.func108, Tryd.ntmps108
    go_wp2_with (go_at_call 60; refine (index_any _ _).mono ?_; rintro e w' ⟨rfl, rfl⟩; rw [HI.out])
    go_region
    go_wp2
    go_ret3
    refine ⟨tup3 (ba_eq _ _ ?_) (ba_eq _ _ ?_), 1, rfl⟩
    · rw [Lib.extract_data, List.drop_zero]; rfl
    · rw [Lib.extract_to_end, List.drop_drop]
  · have hi := index_none _ h
    have HI := Lib.hid hi
    rw [cut1_no _ h]
    clear h hi hl
    go_enter Tryd.func108, Tryd.ntmps108
    go_wp2_with (go_at_call 60; refine (index_any _ _).mono ?_; rintro e w' ⟨rfl, rfl⟩; rw [HI.out])
    go_ret3
    exact ⟨tup3 rfl rfl, 0, rfl⟩

set_option maxHeartbeats 1000000 in
theorem cut_any (s : ByteArray) (w : World) (hs : s.size ≤ 140737488355328) : Calls Tryd.prog 93 #[.string s, .string ⟨#[47]⟩] w fun e w' => e = .returned (.tuple #[.string ⟨(cut1 s.data.toList).1.toArray⟩, .string ⟨(cut1 s.data.toList).2.1.toArray⟩, .bool (cut1 s.data.toList).2.2]) ∧ ∃ n, w' = w.drewN n := by
  go_enter Tryd.func93, Tryd.ntmps93
  go_wp2_with (go_at_call 108; refine (scut_any _ _ hs).mono ?_; rintro e w' ⟨rfl, n, rfl⟩)
  go_ret3
  exact ⟨rfl, n, rfl⟩
end Go.Proofs.YtophihnjlodmjaaDoor.Pt

namespace Go.Proofs.YtophihnjlodmjaaDoor.Pt
open Go.RowKit Go.Shelf
attribute [local go_sem] Oper.semAt_some

def encS (l : Str) : Value := .string ⟨l.toArray⟩
theorem only_drewN {a w : World} {row : Option Nat} (h : a.grownBy w row) (n : Nat) : a.grownBy (w.drewN n) row := ⟨h.os, h.tape, h.output, h.size, h.block⟩
theorem cutl_any (l : Str) (w : World) (hs : l.length ≤ 140737488355328) : Calls Tryd.prog 93 #[.string ⟨l.toArray⟩, .string ⟨#[47]⟩] w fun e w' => e = .returned (.tuple #[.string ⟨(cut1 l).1.toArray⟩, .string ⟨(cut1 l).2.1.toArray⟩, .bool (cut1 l).2.2]) ∧ ∃ n, w' = w.drewN n :=
  cut_any ⟨l.toArray⟩ w (by simpa [ByteArray.size] using hs)
theorem grown_drewN (w : World) (n : Nat) (row : Option Nat) : w.grownBy (w.drewN n) row := only_drewN (World.grownBy.refl w row) n
def anyK (_ _ : World) : Prop := True

set_option maxRecDepth 100000 in
set_option maxHeartbeats 1000000 in
theorem parts1_stops (n : Nat) (hn : 1 ≤ n) (B : Nat) (s : ByteArray) (hs : s.size ≤ 140737488355328) (w : World) (hB : B < w.heap.size) (hc : w.cell? ⟨B, 0, none⟩ = some (.string s)) :
    SeqStopsK Fence.wide n Tryd.prog 106 #[.pointer (some ⟨B, 0, none⟩)] (fun x : Str => #[.string ⟨x.toArray⟩]) anyK (fun xs => xs = cutP s.data.toList) (fun pre => pre <+: cutP s.data.toList) (cutP s.data.toList).length w := fun l J Jx W hW hJ hJx hY h0 => by
  have hc' : W.cell? ⟨B, 0, none⟩ = some (.string s) := (hW.cell (p := ⟨B, 0, none⟩) hB).trans hc
  clear hc hW hB
  refine callsIn_of_wp Tryd.func106 rfl trivial ?_ rfl
  simp only [Tryd.ntmps106, List.size_toArray, List.length_cons, List.length_nil, Nat.reduceAdd, Nat.reduceSub, Array.replicate_succ, Array.replicate_zero, List.push_toArray, List.append_toArray, List.nil_append, List.cons_append]
  gi_wp2_with (refine ⟨trivial, ?_⟩; gi_at_call 93; refine (callsIn_wide.2 (cut_any _ _ hs)).mono ?_; rintro e w' ⟨rfl, q, rfl⟩)
  gi_loopw [3, 4, 5] (fun a b c wr => ∃ (pre : List Str) (part rest : Str) (more : Bool), a = .string ⟨part.toArray⟩ ∧ b = .string ⟨rest.toArray⟩ ∧ c = .bool more ∧ cutP s.data.toList = pre ++ tail1 part rest more ∧ rest.length ≤ 140737488355328 ∧ J pre wr)
    (fun _ b c _ => msr b c)
  case atStart => exact ⟨[], _, _, _, rfl, rfl, rfl, tail1_start _, cut1_snd_le _ _ hs, hJ [] W _ none h0 (grown_drewN _ _ _) (fun r e => by cases e)⟩
  case round =>
    obtain ⟨pre, part, rest, more, rfl, rfl, rfl, hx, hr, hJs⟩ := hrel
    have HX := Lib.hid hx
    have hlen : pre.length < (cutP s.data.toList).length := by rw [hx]; simp [tail1]
    clear hx
    obtain ⟨fn, tmps, assign, body, hy, hR⟩ := hY pre part wr hJs hlen
    clear hlen
    gi_wp2
    refine hR.mono ?_
    rintro e W3 (⟨rfl, hJ3, hk3⟩ | ⟨rfl, hJx3⟩)
    · cases more with
      | true =>
        gi_wp2_with (refine ⟨trivial, ?_⟩; gi_at_call 93; refine (callsIn_wide.2 (cutl_any _ _ hr)).mono ?_; rintro e w' ⟨rfl, q, rfl⟩)
        go_roundw
        case rel => exact ⟨pre ++ [part], _, _, _, rfl, rfl, rfl, by rw [HX.out, tail1_more]; simp, cut1_snd_le _ _ hr, hJ _ W3 _ none hJ3 (grown_drewN _ _ _) (fun r e => by cases e)⟩
        case measure => exact msr_lt rest
      | false =>
        gi_wp2
        go_end0
        exact ⟨⟨_, rfl⟩, .inl ⟨pre ++ [part], by rw [HX.out]; rfl, hJ3⟩⟩
    · gi_wp2
      go_end0
      exact ⟨⟨_, rfl⟩, .inr ⟨pre ++ [part], ⟨if more = true then cutP rest else [], by rw [HX.out]; simp [tail1]⟩, hJx3⟩⟩
end Go.Proofs.YtophihnjlodmjaaDoor.Pt

namespace Go.Proofs.YtophihnjlodmjaaDoor.Pt
open Go.RowKit Go.Shelf
attribute [local go_sem] Oper.semAt_some

theorem cutpre_yes (r : Str) (w : World) : Calls Tryd.prog 90 #[.string ⟨(47 :: r).toArray⟩, .string ⟨#[47]⟩] w fun e w' => e = .returned (.tuple #[.string ⟨r.toArray⟩, .bool true]) ∧ w = w' :=
  (Tryd.strings_CutPrefix ⟨(47 :: r).toArray⟩ ⟨#[47]⟩ w).mono fun _ _ ⟨he, hw⟩ => ⟨he, hw.symm⟩
theorem hasPrefix_no (p : Str) (h : p.head? ≠ some 47) : Lib.hasPrefix p [47] = false := by
  cases p with
  | nil => rfl
  | cons c r => simp at h; simp [Lib.hasPrefix, List.isPrefixOf]; exact fun e => h e.symm
theorem cutpre_no (p : Str) (h : p.head? ≠ some 47) (w : World) : Calls Tryd.prog 90 #[.string ⟨p.toArray⟩, .string ⟨#[47]⟩] w fun e w' => e = .returned (.tuple #[.string ⟨p.toArray⟩, .bool false]) ∧ w = w' :=
  (Tryd.strings_CutPrefix ⟨p.toArray⟩ ⟨#[47]⟩ w).mono fun _ _ ⟨he, hw⟩ => ⟨by
    have e1 := hasPrefix_no p h
    simp only [Lib.trimPrefix] at he
    rw [e1] at he
    simpa using he, hw.symm⟩
theorem namel_any (l : Str) (w : World) : Calls Tryd.prog 92 #[.string ⟨l.toArray⟩] w fun e w' => e = .returned (.bool (nameB l)) ∧ Below w.heap.size w w' := name_any ⟨l.toArray⟩ w

theorem parts_any (s : ByteArray) (w : World) : Calls Tryd.prog 91 #[.string s] w fun e w' => e = .returned (.func (.func 106) #[] #[.pointer (some ⟨w.heap.size, 0, none⟩)]) ∧ w.alloc (.cells #[.string s] 9) = w' := by
  go_enter Tryd.func91, Tryd.ntmps91
  go_wp2
  go_ret
  exact ⟨rfl, rfl⟩

set_option maxHeartbeats 1000000 in
theorem valid_no (p : Str) (h : p.head? ≠ some 47) (w : World) : Calls Tryd.prog 71 #[.string ⟨p.toArray⟩] w fun e w' => e = .returned (.bool false) ∧ Below w.heap.size w w' := by
  refine (callsIn_wide (n := 5)).1 ?_
  refine callsIn_of_wp_marks Tryd.func71 rfl trivial ?_ rfl
  simp only [Tryd.ntmps71, List.size_toArray, List.length_cons, List.length_nil, Nat.reduceAdd, Nat.reduceSub, Array.replicate_succ, Array.replicate_zero, List.push_toArray, List.append_toArray, List.nil_append, List.cons_append]
  gi_wp2_with (refine ⟨trivial, ?_⟩; gi_at_call 90; refine (callsIn_wide.2 (cutpre_no _ h _)).mono ?_; rintro e w' ⟨rfl, rfl⟩)
  refine ⟨.bool false, ?_, rfl, (Below.refl _ _).alloc (Nat.le_refl _) _⟩
  simp [results, Tryd.f71, go_sem]

set_option maxHeartbeats 1000000 in
theorem valid_root (w : World) : Calls Tryd.prog 71 #[.string ⟨#[47]⟩] w fun e w' => e = .returned (.bool true) ∧ Below w.heap.size w w' := by
  refine (callsIn_wide (n := 5)).1 ?_
  refine callsIn_of_wp_marks Tryd.func71 rfl trivial ?_ rfl
  simp only [Tryd.ntmps71, List.size_toArray, List.length_cons, List.length_nil, Nat.reduceAdd, Nat.reduceSub, Array.replicate_succ, Array.replicate_zero, List.push_toArray, List.append_toArray, List.nil_append, List.cons_append]
  gi_wp2_with (refine ⟨trivial, ?_⟩; gi_at_call 90; refine (callsIn_wide.2 (cutpre_yes [] _)).mono ?_; rintro e w' ⟨rfl, rfl⟩)
  refine ⟨.bool true, ?_, rfl, (Below.refl _ _).alloc (Nat.le_refl _) _⟩
  simp [results, Tryd.f71, go_sem]

theorem kf_below {B : Nat} {W W' : World} (h : Below W.heap.size W W') : KeepsFrom B W W' :=
  ⟨h.size, fun k _ _ hk _ => (h.block k (Array.getElem?_eq_some_iff.1 hk).1).trans hk⟩
theorem boxed_below {W W' : World} {B k : Nat} {t : TypeId} {v : Value} (h : Boxed W k t v) (hb : Below B W W') (hk : k < B) : Boxed W' k t v := (hb.block k hk).trans h
theorem size_set (W : World) (a : Addr) (v : Value) : (W.setCell a v).heap.size = W.heap.size := by simp [World.setCell]

def vI (w : World) (pre : List Str) (W : World) : Prop :=
  (pre.length ≤ 40 ∧ pre.all nameB = true) ∧ Boxed W w.heap.size 4 (.bool false) ∧ Boxed W (w.heap.size + 1) 3 (.int .i64 (pre.length : Int)) ∧ Below w.heap.size w W
def vX (w : World) (c : Code) (pre : List Str) (W : World) : Prop :=
  (c = .ret ∧ ∀ m, pre <+: m → partsB m = false) ∧ Boxed W w.heap.size 4 (.bool false) ∧ Below w.heap.size w W
theorem vI_own (w : World) (B : Nat) (hB : w.heap.size ≤ B) : OwnFrom B (vI w) :=
  OwnFrom.and (ownFrom_pure _ fun pre : List Str => pre.length ≤ 40 ∧ pre.all nameB = true) (OwnFrom.and (Own.from (boxed_own _ _ fun _ => _) _) (OwnFrom.and (Own.from (boxed_own _ _ fun pre : List Str => .int .i64 (pre.length : Int)) _) (ownFrom_below (Nat.le_refl _) hB)))
theorem vX_own (w : World) (B : Nat) (hB : w.heap.size ≤ B) (c : Code) : OwnFrom B (vX w c) :=
  OwnFrom.and (ownFrom_pure _ fun pre : List Str => c = .ret ∧ ∀ m, pre <+: m → partsB m = false) (OwnFrom.and (Own.from (boxed_own _ _ fun _ => _) _) (ownFrom_below (Nat.le_refl _) hB))

set_option maxRecDepth 100000 in
set_option maxHeartbeats 2000000 in
theorem valid_yes (r : Str) (hr : r ≠ []) (hlr : r.length ≤ 140737488355328) (w : World) : Calls Tryd.prog 71 #[.string ⟨(47 :: r).toArray⟩] w fun e w' => e = .returned (.bool (partsB (cutP r))) ∧ Below w.heap.size w w' := by
  refine (callsIn_wide (n := 5)).1 ?_
  have hr1 : r.isEmpty = false := isEmpty_no hr
  refine callsIn_of_wp_marks Tryd.func71 rfl trivial ?_ rfl
  simp only [Tryd.ntmps71, List.size_toArray, List.length_cons, List.length_nil, Nat.reduceAdd, Nat.reduceSub, Array.replicate_succ, Array.replicate_zero, List.push_toArray, List.append_toArray, List.nil_append, List.cons_append]
  gi_wp2_with (first | (refine ⟨trivial, ?_⟩; gi_at_call 90; refine (callsIn_wide.2 (cutpre_yes r _)).mono ?_; rintro e w' ⟨rfl, rfl⟩) | (refine ⟨trivial, ?_⟩; gi_at_call 91; refine (callsIn_wide.2 (parts_any _ _)).mono ?_; rintro e w' ⟨rfl, rfl⟩))
  have b0 := ((Boxed.new w 4 (.bool false)).alloc (.cells #[.int .i64 0] 3)).alloc (.cells #[.string ⟨r.toArray⟩] 9)
  have b1 := (Boxed.new (w.alloc (.cells #[.bool false] 4)) 3 (.int .i64 0)).alloc (.cells #[.string ⟨r.toArray⟩] 9)
  have b2 := Boxed.new ((w.alloc (.cells #[.bool false] 4)).alloc (.cells #[.int .i64 0] 3)) 9 (.string ⟨r.toArray⟩)
  have hB0 : Below w.heap.size w (((w.alloc (.cells #[.bool false] 4)).alloc (.cells #[.int .i64 0] 3)).alloc (.cells #[.string ⟨r.toArray⟩] 9)) := (((Below.refl _ w).alloc (Nat.le_refl _) _).alloc (by simp) _).alloc (by simp; omega) _
  simp only [World.size_alloc] at b0 b1 b2
  refine wpIn_rangeFunc_ownG rfl (by omega) (gf := 106) (lb := #[.pointer (some ⟨w.heap.size + 1 + 1, 0, none⟩)]) rfl trivial (enters_of Tryd.func106 (by kernel_rfl) rfl)
    (parts1_stops _ (by omega) (w.heap.size + 1 + 1) ⟨r.toArray⟩ (by simpa [ByteArray.size] using hlr) _ (by simp) b2.cell) (fun _ _ => trivial) (fun _ _ _ _ _ _ _ _ => trivial) (Below.refl _ _) (fun _ => rfl)
    (vI w) (vX w) (vI_own w _ (by simp; omega)) (vX_own w _ (by simp; omega)) ⟨⟨by simp, rfl⟩, b0, b1, hB0⟩
    (fun x => { tmps := #[.string ⟨(47 :: r).toArray⟩, undef, .pointer (some ⟨w.heap.size, 0, none⟩), .string ⟨r.toArray⟩, .bool true, .pointer (some ⟨w.heap.size + 1, 0, none⟩), (.string ⟨x.toArray⟩), .tuple #[.string ⟨r.toArray⟩, .bool true], .string ⟨(47 :: r).toArray⟩, .tuple #[.string ⟨r.toArray⟩, .bool true], .string ⟨r.toArray⟩, .bool true, .bool true, .bool false, .string ⟨r.toArray⟩, .bool false, .string ⟨r.toArray⟩, .func (.func 106) #[] #[.pointer (some ⟨w.heap.size + 1 + 1, 0, none⟩)], (.string ⟨x.toArray⟩), undef, undef, undef, undef, undef, undef, undef, undef, undef], defers := [] }) ?assign ?body ?done ?stop
  case assign =>
    intro l x W K hK
    gi_wp2
    exact hK
  case body =>
    rintro l pre x W ⟨⟨hlen, hall⟩, hb0, hb1, hB⟩ _
    have hc1 := hb1.cell
    have hf1 := hb1.frozen
    have hc0 := hb0.cell
    have hf0 := hb0.frozen
    have hs1 := hb1.lt
    have hs0 := hb0.lt
    have d1 := hb1.set (.int .i64 ((pre.length : Int) + 1))
    have d0 := hb0.other (B' := w.heap.size + 1) (by omega) (.int .i64 ((pre.length : Int) + 1))
    have hB1 : Below w.heap.size w (W.setCell ⟨w.heap.size + 1, 0, none⟩ (.int .i64 ((pre.length : Int) + 1))) := hB.setCell (p := ⟨w.heap.size + 1, 0, none⟩) (by simp) _
    by_cases h40 : 40 ≤ pre.length
    · have hk : (40 : Int) < (pre.length : Int) + 1 := by omega
      have hk2 : (pre.length : Int) + 1 ≤ 41 := by omega
      have c0 := d0.cell
      have f0 := d0.frozen
      gi_wp2_with (refine ⟨trivial, ?_⟩)
      refine ⟨(KeepsOthers.setCell _ _ _).from _ |>.trans ((KeepsOthers.setCell _ _ _).from _), ⟨rfl, fun m hm => partsB_snoc_long _ m (by simp; omega) hm⟩, d0.set _, hB1.setCell (p := ⟨w.heap.size, 0, none⟩) (Nat.le_refl _) _⟩
    · have hk : (pre.length : Int) + 1 ≤ 40 := by omega
      have hd : decide ((40 : Int) < (pre.length : Int) + 1) = false := decide_eq_false (by omega)
      by_cases hn : nameB x = true
      · have HN := Lib.hid hn
        clear hn
        gi_wp2_with (refine ⟨trivial, ?_⟩; gi_at_call 92; refine (CallsIn.inRound l (callsIn_wide.2 (namel_any x _))).mono ?_; rintro e w1 ⟨rfl, hb⟩; rw [HN.out]; rw [size_set] at hb)
        refine ⟨((KeepsOthers.setCell _ _ _).from _).trans (kf_below (by rw [size_set]; exact hb)), trivial, ⟨by simp; omega, by simp [hall, HN.out]⟩, boxed_below d0 hb hs0, by simpa using boxed_below d1 hb hs1, hB1.trans (hb.mono hB.size)⟩
      · have HN := Lib.hid (Bool.eq_false_iff.2 hn)
        clear hn
        gi_wp2_with (refine ⟨trivial, ?_⟩; gi_at_call 92; refine (CallsIn.inRound l (callsIn_wide.2 (namel_any x _))).mono ?_; rintro e w1 ⟨rfl, hb⟩; rw [HN.out]; rw [size_set] at hb; have e0 := boxed_below d0 hb hs0; have c0 := e0.cell; have f0 := e0.frozen)
        refine ⟨(((KeepsOthers.setCell _ _ _).from _).trans (kf_below (by rw [size_set]; exact hb))).trans ((KeepsOthers.setCell _ _ _).from _), ⟨rfl, fun m hm => partsB_bad _ m x HN.out (by simp) hm⟩, e0.set _, (hB1.trans (hb.mono hB.size)).setCell (p := ⟨w.heap.size, 0, none⟩) (Nat.le_refl _) _⟩
  case done =>
    rintro D xs W hD rfl ⟨⟨hlen, hall⟩, hb0, hb1, hB⟩ hK
    have hc0 := hb0.cell
    have hf0 := hb0.frozen
    gi_wp2
    have hK' := (KeepsOthers.setCell W ⟨w.heap.size, 0, none⟩ (.bool true)).same D _ hK rfl
    refine ⟨by simp, .inl ⟨_, _, rfl, run_takeDeferred hK', ?_⟩⟩
    have hc5 := cell_kept (World.cell?_setCell_same' W ⟨w.heap.size, 0, none⟩ (.bool true) (by rw [hc0]; rfl)) (grownBy_putObj' _ D (.deferred none)) (fun r e => by cases e; exact ⟨_, hK', rfl⟩)
    refine ⟨.bool true, ?_, by rw [partsB_all _ hlen hall], ?_⟩
    · simp [results, Tryd.f71, go_sem, hc5]
    · exact (hB.setCell (p := ⟨w.heap.size, 0, none⟩) (Nat.le_refl _) _).trans (belowK_b (w := w) (Nat.le_refl _) _ D _ _ (by simp at hD; omega) hK' rfl rfl)
  case stop =>
    rintro D c pre W hD hpre ⟨⟨rfl, hbad⟩, hb0, hB⟩ hK
    have hc0 := hb0.cell
    have hf0 := hb0.frozen
    have HB := Lib.hid (hbad _ hpre)
    clear hbad hpre
    gi_wp2
    refine ⟨by simp, .inl ⟨_, _, rfl, run_takeDeferred hK, ?_⟩⟩
    have hc5 := cell_kept hc0 (grownBy_putObj' _ D (.deferred none)) (fun r e => by cases e; exact ⟨_, hK, rfl⟩)
    refine ⟨.bool false, ?_, by rw [HB.out], ?_⟩
    · simp [results, Tryd.f71, go_sem, hc5]
    · exact hB.trans (belowK_b (w := w) (Nat.le_refl _) _ D _ _ (by simp at hD; omega) hK rfl rfl)
end Go.Proofs.YtophihnjlodmjaaDoor.Pt

namespace Go.Proofs.YtophihnjlodmjaaDoor.Pt
open Go.RowKit Go.Shelf
attribute [local go_sem] Oper.semAt_some

theorem valid_any (p : Str) (hp : p.length ≤ 140737488355328) (w : World) : Calls Tryd.prog 71 #[.string ⟨p.toArray⟩] w fun e w' => e = .returned (.bool (validB p)) ∧ Below w.heap.size w w' := by
  by_cases h : p.head? = some 47
  · cases p with
    | nil => cases h
    | cons c r =>
      simp at h
      subst h
      by_cases hr : r = []
      · subst hr
        exact (valid_root w).mono fun _ _ ⟨he, hb⟩ => ⟨by rw [validB_root]; exact he, hb⟩
      · rw [validB_slash r hr]
        exact valid_yes r hr (by simp at hp; omega) w
  · rw [validB_bad p h]
    exact valid_no p h w

theorem ret_int {k : IntKind} {a b : Int} (h : a = b) : Ending.returned (.int k a) = .returned (.int k b) := by rw [h]
theorem count_any (l : Str) (k : Nat) (hk : (cutP l).length = k + 1) (w : World) : Calls Tryd.prog 67 #[.string ⟨l.toArray⟩, .string ⟨#[47]⟩] w fun e w' => e = .returned (.int .i64 (k : Int)) ∧ w = w' :=
  (Tryd.strings_Count_one ⟨l.toArray⟩ 47 w).mono fun _ _ ⟨he, hw⟩ => ⟨by
    rw [he]
    refine ret_int ?_
    have := cutP_count l
    show ((Lib.countByte l 47 : Nat) : Int) = k
    unfold Lib.countByte
    omega, hw.symm⟩

theorem info9 : (Tryd.prog.info? 9).map (fun i => (i.zero, i.size, i.bytes)) = some (some (.string ⟨#[]⟩), 1, 16) := by kernel_rfl

def sI (w w1 : World) (pre : List Str) (W : World) : Prop :=
  (∃ v, Boxed W w1.heap.size 69 v ∧ W.ownsRow w.heap.size 9 1 v pre.length (pre.map encS) ∧ True) ∧ Below w.heap.size w W
theorem sI_own (w w1 : World) (B : Nat) (hB : w.heap.size ≤ B) : OwnFrom B (sI w w1) :=
  OwnFrom.and (Own.from (holdsRow_own w.heap.size w1.heap.size 69 9 1 (fun pre : List Str => pre.length) (fun pre => pre.map encS) (fun _ _ => True)) _) (ownFrom_below (Nat.le_refl _) hB)
end Go.Proofs.YtophihnjlodmjaaDoor.Pt

namespace Go.Proofs.YtophihnjlodmjaaDoor.Pt
open Go.RowKit Go.Shelf
attribute [local go_sem] Oper.semAt_some

theorem validb_any (p : ByteArray) (hp : p.size ≤ 140737488355328) (w : World) : Calls Tryd.prog 71 #[.string p] w fun e w' => e = .returned (.bool (validB p.data.toList)) ∧ Below w.heap.size w w' :=
  valid_any p.data.toList hp w
theorem valid_is (p : ByteArray) (hp : p.size ≤ 140737488355328) (b : Bool) (hb : validB p.data.toList = b) (w : World) : Calls Tryd.prog 71 #[.string p] w fun e w' => e = .returned (.bool b) ∧ Below w.heap.size w w' := by
  rw [← hb]; exact validb_any p hp w

def errB (b : Bool) : Int := if b = true then 0 else 110

set_option maxHeartbeats 400000 in
theorem check_any (p : ByteArray) (hp : p.size ≤ 140737488355328) (w : World) : Calls Tryd.prog 68 #[.string p] w fun e w' => e = .returned (.int .i64 (errB (validB p.data.toList))) ∧ Below w.heap.size w w' := by
  obtain ⟨b, hb⟩ : ∃ b, validB p.data.toList = b := ⟨_, rfl⟩
  rw [hb]
  have HB := Lib.hid hb
  clear hb
  cases b
  all_goals
    go_enter Tryd.func68, Tryd.ntmps68
    go_wp2_with (go_at_call 71; refine (valid_is p hp _ HB.out _).mono ?_; rintro e w' ⟨rfl, hb⟩)
    go_ret
    exact ⟨rfl, hb⟩

def NamesPost (p : Str) (w : World) (e : Ending) (w' : World) : Prop := ∃ v, e = .returned (.tuple #[v, .int .i64 0]) ∧ w'.ownsRow w.heap.size 9 1 v (namesL p).length ((namesL p).map encS) ∧ Below w.heap.size w w'

theorem drop1 (p : ByteArray) : (p.extract 1 p.size).data.toList = p.data.toList.drop 1 := Lib.extract_to_end p 1
theorem owns_low {w : World} {B B' n : Nat} {t : TypeId} {v : Value} {xs : List Value} (h : w.ownsRow B t 1 v n xs) (hB : B' ≤ B) : w.ownsRow B' t 1 v n xs := by
  obtain ⟨h1, h2⟩ := h
  refine ⟨h1, ?_⟩
  rcases h2 with h2 | ⟨g, cap, cur, hv, hg, r⟩
  · exact .inl h2
  · exact .inr ⟨g, cap, cur, hv, Nat.le_trans hB hg, r⟩
theorem size_pos (p : ByteArray) (hv : validB p.data.toList = true) : (1 : Int) ≤ (p.size : Int) := by
  have : p.data.toList.length = p.size := rfl
  cases e : p.data.toList with
  | nil => rw [e] at hv; cases hv
  | cons c r => rw [e] at this; simp at this; omega

end Go.Proofs.YtophihnjlodmjaaDoor.Pt

namespace Go.Proofs.YtophihnjlodmjaaDoor.Pt
open Go.RowKit Go.Shelf

theorem last_of (p : ByteArray) (a x : Str) (e : p.data.toList = a ++ 47 :: x) (hx : 47 ∉ x) : Lib.lastIndexByte p 47 = (a.length : Int) := by
  have hsz : p.size = a.length + (x.length + 1) := by
    have : p.data.toList.length = p.size := rfl
    rw [← this, e]; simp
  have hg : ∀ j, j < p.size → (p.data[j]!) = (a ++ 47 :: x)[j]! := by
    intro j hj
    have h2 : j < p.data.size := hj
    rw [getElem!_pos p.data j h2, ← Array.getElem_toList h2]
    simp only [e]
    rw [getElem!_pos]
  have hm : p.data[a.length]! = 47 := by
    rw [hg _ (by omega), List.getElem!_eq_getElem?_getD]
    simp
  rcases Lib.lastIndexByte_spec p 47 with ⟨_, h2⟩ | ⟨i, h1, h2, h3, h4⟩
  · exact absurd (by rw [hm]; rfl) (h2 a.length (by omega))
  · rw [h2]
    rcases Nat.lt_trichotomy i a.length with h | h | h
    · exact absurd (by rw [hm]; rfl) (h4 a.length h (by omega))
    · rw [h]
    · exfalso
      rw [hg i h1, List.getElem!_eq_getElem?_getD, List.getElem?_append_right (by omega)] at h3
      obtain ⟨d, hd⟩ : ∃ d, i - a.length = d + 1 := ⟨i - a.length - 1, by omega⟩
      rw [hd, List.getElem?_cons_succ] at h3
      have hd2 : d < x.length := by omega
      rw [List.getElem?_eq_getElem hd2] at h3
      simp only [Option.getD_some] at h3
      apply hx
      have : x[d] = 47 := by
        apply UInt8.toNat_inj.1
        show x[d].toNat = 47
        omega
      rw [← this]
      exact List.getElem_mem hd2

set_option maxHeartbeats 400000 in
theorem cutlast_no (p : ByteArray) (hp : p.size ≤ 140737488355328) (hv : validB p.data.toList = false) (w : World) : Calls Tryd.prog 89 #[.string p] w fun e w' => e = .returned (.tuple #[.string ⟨#[]⟩, .string ⟨#[]⟩]) ∧ Below w.heap.size w w' := by
  have HB := Lib.hid hv
  clear hv
  go_enter Tryd.func89, Tryd.ntmps89
  go_wp2_with (go_at_call 71; refine (valid_is p hp _ HB.out _).mono ?_; rintro e w' ⟨rfl, hb⟩)
  go_ret2
  exact ⟨rfl, hb⟩

theorem lastbyte_at (p : ByteArray) (hp : p.size ≤ 140737488355328) (k : Nat) (hk : Lib.lastIndexByte p 47 = (k : Int)) (w : World) : Calls Tryd.prog 104 #[.string p, .int .u8 47] w fun e w' => e = .returned (.int .i64 (k : Int)) ∧ w = w' :=
  (Tryd.strings_LastIndexByte p 47 (by omega) w).mono fun _ _ ⟨he, hw⟩ => ⟨by rw [he, hk], hw.symm⟩

set_option maxHeartbeats 1000000 in
theorem cutlast_zero (p : ByteArray) (hp : p.size ≤ 140737488355328) (hv : validB p.data.toList = true) (hk : Lib.lastIndexByte p 47 = 0) (w : World) :
    Calls Tryd.prog 89 #[.string p] w fun e w' => e = .returned (.tuple #[.string (p.extract 0 1), .string (p.extract 1 p.size)]) ∧ Below w.heap.size w w' := by
  have HB := Lib.hid hv
  have HK := Lib.hid hk
  have h1 := size_pos p hv
  clear hv hk
  go_enter Tryd.func89, Tryd.ntmps89
  go_wp2_with (first | (go_at_call 71; refine (valid_is p hp _ HB.out _).mono ?_; rintro e w' ⟨rfl, hb⟩) | (go_at_call 104; refine (lastbyte_at p hp 0 HK.out _).mono ?_; rintro e w' ⟨rfl, rfl⟩))
  go_region
  go_wp2
  go_ret2
  exact ⟨rfl, hb.drew⟩

set_option maxHeartbeats 1000000 in
theorem cutlast_pos (p : ByteArray) (hp : p.size ≤ 140737488355328) (hv : validB p.data.toList = true) (k : Nat) (h0 : 1 ≤ k) (hks : k < p.size) (hk : Lib.lastIndexByte p 47 = (k : Int)) (w : World) :
    Calls Tryd.prog 89 #[.string p] w fun e w' => e = .returned (.tuple #[.string (p.extract 0 k), .string (p.extract (k + 1) p.size)]) ∧ Below w.heap.size w w' := by
  have HB := Lib.hid hv
  have HK := Lib.hid hk
  have c1 : (1 : Int) ≤ ↑k := by omega
  have c2 : (↑k : Int) ≤ ↑p.size := by omega
  have c3 : (0 : Int) ≤ ↑k + 1 := by omega
  have c4 : (↑k + 1 : Int) ≤ ↑p.size := by omega
  have c5 : IntKind.i64.wrap (↑k + 1) = (↑k + 1 : Int) := IntWalk.i64_in _ (by omega)
  have c6 : ((k : Int) + 1).toNat = k + 1 := by omega
  have c7 : max (1 : Int) (k : Int) = k := by omega
  have c8 : ¬ ((k : Int) < 1) := by omega
  clear hv hk
  go_enter Tryd.func89, Tryd.ntmps89
  go_wp2_with (first | (go_at_call 71; refine (valid_is p hp _ HB.out _).mono ?_; rintro e w' ⟨rfl, hb⟩) | (go_at_call 104; refine (lastbyte_at p hp k HK.out _).mono ?_; rintro e w' ⟨rfl, rfl⟩))
  go_region
  go_wp2
  go_ret2
  exact ⟨rfl, hb.drew⟩
end Go.Proofs.YtophihnjlodmjaaDoor.Pt

namespace Go.Proofs.YtophihnjlodmjaaDoor.Pt
open Go.RowKit Go.Shelf

theorem tup2 {a a' b b' : ByteArray} (h1 : a = a') (h2 : b = b') : Ending.returned (.tuple #[.string a, .string b]) = .returned (.tuple #[.string a', .string b']) := by rw [h1, h2]
theorem ext_to (p : ByteArray) (k : Nat) : (p.extract 0 k).data.toList = p.data.toList.take k := by rw [Lib.extract_data, List.drop_zero]; rfl

theorem cutlast_any (p : ByteArray) (hp : p.size ≤ 140737488355328) (w : World) :
    Calls Tryd.prog 89 #[.string p] w fun e w' => e = .returned (.tuple #[.string ⟨(upL p.data.toList).toArray⟩, .string ⟨(baseL p.data.toList).toArray⟩]) ∧ Below w.heap.size w w' := by
  by_cases hv : validB p.data.toList = true
  · by_cases hr : p.data.toList = [47]
    · have hk := last_of p [] [] hr (by simp)
      rw [hr, up_root, base_root]
      refine (cutlast_zero p hp hv hk w).mono fun _ _ ⟨he, hb⟩ => ⟨?_, hb⟩
      rw [he]
      exact tup2 (ba_eq _ _ (by rw [ext_to, hr]; rfl)) (ba_eq _ _ (by rw [drop1, hr]; rfl))
    · obtain ⟨li, x, hn, hpe, hx, hli, hx47⟩ := valid_last _ hv hr
      have hk := last_of p (flat li) x hpe hx47
      have hsz : p.size = (flat li).length + (x.length + 1) := by
        have : p.data.toList.length = p.size := rfl
        rw [← this, hpe]; simp
      rw [up_last _ _ li x hv hn rfl, base_last _ li x hv hn]
      have hdr : p.data.toList.drop ((flat li).length + 1) = x := by
        rw [hpe, ← List.drop_drop, List.drop_left]; rfl
      by_cases hl : li = []
      · subst hl
        rw [if_pos rfl]
        refine (cutlast_zero p hp hv hk w).mono fun _ _ ⟨he, hb⟩ => ⟨?_, hb⟩
        rw [he]
        refine tup2 (ba_eq _ _ ?_) (ba_eq _ _ ?_)
        · rw [ext_to, hpe]; rfl
        · rw [drop1]; exact hdr
      · rw [if_neg hl]
        have h1 : 1 ≤ (flat li).length := by
          have : (flat li).length ≠ 0 := fun e => hl ((flat_zero li).1 e)
          omega
        refine (cutlast_pos p hp hv (flat li).length h1 (by omega) hk w).mono fun _ _ ⟨he, hb⟩ => ⟨?_, hb⟩
        rw [he]
        refine tup2 (ba_eq _ _ ?_) (ba_eq _ _ ?_)
        · rw [ext_to, hpe, List.take_left]
        · rw [Lib.extract_to_end]; exact hdr
  · have hv' : validB p.data.toList = false := Bool.eq_false_iff.2 hv
    rw [up_bad _ hv', base_bad _ hv']
    exact cutlast_no p hp hv' w

set_option maxHeartbeats 400000 in
theorem up_any (p : ByteArray) (hp : p.size ≤ 140737488355328) (w : World) : Calls Tryd.prog 69 #[.string p] w fun e w' => e = .returned (.string ⟨(upL p.data.toList).toArray⟩) ∧ Below w.heap.size w w' := by
  go_enter Tryd.func69, Tryd.ntmps69
  go_wp2_with (go_at_call 89; refine (cutlast_any p hp _).mono ?_; rintro e w' ⟨rfl, hb⟩)
  go_ret
  exact ⟨rfl, hb⟩

def BehindNo (w : World) (e : Ending) (w' : World) : Prop := e = .returned (.tuple #[.string ⟨#[]⟩, .bool false]) ∧ Below w.heap.size w w'

def BehindYes (p d : Str) (w : World) (e : Ending) (w' : World) : Prop := ∃ t : Str, e = .returned (.tuple #[.string ⟨t.toArray⟩, .bool true]) ∧ splitL t = (namesL p).drop (namesL d).length ∧ t.length ≤ p.length ∧ Below w.heap.size w w'

theorem underB_no1 (p d : Str) (h : validB p = false) : underB p d = false := by simp [underB, h]
theorem underB_no2 (p d : Str) (h : validB d = false) : underB p d = false := by simp [underB, h]
theorem underB_is (p d : Str) (hp : validB p = true) (hd : validB d = true) : underB p d = true ↔ namesL d <+: namesL p := by
  simp [underB, hp, hd, List.isPrefixOf_iff_prefix]

end Go.Proofs.YtophihnjlodmjaaDoor.Pt

namespace Go.Proofs.YtophihnjlodmjaaDoor.Pt
open Go.RowKit Go.Shelf

def BeneathYes (p d : Str) (w : World) (e : Ending) (w' : World) : Prop := ∃ v, e = .returned (.tuple #[v, .bool true]) ∧ w'.ownsRow w.heap.size 9 1 v ((namesL p).drop (namesL d).length).length (((namesL p).drop (namesL d).length).map encS) ∧ Below w.heap.size w w'
def BeneathNo (w : World) (e : Ending) (w' : World) : Prop := e = .returned (.tuple #[.slice none 0 0, .bool false]) ∧ Below w.heap.size w w'

theorem underB_valid (p d : Str) (h : underB p d = true) : validB p = true ∧ validB d = true := by
  unfold underB at h
  rw [Bool.and_eq_true, Bool.and_eq_true] at h
  exact h.1

/-! ### The order -/
theorem comp_any (x y : Str) (w : World) : Calls Tryd.prog 73 #[.string ⟨x.toArray⟩, .string ⟨y.toArray⟩] w fun e w' => e = .returned (.int .i64 (Lib.compareBytes x y)) ∧ w = w' :=
  (Tryd.strings_Compare ⟨x.toArray⟩ ⟨y.toArray⟩ w).mono fun _ _ ⟨he, hw⟩ => ⟨he, hw.symm⟩
theorem cmpi_any (x y : Int) (w : World) : Calls Tryd.prog 94 #[.int .i64 x, .int .i64 y] w fun e w' => e = .returned (.int .i64 (Lib.compareInt x y)) ∧ w = w' :=
  (Tryd.cmp_Compare_int x y w).mono fun _ _ ⟨he, hw⟩ => ⟨he, hw.symm⟩

theorem cmpN_ends (a b : Str) (ha : [] ∉ splitL a) (hb : [] ∉ splitL b) (h : a = [] ∨ b = []) : Lib.compareInt (a.length : Int) (b.length : Int) = cmpN (splitL a) (splitL b) := by
  rcases h with rfl | rfl
  · by_cases hb0 : b = []
    · subst hb0; rfl
    · rw [split_step b hb0 hb]
      cases b with
      | nil => exact absurd rfl hb0
      | cons c r =>
        show _ = (-1 : Int)
        unfold Lib.compareInt
        rw [if_pos (by simp)]
  · by_cases ha0 : a = []
    · subst ha0; rfl
    · rw [split_step a ha0 ha]
      cases a with
      | nil => exact absurd rfl ha0
      | cons c r =>
        show _ = (1 : Int)
        unfold Lib.compareInt
        rw [if_neg (by simp; omega), if_pos (by simp)]

theorem step_ok (a : Str) (ha : a ≠ []) (h : [] ∉ splitL a) : [] ∉ splitL (cut1 a).2.1 := by
  rw [split_step a ha h] at h
  exact fun hm => h (List.mem_cons_of_mem _ hm)
theorem cut1_lt (a : Str) (ha : a ≠ []) : (cut1 a).2.1.length < a.length := by
  by_cases h : (cut1 a).2.2 = true
  · exact cut1_len a h
  · have : (cut1 a).2.1 = [] := by
      by_cases hm : 47 ∈ a
      · rw [cut1_yes a hm] at h; exact absurd rfl h
      · rw [cut1_no a hm]
    rw [this]
    cases a with
    | nil => exact absurd rfl ha
    | cons c r => simp

def strLen : Value → Nat
  | .string s => s.size
  | _ => 0
theorem strLen_mk (l : Str) : strLen (.string ⟨l.toArray⟩) = l.length := rfl

set_option maxRecDepth 100000 in
set_option maxHeartbeats 1000000 in
theorem cmpnames_any (a0 b0 : ByteArray) (ha0 : a0.size ≤ 140737488355328) (hb0 : b0.size ≤ 140737488355328) (ha : [] ∉ splitL a0.data.toList) (hb : [] ∉ splitL b0.data.toList) (w : World) :
    Calls Tryd.prog 72 #[.string a0, .string b0] w fun e w' => e = .returned (.int .i64 (cmpN (splitL a0.data.toList) (splitL b0.data.toList))) ∧ ∃ m, w' = w.drewN m := by
  obtain ⟨R, hR⟩ : ∃ R, cmpN (splitL a0.data.toList) (splitL b0.data.toList) = R := ⟨_, rfl⟩
  rw [hR]
  have HR := Lib.hid hR
  have HA := Lib.hid ha
  have HB := Lib.hid hb
  clear hR ha hb
  go_enter Tryd.func72, Tryd.ntmps72
  go_wp2
  go_loopw [0, 1] (fun x y wr => ∃ a b : Str, x = .string ⟨a.toArray⟩ ∧ y = .string ⟨b.toArray⟩ ∧ a.length ≤ 140737488355328 ∧ b.length ≤ 140737488355328 ∧ Hid ([] ∉ splitL a) ∧ Hid ([] ∉ splitL b) ∧ Hid (cmpN (splitL a) (splitL b) = R) ∧ ∃ m, wr = w.drewN m) (fun x _ _ => strLen x)
  case atStart => exact ⟨a0.data.toList, b0.data.toList, rfl, rfl, ha0, hb0, HA, HB, HR, 0, rfl⟩
  case round =>
    obtain ⟨a, b, rfl, rfl, hal, hbl, HA1, HB1, HR1, m, rfl⟩ := hrel
    by_cases ha : a = []
    · have HE := Lib.hid (cmpN_ends a b HA1.out HB1.out (.inl ha))
      subst ha
      go_wp2_with (go_at_call 94; refine (cmpi_any _ _ _).mono ?_; rintro e w' ⟨rfl, rfl⟩)
      go_ret
      exact ⟨ret_int (HE.out.trans HR1.out), m, rfl⟩
    · have ha1 := isEmpty_no ha
      by_cases hb : b = []
      · have HE := Lib.hid (cmpN_ends a b HA1.out HB1.out (.inr hb))
        have HAn := Lib.hid ha
        clear ha
        subst hb
        go_wp2_with (go_at_call 94; refine (cmpi_any _ _ _).mono ?_; rintro e w' ⟨rfl, rfl⟩)
        go_ret
        exact ⟨ret_int (HE.out.trans HR1.out), m, rfl⟩
      · have hb1 := isEmpty_no hb
        have HS := Lib.hid HR1.out
        have H1 := HS.out
        rw [split_step a ha HA1.out, split_step b hb HB1.out, cmpN] at H1
        have hlt := cut1_lt a ha
        have HA2 := Lib.hid (step_ok a ha HA1.out)
        have HB2 := Lib.hid (step_ok b hb HB1.out)
        clear ha hb
        by_cases hq : (cut1 a).1 = (cut1 b).1
        · rw [if_pos hq] at H1
          have H2 := Lib.hid H1
          have q1 : ((cut1 a).1 == (cut1 b).1) = true := by simp [hq]
          have q2 : ((cut1 a).1 != (cut1 b).1) = false := by simp [hq]
          clear H1 hq
          go_wp2_with fail
          refine (cutl_any a _ hal).mono ?_
          rintro e w1 ⟨rfl, n1, rfl⟩
          go_wp2_with fail
          refine (cutl_any b _ hbl).mono ?_
          rintro e w1 ⟨rfl, n2, rfl⟩
          go_wp2_with fail
          go_roundw
          case rel => exact ⟨_, _, rfl, rfl, cut1_snd_le _ _ hal, cut1_snd_le _ _ hbl, HA2, HB2, H2, _, rfl⟩
          case measure => exact hlt
        · rw [if_neg hq] at H1
          have H2 := Lib.hid H1
          have q1 : ((cut1 a).1 == (cut1 b).1) = false := by simp [hq]
          have q2 : ((cut1 a).1 != (cut1 b).1) = true := by simp [hq]
          clear H1 hq
          go_wp2_with fail
          refine (cutl_any a _ hal).mono ?_
          rintro e w1 ⟨rfl, n1, rfl⟩
          go_wp2_with fail
          refine (cutl_any b _ hbl).mono ?_
          rintro e w1 ⟨rfl, n2, rfl⟩
          go_wp2_with (go_at_call 73; refine (comp_any _ _ _).mono ?_; rintro e w' ⟨rfl, rfl⟩)
          go_ret
          exact ⟨ret_int H2.out, _, rfl⟩

set_option maxHeartbeats 1000000 in
theorem cmp_vv (p q : ByteArray) (hp : p.size ≤ 140737488355328) (hq : q.size ≤ 140737488355328) (v1 : validB p.data.toList = true) (v2 : validB q.data.toList = true) (w : World) :
    Calls Tryd.prog 59 #[.string p, .string q] w fun e w' => e = .returned (.int .i64 (cmpN (namesL p.data.toList) (namesL q.data.toList))) ∧ Below w.heap.size w w' := by
  have h1 := size_pos p v1
  have h2 := size_pos q v2
  have hz1 : (p.extract 1 p.size).size ≤ p.size := by
    rw [show (p.extract 1 p.size).size = (p.extract 1 p.size).data.toList.length from rfl, drop1, List.length_drop]
    have : p.data.toList.length = p.size := rfl
    omega
  have hz2 : (q.extract 1 q.size).size ≤ q.size := by
    rw [show (q.extract 1 q.size).size = (q.extract 1 q.size).data.toList.length from rfl, drop1, List.length_drop]
    have : q.data.toList.length = q.size := rfl
    omega
  have HC : ∀ w, Calls Tryd.prog 72 #[.string (p.extract 1 p.size), .string (q.extract 1 q.size)] w fun e w' => e = .returned (.int .i64 (cmpN (namesL p.data.toList) (namesL q.data.toList))) ∧ ∃ m, w' = w.drewN m := by
    intro w
    have := cmpnames_any (p.extract 1 p.size) (q.extract 1 q.size) (by omega) (by omega) (by rw [drop1]; exact noEmpty _ v1) (by rw [drop1]; exact noEmpty _ v2) w
    rw [drop1, drop1] at this
    exact this
  have HC' := Lib.hid HC
  have H1 := Lib.hid v1
  have H2 := Lib.hid v2
  clear HC v1 v2 hz1 hz2
  go_enter Tryd.func59, Tryd.ntmps59
  go_wp2_with fail
  refine (valid_is p hp _ H1.out _).mono ?_
  rintro e w1 ⟨rfl, hb⟩
  go_wp2_with fail
  refine (valid_is q hq _ H2.out _).mono ?_
  rintro e w2 ⟨rfl, hb2⟩
  go_wp2_with fail
  go_quiet ((go_at_call 72; exact Calls.quiet_of (HC'.out _)))
  go_wp2
  go_ret
  exact ⟨rfl, below_drewN (hb.trans (hb2.mono hb.size)) _⟩

set_option maxHeartbeats 1000000 in
theorem cmp_vn (p q : ByteArray) (hp : p.size ≤ 140737488355328) (hq : q.size ≤ 140737488355328) (v1 : validB p.data.toList = true) (v2 : validB q.data.toList = false) (w : World) :
    Calls Tryd.prog 59 #[.string p, .string q] w fun e w' => e = .returned (.int .i64 1) ∧ Below w.heap.size w w' := by
  have H1 := Lib.hid v1
  have H2 := Lib.hid v2
  clear v1 v2
  go_enter Tryd.func59, Tryd.ntmps59
  go_wp2_with fail
  refine (valid_is p hp _ H1.out _).mono ?_
  rintro e w1 ⟨rfl, hb⟩
  go_wp2_with fail
  refine (valid_is q hq _ H2.out _).mono ?_
  rintro e w2 ⟨rfl, hb2⟩
  go_wp2_with fail
  go_ret
  exact ⟨rfl, hb.trans (hb2.mono hb.size)⟩
set_option maxHeartbeats 1000000 in
theorem cmp_nv (p q : ByteArray) (hp : p.size ≤ 140737488355328) (hq : q.size ≤ 140737488355328) (v1 : validB p.data.toList = false) (v2 : validB q.data.toList = true) (w : World) :
    Calls Tryd.prog 59 #[.string p, .string q] w fun e w' => e = .returned (.int .i64 (-1)) ∧ Below w.heap.size w w' := by
  have H1 := Lib.hid v1
  have H2 := Lib.hid v2
  clear v1 v2
  go_enter Tryd.func59, Tryd.ntmps59
  go_wp2_with fail
  refine (valid_is p hp _ H1.out _).mono ?_
  rintro e w1 ⟨rfl, hb⟩
  go_wp2_with fail
  refine (valid_is q hq _ H2.out _).mono ?_
  rintro e w2 ⟨rfl, hb2⟩
  go_wp2_with fail
  go_ret
  exact ⟨rfl, hb.trans (hb2.mono hb.size)⟩
set_option maxHeartbeats 1000000 in
theorem cmp_nn (p q : ByteArray) (hp : p.size ≤ 140737488355328) (hq : q.size ≤ 140737488355328) (v1 : validB p.data.toList = false) (v2 : validB q.data.toList = false) (w : World) :
    Calls Tryd.prog 59 #[.string p, .string q] w fun e w' => e = .returned (.int .i64 (Lib.compareBytes p.data.toList q.data.toList)) ∧ Below w.heap.size w w' := by
  have H1 := Lib.hid v1
  have H2 := Lib.hid v2
  clear v1 v2
  go_enter Tryd.func59, Tryd.ntmps59
  go_wp2_with fail
  refine (valid_is p hp _ H1.out _).mono ?_
  rintro e w1 ⟨rfl, hb⟩
  go_wp2_with fail
  refine (valid_is q hq _ H2.out _).mono ?_
  rintro e w2 ⟨rfl, hb2⟩
  go_wp2_with (go_at_call 73; refine (comp_any p.data.toList q.data.toList _).mono ?_; rintro e w' ⟨rfl, rfl⟩)
  go_ret
  exact ⟨rfl, hb.trans (hb2.mono hb.size)⟩

theorem cmp_any (p q : ByteArray) (hp : p.size ≤ 140737488355328) (hq : q.size ≤ 140737488355328) (w : World) :
    Calls Tryd.prog 59 #[.string p, .string q] w fun e w' => e = .returned (.int .i64 (cmpL p.data.toList q.data.toList)) ∧ Below w.heap.size w w' := by
  by_cases v1 : validB p.data.toList = true
  · by_cases v2 : validB q.data.toList = true
    · rw [cmpL, if_pos v1, if_pos v2]; exact cmp_vv p q hp hq v1 v2 w
    · rw [cmpL, if_pos v1, if_neg v2]; exact cmp_vn p q hp hq v1 (Bool.eq_false_iff.2 v2) w
  · by_cases v2 : validB q.data.toList = true
    · rw [cmpL, if_neg v1, if_pos v2]; exact cmp_nv p q hp hq (Bool.eq_false_iff.2 v1) v2 w
    · rw [cmpL, if_neg v1, if_neg v2]; exact cmp_nn p q hp hq (Bool.eq_false_iff.2 v1) (Bool.eq_false_iff.2 v2) w
end Go.Proofs.YtophihnjlodmjaaDoor.Pt

namespace Go.Proofs.YtophihnjlodmjaaDoor.Pt
open Go.RowKit Go.Shelf
theorem strs_at (l : List Str) (j : Nat) (x : ByteArray) (h : (l.map fun s => (⟨s.toArray⟩ : ByteArray))[j]? = some x) : (l.map encS)[j]? = some (.string x) := by
  rw [List.getElem?_map] at h ⊢
  cases e : l[j]? with
  | none => rw [e] at h; cases h
  | some s => rw [e] at h; cases h; rfl
theorem owns_below {w w' : World} {base n : Nat} {v : Value} {t : TypeId} {xs : List Value} (h : w.ownsRow base t 1 v n xs) (hb : Below w.heap.size w w') : w'.ownsRow base t 1 v n xs := by
  obtain ⟨h1, h2⟩ := h
  refine ⟨h1, ?_⟩
  rcases h2 with h2 | ⟨g, cap, cur, hv, hg, hh, r⟩
  · exact .inl h2
  · exact .inr ⟨g, cap, cur, hv, hg, (hb.block g (Array.getElem?_eq_some_iff.1 hh).1).trans hh, r⟩
theorem own_len {w : World} {base n : Nat} {v : Value} {xs : List Value} (h : w.ownsRow base 9 1 v n xs) : ∃ a cap, v = .slice a n cap := by
  rcases h.2 with ⟨rfl, rfl⟩ | ⟨g, cap, cur, rfl, _⟩
  · exact ⟨none, 0, rfl⟩
  · exact ⟨_, cap, rfl⟩
theorem dropLast_map (l : List Str) : l.dropLast.map encS = (l.map encS).dropLast := by rw [List.map_dropLast]
theorem take_get (l : List Str) (k : Nat) (x : Str) (h : l[k]? = some x) : l.take (k + 1) = l.take k ++ [x] := by
  rw [List.take_add_one, h]; rfl
theorem own_cell {w : World} {B g n cap : Nat} {xs : List Value} (h : w.ownsRow B 9 1 (.slice (some ⟨g, 0, none⟩) n cap) n xs) (j : Nat) (u : Value) (hj : xs[j]? = some u) : w.cell? ⟨g, j, none⟩ = some u := by
  have hl := h.1
  have hlt : j < xs.length := (List.getElem?_eq_some_iff.1 hj).1
  rw [h.cellAt j (by omega), hj]
end Go.Proofs.YtophihnjlodmjaaDoor.Pt
