/- Proved here: strings.Cut at one byte, and readTag of package version. -/
import Derived.Test.YtjekibhaabkecaaDoorNumber
namespace Go.Proofs.YtjekibhaabkecaaDoor
open Go.RowKit Go.Shelf

def cutAt (c : UInt8) (l : Str) : Str × Str × Bool := if c ∈ l then (l.takeWhile (· != c), (l.dropWhile (· != c)).drop 1, true) else (l, [], false)
theorem index_none (c : UInt8) (l : Str) (h : c ∉ l) : Lib.indexByte l c = -1 := by
  induction l with
  | nil => rfl
  | cons x s ih =>
    simp only [List.mem_cons, not_or] at h
    unfold Lib.indexByte
    have : (x == c) = false := by simp; exact fun e => h.1 e.symm
    rw [this, ih h.2]
    rfl
theorem index_some (c : UInt8) (l : Str) (h : c ∈ l) : Lib.indexByte l c = ((l.takeWhile (· != c)).length : Int) := by
  induction l with
  | nil => simp at h
  | cons x s ih =>
    by_cases hc : x = c
    · simp [hc, Lib.indexByte]
    · have h' : c ∈ s := by
        rcases List.mem_cons.1 h with h | h
        · exact absurd h.symm hc
        · exact h
      unfold Lib.indexByte
      have e : (x == c) = false := by simp; exact hc
      rw [e, ih h', List.takeWhile_cons]
      have e2 : (((s.takeWhile (· != c)).length : Int) == -1) = false := by rw [beq_eq_false_iff_ne]; omega
      simp [hc, e2]
theorem take_len (c : UInt8) (l : Str) : l.take (l.takeWhile (· != c)).length = l.takeWhile (· != c) ∧ l.drop (l.takeWhile (· != c)).length = l.dropWhile (· != c) := by
  induction l with
  | nil => simp
  | cons x s ih =>
    by_cases hc : x = c
    · simp [hc]
    · rw [List.takeWhile_cons, List.dropWhile_cons]
      simp [hc, ih.1, ih.2]
theorem take_lt (c : UInt8) (l : Str) (h : c ∈ l) : (l.takeWhile (· != c)).length < l.length := by
  induction l with
  | nil => simp at h
  | cons x s ih =>
    by_cases hc : x = c
    · simp [hc]
    · have h' : c ∈ s := by
        rcases List.mem_cons.1 h with h | h
        · exact absurd h.symm hc
        · exact h
      rw [List.takeWhile_cons]
      simp [hc, ih h']
theorem tup3 {a a' b b' : ByteArray} {c : Bool} (h1 : a = a') (h2 : b = b') : Ending.returned (.tuple #[.string a, .string b, .bool c]) = .returned (.tuple #[.string a', .string b', .bool c]) := by rw [h1, h2]
theorem ba_eq (s : ByteArray) (l : Str) (h : s.data.toList = l) : s = ⟨l.toArray⟩ := by
  subst h
  rfl

def CutR (s : ByteArray) (w : World) (e : Ending) (w' : World) : Prop := e = .returned (.tuple #[.string ⟨(cutAt 45 s.data.toList).1.toArray⟩, .string ⟨(cutAt 45 s.data.toList).2.1.toArray⟩, .bool (cutAt 45 s.data.toList).2.2]) ∧ Below w.heap.size w w'

set_option maxRecDepth 100000 in
set_option maxHeartbeats 1000000 in
theorem scut_any (s : ByteArray) (hs : s.size ≤ 140737488355328) (w : World) : Calls Tryd.prog 50 #[.string s, .string ⟨#[45]⟩] w (CutR s w) := by
  have hl : s.data.toList.length = s.size := rfl
  unfold CutR
  by_cases h : 45 ∈ s.data.toList
  · have hi := index_some 45 _ h
    have hlt := take_lt 45 _ h
    obtain ⟨e1, e2⟩ := take_len 45 s.data.toList
    have HE : Hid (cutAt 45 s.data.toList = (s.data.toList.takeWhile (· != 45), (s.data.toList.dropWhile (· != 45)).drop 1, true)) := Lib.hid (if_pos h)
    rw [HE.out]
    dsimp only
    obtain ⟨k, hk⟩ : ∃ k, k = (s.data.toList.takeWhile (· != 45)).length := ⟨_, rfl⟩
    rw [← hk] at e1 e2 hi hlt
    rw [← e1, ← e2]
    have c1 : (0 : Int) ≤ ↑k := by omega
    have c2 : (↑k : Int) ≤ ↑s.size := by omega
    have c3 : (0 : Int) ≤ ↑k + 1 := by omega
    have c4 : (↑k + 1 : Int) ≤ ↑s.size := by omega
    have HI := Lib.hid hi
    have c5 : IntKind.i64.wrap (↑k + 1) = (↑k + 1 : Int) := IntWalk.i64_in _ (by omega)
    have c6 : ((k : Int) + 1).toNat = k + 1 := by omega
    clear h hi hlt e1 e2 hk hl HE
    go_enter Tryd.func50, Tryd.ntmps50
    go_wp2_with (go_at_call 68; refine (Tryd.stringslite_Index_one _ _ _).mono ?_; rintro e w' ⟨rfl, rfl⟩; rw [HI.out])
    go_quiet (fail)
    go_wp2
    go_ret3
    refine ⟨tup3 (ba_eq _ _ ?_) (ba_eq _ _ ?_), below_drewN (Below.refl _ _) _⟩
    · exact ext_to s k
    · rw [Lib.extract_to_end, List.drop_drop]
  · have hi := index_none 45 _ h
    have HI := Lib.hid hi
    have HE : Hid (cutAt 45 s.data.toList = (s.data.toList, [], false)) := Lib.hid (if_neg h)
    rw [HE.out]
    clear h hi hl HE
    go_enter Tryd.func50, Tryd.ntmps50
    go_wp2_with (go_at_call 68; refine (Tryd.stringslite_Index_one _ _ _).mono ?_; rintro e w' ⟨rfl, rfl⟩; rw [HI.out])
    go_ret3
    exact ⟨rfl, Below.refl _ _⟩

set_option maxRecDepth 100000 in
set_option maxHeartbeats 1000000 in
theorem cut_any (s : ByteArray) (hs : s.size ≤ 140737488355328) (w : World) : Calls Tryd.prog 36 #[.string s, .string ⟨#[45]⟩] w (CutR s w) := by
  have HC := Lib.hid (scut_any s hs w)
  clear hs
  go_enter Tryd.func36, Tryd.ntmps36
  go_wp2_with fail
  refine HC.out.mono ?_
  rintro e w1 ⟨rfl, hb⟩
  go_wp2_with fail
  go_ret3
  exact ⟨rfl, hb⟩
end Go.Proofs.YtjekibhaabkecaaDoor
