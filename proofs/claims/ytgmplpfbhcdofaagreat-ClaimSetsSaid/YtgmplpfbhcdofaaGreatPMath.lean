/- Plain words on texts: names, parts, paths. Nothing of the program stands here. -/
import Derived.Below
namespace Go.Proofs.YtgmplpfbhcdofaaGreat.Pt

abbrev Str := List UInt8

def letB (r : Int) : Bool := decide (97 ≤ r ∧ r ≤ 122 ∨ 48 ≤ r ∧ r ≤ 57 ∨ r = 46 ∨ r = 95 ∨ r = 43 ∨ r = 45)
def okB (c : UInt8) : Bool := letB (c.toNat : Int)
def nameB (s : Str) : Bool := decide (s ≠ [] ∧ s ≠ [46] ∧ s ≠ [46, 46] ∧ s.length ≤ 32) && s.all okB

theorem letB_high (r : Int) (h : 128 ≤ r) : letB r = false := by
  unfold letB; exact decide_eq_false (by omega)

theorem all_yes (s : ByteArray) (p : UInt8 → Bool) (h : ∀ j (hj : j < s.size), p s[j] = true) : s.data.toList.all p = true := by
  rw [List.all_eq_true]
  intro x hx
  obtain ⟨j, hj, rfl⟩ := List.mem_iff_getElem.1 hx
  exact h j (by simpa using hj)

theorem all_no (s : ByteArray) (p : UInt8 → Bool) (j : Nat) (hj : j < s.size) (h : p s[j] = false) : s.data.toList.all p = false := by
  rw [List.all_eq_false]
  exact ⟨s[j], by rw [List.mem_iff_getElem]; exact ⟨j, by simpa using hj, rfl⟩, by simp [h]⟩


theorem nameB_no (s : Str) (h : s = [] ∨ s = [46] ∨ s = [46, 46] ∨ 32 < s.length) : nameB s = false := by
  unfold nameB
  rw [decide_eq_false, Bool.false_and]
  rcases h with h | h | h | h
  · simp [h]
  · simp [h]
  · simp [h]
  · intro ⟨_, _, _, h4⟩; omega

theorem nameB_mid (s : Str) (h1 : s ≠ []) (h2 : s ≠ [46]) (h3 : s ≠ [46, 46]) (h4 : s.length ≤ 32) : nameB s = s.all okB := by
  unfold nameB
  rw [decide_eq_true ⟨h1, h2, h3, h4⟩, Bool.true_and]


/-! ### Cutting at a slash -/
def cut1 (l : Str) : Str × Str × Bool :=
  if 47 ∈ l then (l.takeWhile (· != 47), (l.dropWhile (· != 47)).drop 1, true) else (l, [], false)

def consHead (c : UInt8) : List Str → List Str
  | [] => [[c]]
  | h :: t => (c :: h) :: t
def cutP : Str → List Str
  | [] => [[]]
  | c :: s => if c = 47 then [] :: cutP s else consHead c (cutP s)

theorem cutP_cons (c : UInt8) (s : Str) : cutP (c :: s) = if c = 47 then [] :: cutP s else consHead c (cutP s) := rfl

theorem cutP_ne (l : Str) : cutP l ≠ [] := by
  cases l with
  | nil => simp [cutP]
  | cons c s =>
    rw [cutP_cons]
    by_cases h : c = 47
    · simp [h]
    · rw [if_neg h]
      cases cutP s <;> simp [consHead]

theorem cutP_last (l : Str) (h : 47 ∉ l) : cutP l = [l] := by
  induction l with
  | nil => rfl
  | cons c s ih =>
    simp only [List.mem_cons, not_or] at h
    rw [cutP_cons]
    rw [if_neg (fun e => h.1 e.symm), ih h.2]
    rfl

theorem cutP_step (l : Str) (h : 47 ∈ l) : cutP l = l.takeWhile (· != 47) :: cutP ((l.dropWhile (· != 47)).drop 1) := by
  induction l with
  | nil => simp at h
  | cons c s ih =>
    rw [cutP_cons, List.takeWhile_cons, List.dropWhile_cons]
    by_cases hc : c = 47
    · simp [hc]
    · have h' : 47 ∈ s := by
        rcases List.mem_cons.1 h with h | h
        · exact absurd h.symm hc
        · exact h
      rw [if_neg hc, ih h']
      simp [hc, consHead]

theorem cut1_yes (l : Str) (h : 47 ∈ l) : cut1 l = (l.takeWhile (· != 47), (l.dropWhile (· != 47)).drop 1, true) := by unfold cut1; rw [if_pos h]
theorem cut1_no (l : Str) (h : 47 ∉ l) : cut1 l = (l, [], false) := by unfold cut1; rw [if_neg h]

theorem cutP_cut1 (l : Str) : cutP l = (cut1 l).1 :: (if (cut1 l).2.2 = true then cutP (cut1 l).2.1 else []) := by
  by_cases h : 47 ∈ l
  · rw [cut1_yes l h, cutP_step l h]; simp
  · rw [cut1_no l h, cutP_last l h]; simp

theorem cut1_len (l : Str) (h : (cut1 l).2.2 = true) : (cut1 l).2.1.length < l.length := by
  by_cases hm : 47 ∈ l
  · rw [cut1_yes l hm]
    have h0 : 0 < l.length := List.length_pos_of_mem hm
    have := (List.dropWhile_sublist (l := l) (p := (· != 47))).length_le
    simp only [List.length_drop]
    omega
  · rw [cut1_no l hm] at h; simp at h

theorem cut1_le (l : Str) : (cut1 l).1.length ≤ l.length ∧ (cut1 l).2.1.length ≤ l.length := by
  by_cases hm : 47 ∈ l
  · rw [cut1_yes l hm]
    have h1 := (List.dropWhile_sublist (l := l) (p := (· != 47))).length_le
    have h2 := (List.takeWhile_sublist (l := l) (p := (· != 47))).length_le
    simp only [List.length_drop]
    omega
  · rw [cut1_no l hm]; simp

theorem take_while_len (l : Str) : l.take (l.takeWhile (· != 47)).length = l.takeWhile (· != 47) := by
  induction l with
  | nil => rfl
  | cons c s ih =>
    by_cases hc : c = 47
    · simp [hc]
    · rw [List.takeWhile_cons]; simp [hc, ih]

theorem drop_while_len (l : Str) : l.drop (l.takeWhile (· != 47)).length = l.dropWhile (· != 47) := by
  induction l with
  | nil => rfl
  | cons c s ih =>
    by_cases hc : c = 47
    · simp [hc]
    · rw [List.takeWhile_cons, List.dropWhile_cons]; simp [hc, ih]

theorem take_while_lt (l : Str) (h : 47 ∈ l) : (l.takeWhile (· != 47)).length < l.length := by
  induction l with
  | nil => simp at h
  | cons c s ih =>
    by_cases hc : c = 47
    · simp [hc]
    · have h' : 47 ∈ s := by
        rcases List.mem_cons.1 h with h | h
        · exact absurd h.symm hc
        · exact h
      rw [List.takeWhile_cons]; simp [hc, ih h']


theorem cut1_snd_le (l : Str) (n : Nat) (h : l.length ≤ n) : (cut1 l).2.1.length ≤ n := Nat.le_trans (cut1_le l).2 h

/-- What is still to come: the part at hand, and those of the rest, if there is more. -/
def tail1 (part rest : Str) (more : Bool) : List Str := part :: (if more = true then cutP rest else [])
theorem tail1_start (l : Str) : cutP l = tail1 (cut1 l).1 (cut1 l).2.1 (cut1 l).2.2 := cutP_cut1 l
theorem tail1_more (part rest : Str) : tail1 part rest true = part :: tail1 (cut1 rest).1 (cut1 rest).2.1 (cut1 rest).2.2 := by
  unfold tail1; rw [if_pos rfl, ← cutP_cut1 rest]
theorem tail1_last (part rest : Str) : tail1 part rest false = [part] := rfl

open Go.RowKit in
def msr : Value → Value → Nat
  | .string s, .bool true => s.size + 1
  | _, _ => 0
theorem msr_true (l : Str) : msr (.string ⟨l.toArray⟩) (.bool true) = l.length + 1 := by simp [msr, ByteArray.size]
theorem msr_lt (l : Str) : msr (.string ⟨(cut1 l).2.1.toArray⟩) (.bool (cut1 l).2.2) < msr (.string ⟨l.toArray⟩) (.bool true) := by
  rw [msr_true]
  by_cases h : (cut1 l).2.2 = true
  · have := cut1_len l h
    rw [h, msr_true]; omega
  · rw [Bool.eq_false_iff.2 h]
    show 0 < _
    omega

end Go.Proofs.YtgmplpfbhcdofaaGreat.Pt
