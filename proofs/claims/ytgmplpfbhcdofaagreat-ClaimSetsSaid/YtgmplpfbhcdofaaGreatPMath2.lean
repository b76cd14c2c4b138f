/- Plain words on paths. -/
import Derived.Test.YtgmplpfbhcdofaaGreatPMath
namespace Go.Proofs.YtgmplpfbhcdofaaGreat.Pt

/-- Do these parts make a path's names? -/
def partsB (l : List Str) : Bool := decide (l.length ≤ 40) && l.all nameB
def validB : Str → Bool
  | c :: r => decide (c = 47) && (decide (r = []) || partsB (cutP r))
  | [] => false

theorem partsB_snoc_long (l m : List Str) (h : 40 < l.length) (hp : l <+: m) : partsB m = false := by
  unfold partsB
  have := hp.length_le
  rw [decide_eq_false (by omega), Bool.false_and]
theorem partsB_bad (l m : List Str) (x : Str) (hx : nameB x = false) (hm : x ∈ l) (hp : l <+: m) : partsB m = false := by
  unfold partsB
  have : m.all nameB = false := by
    rw [List.all_eq_false]
    exact ⟨x, hp.subset hm, by simp [hx]⟩
  rw [this, Bool.and_false]
theorem partsB_all (l : List Str) (h : l.length ≤ 40) (ha : l.all nameB = true) : partsB l = true := by
  unfold partsB; rw [decide_eq_true h, ha]; rfl
theorem validB_root : validB [47] = true := by simp [validB]
theorem validB_slash (r : Str) (h : r ≠ []) : validB (47 :: r) = partsB (cutP r) := by simp [validB, h]
theorem validB_bad (p : Str) (h : p.head? ≠ some 47) : validB p = false := by
  cases p with
  | nil => rfl
  | cons c r => simp at h; simp [validB, h]

theorem consHead_len (c : UInt8) (l : List Str) (h : l ≠ []) : (consHead c l).length = l.length := by
  cases l with
  | nil => exact absurd rfl h
  | cons a t => rfl
theorem cutP_count (l : Str) : (cutP l).length = l.count 47 + 1 := by
  induction l with
  | nil => rfl
  | cons c s ih =>
    rw [cutP_cons, List.count_cons]
    by_cases h : c = 47
    · simp [h, ih]
    · rw [if_neg h, consHead_len _ _ (cutP_ne s), ih]
      simp [h]
def splitL (s : Str) : List Str := if s = [] then [] else cutP s
end Go.Proofs.YtgmplpfbhcdofaaGreat.Pt
