/- Plain words on versions: which may be, and their order. Nothing of the program stands here. -/
import Derived.Test.YtjekibhaabkecaaDoorShelf
import Derived.Lib.Strings
namespace Go.Proofs.YtjekibhaabkecaaDoor
open Go.RowKit

abbrev Str := List UInt8

/-- A version as it goes by value: its four numbers, how many count, its tag, its step. -/
structure Ver where
  n0 : Int
  n1 : Int
  n2 : Int
  n3 : Int
  many : Int
  tag : ByteArray
  step : Int
deriving DecidableEq
def Ver.cells (v : Ver) : List Value := [.int .i64 v.n0, .int .i64 v.n1, .int .i64 v.n2, .int .i64 v.n3, .int .i64 v.many, .string v.tag, .int .i64 v.step]
def Ver.arr (v : Ver) : Array Value := #[.int .i64 v.n0, .int .i64 v.n1, .int .i64 v.n2, .int .i64 v.n3, .int .i64 v.many, .string v.tag, .int .i64 v.step]
def Ver.zero : Ver := ⟨0, 0, 0, 0, 0, ⟨#[]⟩, 0⟩
def Ver.num (v : Ver) (j : Nat) : Int := if j = 0 then v.n0 else if j = 1 then v.n1 else if j = 2 then v.n2 else v.n3

def lowB (c : UInt8) : Bool := decide (97 ≤ c.toNat ∧ c.toNat ≤ 122)
def tagB (l : Str) : Bool := decide (l ≠ [] ∧ l.length ≤ 6) && l.all lowB
/-- May the number at this place be, so many being counted? -/
def numB (many : Int) (j : Nat) (x : Int) : Bool := decide (0 ≤ x ∧ x ≤ 9999 ∧ ((j : Int) < many ∨ x = 0))
def Ver.numsB (v : Ver) : Bool := numB v.many 0 v.n0 && numB v.many 1 v.n1 && numB v.many 2 v.n2 && numB v.many 3 v.n3
def Ver.endB (v : Ver) : Bool := if v.tag.data.toList = [] then decide (v.step = 0) else tagB v.tag.data.toList && decide (0 ≤ v.step ∧ v.step ≤ 999)
def Ver.ok (v : Ver) : Bool := decide (1 ≤ v.many ∧ v.many ≤ 4) && v.numsB && v.endB

theorem nums_yes (v : Ver) (h : ∀ j, j < 4 → numB v.many j (v.num j) = true) : v.numsB = true := by
  have h0 := h 0 (by omega)
  have h1 := h 1 (by omega)
  have h2 := h 2 (by omega)
  have h3 := h 3 (by omega)
  simp only [Ver.num] at h0 h1 h2 h3
  unfold Ver.numsB
  simp only [Nat.reduceEqDiff, if_true, if_false] at h0 h1 h2 h3
  rw [h0, h1, h2, h3]
  rfl
theorem nums_no (v : Ver) (k : Nat) (hk : k < 4) (h : numB v.many k (v.num k) = false) : v.numsB = false := by
  unfold Ver.numsB
  rcases (by omega : k = 0 ∨ k = 1 ∨ k = 2 ∨ k = 3) with rfl | rfl | rfl | rfl <;> simp [Ver.num] at h <;> simp [h]
theorem num_get (v : Ver) (k : Nat) (hk : k < 4) : (#[Value.int .i64 v.n0, .int .i64 v.n1, .int .i64 v.n2, .int .i64 v.n3])[k]? = some (.int .i64 (v.num k)) := by
  rcases (by omega : k = 0 ∨ k = 1 ∨ k = 2 ∨ k = 3) with rfl | rfl | rfl | rfl <;> rfl
theorem all_take {l : Str} {p : UInt8 → Bool} {k : Nat} (hk : ∀ j c, j < k → l[j]? = some c → p c = true) (hs : ∀ c, l[k]? = some c → p c = false) : l.takeWhile p = l.take k ∧ l.dropWhile p = l.drop k := by
  induction l generalizing k with
  | nil => simp
  | cons c l ih =>
    cases k with
    | zero =>
      have := hs c rfl
      simp [this]
    | succ k =>
      have h0 := hk 0 c (by omega) rfl
      have := ih (k := k) (fun j x hj hx => hk (j + 1) x (by omega) (by simpa using hx)) (fun x hx => hs x (by simpa using hx))
      simp [h0, this.1, this.2]
theorem drop_nil_all (l : Str) (p : UInt8 → Bool) : l.dropWhile p = [] ↔ l.all p = true := by
  induction l with
  | nil => simp
  | cons c l ih =>
    rw [List.dropWhile_cons, List.all_cons]
    by_cases h : p c = true
    · rw [if_pos h, h, Bool.true_and]
      exact ih
    · rw [if_neg h]
      simp [h]
end Go.Proofs.YtjekibhaabkecaaDoor
