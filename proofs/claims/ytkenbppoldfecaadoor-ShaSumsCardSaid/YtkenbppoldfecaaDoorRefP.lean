/- Proved here: numbers of three parts as numbers: times and less of puncheonref03 in plain words. -/
import Derived.Test.YtkenbppoldfecaaDoorRefM
namespace Go.Proofs.YtkenbppoldfecaaDoor
open Go.RowKit Go.Shelf

/-- A number's three parts. -/
def triN (n : Nat) : Array Value := tri (n % 18446744073709551616) (n / 18446744073709551616 % 18446744073709551616) (n / 340282366920938463463374607431768211456 % 18446744073709551616)
theorem tri_mul (n x : Nat) (hn : n < 6277101735386680763835789423207666416102355444464034512896) :
    partOf (n % 18446744073709551616) x 0 = n * x % 18446744073709551616 ∧
    partOf (n / 18446744073709551616 % 18446744073709551616) x (over (n % 18446744073709551616) x 0) = n * x / 18446744073709551616 % 18446744073709551616 ∧
    partOf (n / 340282366920938463463374607431768211456 % 18446744073709551616) x (over (n / 18446744073709551616 % 18446744073709551616) x (over (n % 18446744073709551616) x 0)) = n * x / 340282366920938463463374607431768211456 % 18446744073709551616 := by
  obtain ⟨a, ha⟩ : ∃ a, a = n % 18446744073709551616 := ⟨_, rfl⟩
  obtain ⟨b, hb⟩ : ∃ b, b = n / 18446744073709551616 % 18446744073709551616 := ⟨_, rfl⟩
  obtain ⟨c, hc⟩ : ∃ c, c = n / 340282366920938463463374607431768211456 % 18446744073709551616 := ⟨_, rfl⟩
  have h : n = a + 18446744073709551616 * b + 340282366920938463463374607431768211456 * c := by omega
  rw [← ha, ← hb, ← hc]
  have e : n * x = a * x + 18446744073709551616 * (b * x) + 340282366920938463463374607431768211456 * (c * x) := by
    rw [h, Nat.add_mul, Nat.add_mul, Nat.mul_assoc, Nat.mul_assoc]
  rw [e]
  unfold partOf over
  generalize a * x = p
  generalize b * x = q
  generalize c * x = r
  refine ⟨by omega, by omega, by omega⟩
theorem tri_less (m n : Nat) (hm : m < 6277101735386680763835789423207666416102355444464034512896) (hn : n < 6277101735386680763835789423207666416102355444464034512896) :
    decide (m / 340282366920938463463374607431768211456 % 18446744073709551616 < n / 340282366920938463463374607431768211456 % 18446744073709551616 ∨ m / 340282366920938463463374607431768211456 % 18446744073709551616 = n / 340282366920938463463374607431768211456 % 18446744073709551616 ∧ (m / 18446744073709551616 % 18446744073709551616 < n / 18446744073709551616 % 18446744073709551616 ∨ m / 18446744073709551616 % 18446744073709551616 = n / 18446744073709551616 % 18446744073709551616 ∧ m % 18446744073709551616 < n % 18446744073709551616)) = decide (m < n) := by
  rw [decide_eq_decide]
  omega
theorem rtimes_any (n x : Nat) (hn : n < 6277101735386680763835789423207666416102355444464034512896) (hx : x < 18446744073709551616) (w : World) : Calls Tryd.prog 48 #[.agg (triN n), .int .u64 (x : Int)] w fun e w' => e = .returned (.agg (triN (n * x))) ∧ Below w.heap.size w w' := by
  obtain ⟨e0, e1, e2⟩ := tri_mul n x hn
  have h := times_any (n % 18446744073709551616) (n / 18446744073709551616 % 18446744073709551616) (n / 340282366920938463463374607431768211456 % 18446744073709551616) x (Nat.mod_lt _ (by decide)) (Nat.mod_lt _ (by decide)) (Nat.mod_lt _ (by decide)) hx w
  rw [e0, e1, e2] at h
  exact h
theorem rless_any (m n : Nat) (hm : m < 6277101735386680763835789423207666416102355444464034512896) (hn : n < 6277101735386680763835789423207666416102355444464034512896) (w : World) : Calls Tryd.prog 49 #[.agg (triN m), .agg (triN n)] w fun e w' => e = .returned (.bool (decide (m < n))) ∧ Below w.heap.size w w' := by
  rw [← tri_less m n hm hn]
  exact less_any _ _ _ _ _ _ w

/-- What the reference looks for by halving: is the goal at least this number to the power? -/
def rootB (k p x : Nat) : Bool := decide (x ^ k ≤ p * 2 ^ (32 * k))
def rootOf (k p : Nat) : Wd := BitVec.ofNat 32 (halve (rootB k p) 38 0)
set_option maxRecDepth 100000 in
theorem cubes_are : primesL.map (rootOf 3) = consts := by decide +kernel
set_option maxRecDepth 100000 in
theorem squares_are : (primesL.take 8).map (rootOf 2) = first.words := by decide +kernel
end Go.Proofs.YtkenbppoldfecaaDoor
