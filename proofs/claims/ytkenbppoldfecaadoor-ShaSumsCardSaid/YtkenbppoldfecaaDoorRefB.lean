/- Proved here: four bytes put together by sums are the word that their parts are by ors. -/
import Derived.Test.YtkenbppoldfecaaDoorRefQ
import Derived.Test.YtkenbppoldfecaaDoorMix
namespace Go.Proofs.YtkenbppoldfecaaDoor
open Go.RowKit Go.Shelf

theorem shl_bits (a n m : Nat) (ha : a < 256) (h : n + 8 ≤ 32) (hm : m = 32) : (BitVec.ofNat m a <<< n).toNat = a * 2 ^ n := by
  subst hm
  rw [BitVec.toNat_shiftLeft, BitVec.toNat_ofNat, Nat.mod_eq_of_lt (show a < 2 ^ 32 by omega), Nat.shiftLeft_eq]
  apply Nat.mod_eq_of_lt
  have : 2 ^ (n + 8) ≤ 2 ^ 32 := Nat.pow_le_pow_right (by omega) h
  have h2 : a * 2 ^ n < 256 * 2 ^ n := Nat.mul_lt_mul_of_pos_right ha (Nat.two_pow_pos n)
  have h3 : 2 ^ (n + 8) = 256 * 2 ^ n := by rw [Nat.pow_add, Nat.mul_comm]
  omega
theorem or_sum (a b n : Nat) (hb : b < 2 ^ n) : a * 2 ^ n ||| b = a * 2 ^ n + b := by
  rw [← Nat.shiftLeft_eq, ← Nat.shiftLeft_add_eq_or_of_lt hb]
theorem w4_sum (a b c d : UInt8) : (w4 a b c d).toNat = a.toNat * 16777216 + b.toNat * 65536 + c.toNat * 256 + d.toNat := by
  have ha := a.toNat_lt
  have hb := b.toNat_lt
  have hc := c.toNat_lt
  have hd := d.toNat_lt
  unfold w4
  rw [BitVec.toNat_or, BitVec.toNat_or, BitVec.toNat_or, shl_bits _ 24 _ ha (by omega) rfl, shl_bits _ 16 _ hb (by omega) rfl, shl_bits _ 8 _ hc (by omega) rfl, BitVec.toNat_ofNat, Nat.mod_eq_of_lt (show d.toNat < 2 ^ 32 by omega)]
  rw [or_sum _ _ 24 (by omega), show a.toNat * 2 ^ 24 + b.toNat * 2 ^ 16 = (a.toNat * 256 + b.toNat) * 2 ^ 16 by omega]
  rw [or_sum _ _ 16 (by omega), show (a.toNat * 256 + b.toNat) * 2 ^ 16 + c.toNat * 2 ^ 8 = ((a.toNat * 256 + b.toNat) * 256 + c.toNat) * 2 ^ 8 by omega]
  rw [or_sum _ _ 8 (by omega)]
end Go.Proofs.YtkenbppoldfecaaDoor
