/- Proved here: turned and less of puncheonref03: a word turned, by steps of one; two numbers of three parts compared. -/
import Derived.Test.YtkenbppoldfecaaDoorHalve
namespace Go.Proofs.YtkenbppoldfecaaDoor
open Go.RowKit Go.Shelf

theorem rot_get (x : Wd) (n i : Nat) (hn : n < 32) (hi : i < 32) : (rot x n).getLsbD i = x.getLsbD ((i + n) % 32) := by
  unfold rot
  rw [BitVec.getLsbD_or, BitVec.getLsbD_ushiftRight, BitVec.getLsbD_shiftLeft]
  by_cases h : i + n < 32
  · have e : (i + n) % 32 = n + i := by omega
    have e2 : decide (i < 32 - n) = true := by simp; omega
    rw [e, e2]; simp
  · have e : (i + n) % 32 = i - (32 - n) := by omega
    have e2 : decide (i < 32 - n) = false := by simp; omega
    have e3 : x.getLsbD (n + i) = false := BitVec.getLsbD_of_ge _ _ (by omega)
    rw [e, e2, e3]; simp [hi]
theorem rot_zero (x : Wd) : rot x 0 = x := by
  apply BitVec.eq_of_getLsbD_eq
  intro i hi
  rw [rot_get _ 0 i (by omega) hi, Nat.add_zero, Nat.mod_eq_of_lt hi]
theorem rot_more (x : Wd) (n : Nat) (hn : n + 1 < 32) : rot (rot x n) 1 = rot x (n + 1) := by
  apply BitVec.eq_of_getLsbD_eq
  intro i hi
  rw [rot_get _ 1 i (by omega) hi, rot_get x n _ (by omega) (Nat.mod_lt _ (by omega)), rot_get x (n + 1) i hn hi]
  congr 1
  omega
theorem rot_one (x : Wd) : (rot x 1).toNat = x.toNat / 2 + x.toNat % 2 * 2147483648 := by
  unfold rot
  have h : (x >>> 1) &&& (x <<< 31) = 0#32 := by
    apply BitVec.eq_of_getLsbD_eq
    intro i hi
    rw [BitVec.getLsbD_and, BitVec.getLsbD_ushiftRight, BitVec.getLsbD_shiftLeft]
    by_cases h : i < 31
    · simp [h]
    · have : x.getLsbD (1 + i) = false := BitVec.getLsbD_of_ge _ _ (by omega)
      rw [this]; simp
  rw [show 32 - 1 = 31 from rfl, ← BitVec.add_eq_or_of_and_eq_zero _ _ h, BitVec.toNat_add, BitVec.toNat_ushiftRight, BitVec.toNat_shiftLeft, Nat.shiftRight_eq_div_pow, Nat.shiftLeft_eq]
  have := x.isLt
  omega

theorem turned_any (x : Wd) (n : Nat) (hn : n < 32) (w : World) : Calls Tryd.prog 54 #[u x, .int .i64 (n : Int)] w fun e w' => e = .returned (u (rot x n)) ∧ w = w' := by
  go_enter Tryd.func54, Tryd.ntmps54
  go_wp2
  go_loop [0, 6] (fun y i => ∃ (k m : Nat), k ≤ n ∧ i = .int .i64 (k : Int) ∧ y = .int .u32 (m : Int) ∧ m < 4294967296 ∧ Hid (m = (rot x k).toNat)) (fun _ i => n - (Lib.intOf i).toNat)
  case atStart => exact ⟨0, x.toNat, by omega, rfl, rfl, x.isLt, Lib.hid (by rw [rot_zero])⟩
  case round =>
    obtain ⟨k, m, hk, rfl, rfl, hm, HM⟩ := hrel
    by_cases hlt : k < n
    · have k1 : (k : Int) < (n : Int) := by omega
      have k4 : IntKind.i64.wrap ((k : Int) + 1) = (k : Int) + 1 := IntWalk.i64_in _ (by omega)
      obtain ⟨y, hy⟩ : ∃ y, y = m / 2 + m % 2 * 2147483648 := ⟨_, rfl⟩
      have HY : Hid (y = (rot x (k + 1)).toNat) := Lib.hid (by rw [← rot_more x k (by omega), rot_one, ← HM.out]; exact hy)
      have hy4 : y < 4294967296 := by omega
      have v1 : IntKind.u32.wrap ((m : Int) / 2) = (m : Int) / 2 := by rw [wrap_u32]; omega
      have v2 : IntKind.u32.wrap ((m : Int) % 2) = (m : Int) % 2 := by rw [wrap_u32]; omega
      have v3 : IntKind.u32.wrap ((m : Int) % 2 * 2147483648) = (m : Int) % 2 * 2147483648 := by rw [wrap_u32]; omega
      have v4 : IntKind.u32.wrap ((m : Int) / 2 + (m : Int) % 2 * 2147483648) = (y : Int) := by rw [wrap_u32]; omega
      have HYM := Lib.hid hy
      clear hy
      go_wp2
      go_round
      case rel => exact ⟨k + 1, y, hlt, by go_num, rfl, hy4, HY⟩
      case measure => simp [Lib.intOf]; omega
    · have k1 : ¬ ((k : Int) < (n : Int)) := by omega
      obtain rfl : k = n := by omega
      go_wp2
      go_ret
      exact ⟨ret_u (by rw [HM.out]), rfl⟩
end Go.Proofs.YtkenbppoldfecaaDoor
