/- Proved here, of the document's answers alone: blocks that are taken in behind others come to what all come to at once. -/
import Derived.Test.YtkenbppoldfecaaDoorSame
namespace Go.Proofs.YtkenbppoldfecaaDoor
open Go.RowKit Go.Shelf Go.Joins

theorem blk_add (i j : Nat) (s : St) (l : Bytes) : blk (i + j) s l = blk j (blk i s l) (l.drop (64 * i)) := by
  induction i generalizing s l with
  | zero => simp [blk]
  | succ i ih => rw [show i + 1 + j = (i + j) + 1 by omega, blk, ih, blk, List.drop_drop, show 64 + 64 * i = 64 * (i + 1) by omega]
theorem blk_app (k : Nat) (s : St) (x y : Bytes) (h : 64 * k ≤ x.length) : blk k s (x ++ y) = blk k s x := by
  induction k generalizing s x with
  | zero => rfl
  | succ k ih => rw [blk, blk, List.take_append_of_le_length (by omega), List.drop_append_of_le_length (by omega), ih _ _ (by rw [List.length_drop]; omega)]
theorem more_words (s : St) (x y : Bytes) : wordsOf (wordsOf s x) (restOf x ++ y) = wordsOf s (x ++ y) ∧ restOf (restOf x ++ y) = restOf (x ++ y) := by
  obtain ⟨i, hi⟩ : ∃ i, i = x.length / 64 := ⟨_, rfl⟩
  have hr : (restOf x).length = x.length - i * 64 := by unfold restOf; rw [List.length_drop, ← hi]
  obtain ⟨j, hj⟩ : ∃ j, j = (restOf x ++ y).length / 64 := ⟨_, rfl⟩
  have hd : (x ++ y).drop (64 * i) = restOf x ++ y := by
    rw [List.drop_append_of_le_length (by omega)]
    unfold restOf
    rw [← hi, Nat.mul_comm]
  have ht : (x ++ y).length / 64 = i + j := by
    rw [hj, List.length_append, List.length_append, hr]
    omega
  constructor
  · unfold wordsOf
    rw [← hi, ← hj, ht, blk_add, hd, blk_app i s x y (by omega)]
  · rw [show restOf (restOf x ++ y) = (restOf x ++ y).drop (j * 64) by rw [hj]; rfl, ← hd, List.drop_drop]
    unfold restOf
    rw [ht]
    congr 1
    omega
theorem rest_len (x : Bytes) : (restOf x).length = x.length % 64 := by
  unfold restOf
  rw [List.length_drop]
  omega
theorem mayBe_words (x : Bytes) (h : x.length < 2305843009213693952) : MayBe (wordsOf first x) (restOf x).length x.length :=
  ⟨h, rest_len x, fun h64 => (blk_short h64).1⟩
end Go.Proofs.YtkenbppoldfecaaDoor
