/- Plain words on the 64 numbers of a block. -/
import Derived.Test.YtkenbppoldfecaaDoorMath
namespace Go.Proofs.YtkenbppoldfecaaDoor

theorem grow_len (n : Nat) (l : List Wd) : (grow n l).length = n + l.length := by
  induction n generalizing l with
  | zero => simp [grow]
  | succ n ih => rw [grow, ih, List.length_append, List.length_singleton]; omega
theorem grow_old (n : Nat) (l : List Wd) (i : Nat) (h : i < l.length) : (grow n l)[i]? = l[i]? := by
  induction n generalizing l with
  | zero => rfl
  | succ n ih => rw [grow, ih _ (by simp; omega), List.getElem?_append_left h]
theorem grow_add (m n : Nat) (l : List Wd) : grow (m + n) l = grow n (grow m l) := by
  induction m generalizing l with
  | zero => rw [Nat.zero_add]; rfl
  | succ m ih => rw [show m + 1 + n = (m + n) + 1 by omega, grow, ih, grow]
theorem grow_snoc (n : Nat) (l : List Wd) : grow (n + 1) l = grow n l ++ [nxt (grow n l)] := by
  rw [grow_add]
  rfl
theorem spread_len (l : Bytes) : (spreadL l).length = 64 := by
  unfold spreadL
  rw [grow_len]
  simp
theorem spread_first (l : Bytes) {k : Nat} (hk : k < 16) : (spreadL l).getD k 0 = wordAt l k := by
  unfold spreadL
  rw [List.getD_eq_getElem?_getD, grow_old _ _ _ (by simp; omega), List.getElem?_map, List.getElem?_range hk]
  rfl
theorem spread_next (l : Bytes) {k : Nat} (h1 : 16 ≤ k) (h2 : k < 64) :
    (spreadL l).getD k 0 = (spreadL l).getD (k - 16) 0 + low0 ((spreadL l).getD (k - 15) 0) + (spreadL l).getD (k - 7) 0 + low1 ((spreadL l).getD (k - 2) 0) := by
  obtain ⟨j, rfl⟩ : ∃ j, k = 16 + j := ⟨k - 16, by omega⟩
  have e : spreadL l = grow (48 - (j + 1)) (grow (j + 1) ((List.range 16).map (wordAt l))) := by
    unfold spreadL
    rw [← grow_add, show j + 1 + (48 - (j + 1)) = 48 by omega]
  have hl : (grow j ((List.range 16).map (wordAt l))).length = 16 + j := by rw [grow_len]; simp; omega
  have hold : ∀ i, i < 16 + j → (spreadL l).getD i 0 = (grow j ((List.range 16).map (wordAt l))).getD i 0 := by
    intro i hi
    rw [List.getD_eq_getElem?_getD, List.getD_eq_getElem?_getD, e, grow_old _ _ _ (by rw [grow_len]; simp; omega), grow_snoc, List.getElem?_append_left (by omega)]
  have hnew : (spreadL l).getD (16 + j) 0 = nxt (grow j ((List.range 16).map (wordAt l))) := by
    rw [List.getD_eq_getElem?_getD, e, grow_old _ _ _ (by rw [grow_len]; simp; omega), grow_snoc, List.getElem?_append_right (by omega), hl]
    simp
  rw [hnew, hold _ (by omega), hold _ (by omega), hold _ (by omega), hold _ (by omega)]
  unfold nxt
  rw [hl]
end Go.Proofs.YtkenbppoldfecaaDoor
