/- Proved here, of versions as plain words alone: what begins with a version stands ahead of the one behind it. -/
import Derived.Test.YtjekibhaabkecaaDoorBegins
import Derived.Test.YtjekibhaabkecaaDoorOrder
namespace Go.Proofs.YtjekibhaabkecaaDoor
open Go.RowKit Go.Shelf

/-- The version without its tag and step. -/
def Ver.bare (v : Ver) : Ver := ⟨v.n0, v.n1, v.n2, v.n3, v.many, ⟨#[]⟩, 0⟩
theorem num_bare (v : Ver) (j : Nat) : v.bare.num j = v.num j := rfl
/-- The first place at which two versions differ tells. -/
theorem ahead_at {w n : Ver} (k : Nat) (hk : k < 4) (h0 : ∀ j, j < k → w.num j = n.num j) (h : w.num k < n.num k) : cmpV w n = -1 := by
  have e : numC w n k = -1 := by
    unfold numC Lib.compareInt
    rw [if_pos h]
  have z : ∀ j, j < k → numC w n j = 0 := fun j hj => by
    unfold numC
    rw [h0 j hj]
    exact good_int.zero _
  have f : firstC (numC w n) = -1 := (firstC_at _ k hk z (by rw [e]; decide)).trans e
  have g := firstC_at (fun j => if j = 0 then firstC (numC w n) else if j = 1 then tagC w.tag n.tag else if j = 2 then Lib.compareInt w.step n.step else Lib.compareInt w.many n.many) 0 (by omega) (fun j hj => absurd hj (by omega)) (by simp [f])
  unfold cmpV
  rw [g]
  simpa using f
theorem ok_cut {v : Ver} (h : v.ok = true) {j : Nat} (hj : j < 4) (hm : v.many ≤ (j : Int)) : v.num j = 0 := by
  unfold Ver.ok Ver.numsB at h
  simp only [Bool.and_eq_true] at h
  obtain ⟨⟨_, ⟨⟨h0, h1⟩, h2⟩, h3⟩, _⟩ := h
  have f : ∀ {i : Nat} {x : Int}, numB v.many i x = true → v.many ≤ (i : Int) → x = 0 := fun hx hi => by
    have := (of_decide_eq_true hx).2.2
    omega
  rcases (by omega : j = 0 ∨ j = 1 ∨ j = 2 ∨ j = 3) with rfl | rfl | rfl | rfl
  · exact f h0 hm
  · exact f h1 hm
  · exact f h2 hm
  · exact f h3 hm
/-- A version of numbers alone may be. -/
theorem ok_plain {v : Ver} (h1 : 1 ≤ v.many) (h4 : v.many ≤ 4) (hn : ∀ j, j < 4 → 0 ≤ v.num j ∧ v.num j ≤ 9999 ∧ ((j : Int) < v.many ∨ v.num j = 0)) (ht : v.tag = ⟨#[]⟩) (hs : v.step = 0) : v.ok = true := by
  have e : v.endB = true := by
    unfold Ver.endB
    rw [if_pos (by rw [ht]), hs]
    rfl
  have n : v.numsB = true := nums_yes v fun j hj => decide_eq_true (hn j hj)
  unfold Ver.ok
  rw [n, e, decide_eq_true ⟨h1, h4⟩]
  rfl
theorem ver_nums {a b : Ver} (h : ∀ j, j < 4 → a.num j = b.num j) (hm : a.many = b.many) (ht : a.tag = b.tag) (hs : a.step = b.step) : a = b :=
  (ver_eq a b).2 ⟨⟨h 0 (by omega), h 1 (by omega), h 2 (by omega), h 3 (by omega)⟩, hm, ht, hs⟩
theorem num_first_out (v : Ver) (k j : Nat) (hj : k ≤ j) (h4 : j < 4) : (v.first k).num j = 0 := by
  rcases (by omega : j = 0 ∨ j = 1 ∨ j = 2 ∨ j = 3) with rfl | rfl | rfl | rfl <;> simp [Ver.num, Ver.first] <;> omega
theorem num_incr (v : Ver) (k j : Nat) (hk : k < 4) (hj : j < 4) : (v.incr k).num j = if j = k then v.num j + 1 else v.num j := by
  rcases (by omega : j = 0 ∨ j = 1 ∨ j = 2 ∨ j = 3) with rfl | rfl | rfl | rfl <;> rcases (by omega : k = 0 ∨ k = 1 ∨ k = 2 ∨ k = 3) with rfl | rfl | rfl | rfl <;> simp [Ver.num, Ver.incr]

theorem bare_ok {v : Ver} (h : v.ok = true) : v.bare.ok = true := by
  obtain ⟨h1, h4⟩ := ok_many h
  refine ok_plain h1 h4 (fun j hj => ?_) rfl rfl
  have a := ok_num h hj
  have b := @ok_cut v h j hj
  have c : v.bare.many = v.many := rfl
  rw [num_bare, c]
  omega
theorem first_bare {v : Ver} (h : v.ok = true) : v.first v.many.toNat = v.bare := by
  obtain ⟨h1, h4⟩ := ok_many h
  refine ver_nums (fun j hj => ?_) (by show ((v.many.toNat : Nat) : Int) = v.many; omega) rfl rfl
  rw [num_bare]
  by_cases hm : j < v.many.toNat
  · exact num_first v _ j hm (by omega)
  · rw [num_first_out v _ j (by omega) hj, ok_cut h hj (by omega)]
/-- The version behind it, where there is one. -/
def Ver.next (v : Ver) : Ver := (v.first v.many.toNat).incr (v.many.toNat - 1)
theorem next_num {v : Ver} (h : v.ok = true) {j : Nat} (hj : j < 4) : v.next.num j = if j = v.many.toNat - 1 then v.num j + 1 else v.num j := by
  obtain ⟨h1, h4⟩ := ok_many h
  unfold Ver.next
  rw [num_incr _ _ _ (by omega) hj, first_bare h, num_bare]
theorem next_many {v : Ver} (h : v.ok = true) : v.next.many = v.many := by
  obtain ⟨h1, h4⟩ := ok_many h
  show ((v.many.toNat : Nat) : Int) = v.many
  omega
theorem next_ok {v : Ver} (h : v.ok = true) (h9 : v.num (v.many.toNat - 1) ≠ 9999) : v.next.ok = true := by
  obtain ⟨h1, h4⟩ := ok_many h
  have e := next_many h
  refine ok_plain (by omega) (by omega) (fun j hj => ?_) rfl rfl
  have a := ok_num h hj
  have b := @ok_cut v h j hj
  rw [next_num h hj, e]
  split
  · rename_i hjk
    subst hjk
    omega
  · omega
/-- Whatever has its numbers stands ahead of the one behind it. -/
theorem next_ahead {v w : Ver} (h : v.ok = true) (hw : w.ok = true) (h9 : v.num (v.many.toNat - 1) ≠ 9999) (hs : ∀ j, j < v.many.toNat → w.num j = v.num j) : cmpW w v.next = -1 := by
  obtain ⟨h1, h4⟩ := ok_many h
  unfold cmpW
  rw [hw, next_ok h h9]
  simp only [if_true]
  refine ahead_at (v.many.toNat - 1) (by omega) (fun j hj => ?_) ?_
  · rw [hs j (by omega), next_num h (by omega), if_neg (by omega)]
  · rw [hs _ (by omega), next_num h (by omega), if_pos rfl]
    omega
theorem begins_bare {v : Ver} (h : v.ok = true) : v.begins v.bare = true := by
  unfold Ver.begins
  rw [if_pos ⟨h, bare_ok h, by show ¬ v.many < v.many; omega⟩]
  exact decide_eq_true (first_bare h)
theorem begins_has {v w : Ver} (hb : w.begins v.bare = true) : w.ok = true ∧ ∀ j, j < v.many.toNat → w.num j = v.num j := by
  unfold Ver.begins at hb
  split at hb
  · rename_i hc
    obtain ⟨hw, hv, hm⟩ := hc
    refine ⟨hw, fun j hj => ?_⟩
    have e : w.first v.many.toNat = v.bare := of_decide_eq_true hb
    have h4 := (ok_many hv).2
    have h4' : v.many ≤ 4 := h4
    rw [← num_bare v j, ← e]
    exact (num_first w _ j hj (by omega)).symm
  · cases hb
theorem next_not {v : Ver} (h : v.ok = true) : v.next.begins v.bare = false := by
  obtain ⟨h1, h4⟩ := ok_many h
  cases hb : v.next.begins v.bare with
  | false => rfl
  | true =>
    have := (begins_has hb).2 (v.many.toNat - 1) (by omega)
    rw [next_num h (by omega), if_pos rfl] at this
    omega
end Go.Proofs.YtjekibhaabkecaaDoor
