/- Plain words on rows of versions in order: there is but one, and how one version is put in. -/
import Derived.Test.YtjekibhaabkecaaDoorLatest
namespace Go.Proofs.YtjekibhaabkecaaDoor
open Go.RowKit Go.Shelf

theorem sorted_one : ∀ {l m : List Ver}, l.Perm m → SortedP l → SortedP m → l = m
  | [], m, h, _, _ => (List.Perm.nil_eq h)
  | a :: l, [], h, _, _ => by have := h.length_eq; simp at this
  | a :: l, b :: m, h, hl, hm => by
    have e : a = b := by
      have ha : a ∈ b :: m := h.mem_iff.1 (by simp)
      have hb : b ∈ a :: l := h.mem_iff.2 (by simp)
      rcases List.mem_cons.1 ha with e | ha
      · exact e
      · rcases List.mem_cons.1 hb with e | hb
        · exact e.symm
        · have h1 : cmpV b a ≤ 0 := (List.pairwise_cons.1 hm).1 a ha
          have h2 : cmpV a b ≤ 0 := (List.pairwise_cons.1 hl).1 b hb
          have h3 := cmpV_flip a b
          exact cmpV_zero (by omega)
    subst e
    rw [sorted_one (List.Perm.cons_inv h) (List.pairwise_cons.1 hl).2 (List.pairwise_cons.1 hm).2]
theorem put_in (r : List Ver) (v : Ver) (k : Nat) (hs : SortedP r) (hk : k ≤ r.length) (h1 : ∀ j u, j < k → r[j]? = some u → cmpV u v ≤ 0) (h2 : ∀ u, r[k]? = some u → ¬ cmpV u v ≤ 0) : SortedP (r.take k ++ v :: r.drop k) := by
  have e : r.take k ++ r.drop k = r := List.take_append_drop k r
  refine insert_here (r.take k) (r.drop k) v (by rw [e]; exact hs) (fun b hb => ?_) (fun a ha => ?_)
  · cases hd : r.drop k with
    | nil => rw [hd] at hb; cases hb
    | cons u t =>
      have hu : r[k]? = some u := by
        have := congrArg List.head? hd
        rw [List.head?_drop] at this
        simpa using this
      have n1 := h2 u hu
      have f1 := cmpV_flip u v
      have hp : SortedP (u :: t) := by rw [← hd]; exact (List.pairwise_append.1 (e ▸ hs)).2.1
      rw [hd] at hb
      rcases List.mem_cons.1 hb with rfl | hb
      · omega
      · have h3 : cmpV u b ≤ 0 := (List.pairwise_cons.1 hp).1 b hb
        have h4 := (good_cmpV.tr v u b (by omega) h3).2
        omega
  · have hl : (r.take k)[k - 1]? = some a := by
      rw [List.getLast?_eq_getElem?, List.length_take, Nat.min_eq_left hk] at ha
      exact ha
    have hk0 : k - 1 < k := by
      have := (List.getElem?_eq_some_iff.1 hl).1
      rw [List.length_take] at this
      omega
    rw [List.getElem?_take_of_lt hk0] at hl
    have n1 := h1 (k - 1) a hk0 hl
    have f1 := cmpV_flip a v
    omega
theorem put_perm (r : List Ver) (v : Ver) (k : Nat) {L : List Ver} (h : r.Perm L) : (r.take k ++ v :: r.drop k).Perm (L ++ [v]) := by
  have h1 : (r.take k ++ v :: r.drop k).Perm (v :: (r.take k ++ r.drop k)) := List.perm_middle
  rw [List.take_append_drop] at h1
  exact h1.trans ((h.cons v).trans (List.perm_append_comm (l₁ := [v]) (l₂ := L)))
theorem last_of_sorted {r : List Ver} (hs : SortedP r) (hne : r ≠ []) : r.getLast hne ∈ r ∧ ∀ x ∈ r, cmpV x (r.getLast hne) ≤ 0 := by
  refine ⟨List.getLast_mem hne, fun x hx => ?_⟩
  obtain ⟨A, z, e⟩ : ∃ A z, r = A ++ [z] := ⟨_, _, (List.dropLast_concat_getLast hne).symm⟩
  subst e
  rw [List.getLast_concat]
  rcases List.mem_append.1 hx with hx | hx
  · exact (List.pairwise_append.1 hs).2.2 x hx z (by simp)
  · rw [List.mem_singleton.1 hx, good_cmpV.zero]
    exact Int.le_refl 0
/-- The last one of those that may be is the last one of them in order. -/
theorem last_same {u : Ver} {L r : List Ver} (h : LastOf u L) (hp : r.Perm L) (hs : SortedP r) : (r = [] ∧ u = Ver.zero) ∨ (∃ hne : r ≠ [], u = r.getLast hne) := by
  rcases h with ⟨rfl, rfl⟩ | ⟨h1, _, h3⟩
  · exact .inl ⟨List.Perm.eq_nil hp, rfl⟩
  · have hm : u ∈ r := hp.mem_iff.2 h1
    have hne : r ≠ [] := List.ne_nil_of_mem hm
    obtain ⟨h4, h5⟩ := last_of_sorted hs hne
    have h6 := h3 _ (hp.mem_iff.1 h4)
    have h7 := h5 u hm
    have h8 := cmpV_flip u (r.getLast hne)
    exact .inr ⟨hne, cmpV_zero (by omega)⟩
end Go.Proofs.YtjekibhaabkecaaDoor
