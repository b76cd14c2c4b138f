/- Proved here: what is in order, each once, is one row alone; slices.Compact of a sorted row is that. -/
import Derived.Lib.SlicesCompact
namespace Go.Proofs.YtgmplpfbhcdofaaGreat
open Go.Lib
variable {α : Type} [Inhabited α] [DecidableEq α] {le : α → α → Bool}

/-- An order of all. -/
structure Ordr (le : α → α → Bool) : Prop where
  trans : ∀ a b c, le a b = true → le b c = true → le a c = true
  total : ∀ a b, (le a b || le b a) = true
  anti : ∀ a b, le a b = true → le b a = true → a = b
/-- It rises, each once. -/
def UpS (le : α → α → Bool) (l : List α) : Prop := l.Pairwise fun a b => le a b = true ∧ a ≠ b
omit [Inhabited α] [DecidableEq α] in
theorem UpS.one (h : Ordr le) {a b : List α} (ha : UpS le a) (hb : UpS le b) (hm : ∀ x, x ∈ a ↔ x ∈ b) : a = b := by
  induction a generalizing b with
  | nil =>
    cases b with
    | nil => rfl
    | cons y b => exact absurd ((hm y).2 (by simp)) (by simp)
  | cons x a ih =>
    cases b with
    | nil => exact absurd ((hm x).1 (by simp)) (by simp)
    | cons y b =>
      obtain ⟨hx, ha2⟩ := List.pairwise_cons.1 ha
      obtain ⟨hy, hb2⟩ := List.pairwise_cons.1 hb
      have e : x = y := by
        rcases List.mem_cons.1 ((hm x).1 (by simp)) with e | e
        · exact e
        · rcases List.mem_cons.1 ((hm y).2 (by simp)) with k | k
          · exact k.symm
          · exact h.anti x y (hx y k).1 (hy x e).1
      subst e
      refine congrArg (x :: ·) (ih ha2 hb2 (fun p => ?_))
      constructor
      · intro hp
        rcases List.mem_cons.1 ((hm p).1 (List.mem_cons_of_mem _ hp)) with rfl | k
        · exact absurd rfl (hx p hp).2
        · exact k
      · intro hp
        rcases List.mem_cons.1 ((hm p).2 (List.mem_cons_of_mem _ hp)) with rfl | k
        · exact absurd rfl (hy p hp).2
        · exact k
theorem upto_set (h : Ordr le) (d : Array α) (hs : ∀ i j, i ≤ j → j < d.size → le d[i]! d[j]! = true) : ∀ m, m ≤ d.size → UpS le (compactUpTo d m) ∧ ∀ x, x ∈ compactUpTo d m ↔ ∃ j, j < m ∧ d[j]! = x := by
  intro m
  induction m with
  | zero => exact fun _ => ⟨by unfold compactUpTo; exact List.Pairwise.nil, fun x => by simp [compactUpTo]⟩
  | succ m ih =>
    intro hm
    obtain ⟨h1, h2⟩ := ih (by omega)
    rw [compactUpTo_succ]
    cases hk : keeps d m with
    | true =>
      rw [if_pos rfl]
      refine ⟨List.pairwise_append.2 ⟨h1, List.pairwise_singleton _ _, fun a ha b hb => ?_⟩, fun x => ?_⟩
      · simp at hb
        subst hb
        obtain ⟨j, hj, rfl⟩ := (h2 a).1 ha
        refine ⟨hs j m (by omega) (by omega), fun e => ?_⟩
        unfold keeps at hk
        rw [decide_eq_true_iff] at hk
        rcases hk with h0 | h0
        · omega
        · apply h0
          have l1 := hs (m - 1) m (by omega) (by omega)
          have l2 := hs j (m - 1) (by omega) (by omega)
          rw [e] at l2
          exact h.anti _ _ l2 l1
      · rw [List.mem_append, h2]
        constructor
        · rintro (⟨j, hj, rfl⟩ | hx)
          · exact ⟨j, by omega, rfl⟩
          · simp at hx
            exact ⟨m, by omega, hx.symm⟩
        · rintro ⟨j, hj, rfl⟩
          rcases Nat.lt_or_ge j m with k | k
          · exact .inl ⟨j, k, rfl⟩
          · obtain rfl : j = m := by omega
            exact .inr (by simp)
    | false =>
      rw [if_neg (by simp), List.append_nil]
      refine ⟨h1, fun x => ?_⟩
      rw [h2]
      constructor
      · rintro ⟨j, hj, rfl⟩
        exact ⟨j, by omega, rfl⟩
      · rintro ⟨j, hj, rfl⟩
        rcases Nat.lt_or_ge j m with k | k
        · exact ⟨j, k, rfl⟩
        · obtain rfl : j = m := by omega
          unfold keeps at hk
          rw [decide_eq_false_iff_not] at hk
          have h0 : ¬ j = 0 := fun e => hk (.inl e)
          have h3 : d[j]! = d[j - 1]! := Classical.byContradiction fun e => hk (.inr e)
          exact ⟨j - 1, by omega, h3.symm⟩
theorem compact_set (h : Ordr le) {l : List α} (hl : l.Pairwise fun a b => le a b = true) : UpS le (compact l) ∧ ∀ x, x ∈ compact l ↔ x ∈ l := by
  have hr : ∀ a, le a a = true := fun a => by have := h.total a a; simpa using this
  have hs : ∀ i j, i ≤ j → j < l.toArray.size → le l.toArray[i]! l.toArray[j]! = true := fun i j hij hj => by
    rw [List.size_toArray] at hj
    rw [getElem!_pos l.toArray i (by simp; omega), getElem!_pos l.toArray j (by simp; omega)]
    rcases Nat.lt_or_ge i j with k | k
    · have := List.pairwise_iff_getElem.1 hl i j (by omega) hj k
      simpa using this
    · obtain rfl : i = j := by omega
      exact hr _
  obtain ⟨h1, h2⟩ := upto_set h l.toArray hs l.length (by simp)
  refine ⟨h1, fun x => ?_⟩
  unfold compact
  rw [h2]
  constructor
  · rintro ⟨j, hj, rfl⟩
    rw [getElem!_pos l.toArray j (by simpa using hj)]
    simp
  · intro hx
    obtain ⟨j, hj, rfl⟩ := List.mem_iff_getElem.1 hx
    refine ⟨j, hj, ?_⟩
    rw [getElem!_pos l.toArray j (by simpa using hj)]
    simp
/-- The set of a row: in order, each once. -/
def setOf (le : α → α → Bool) (l : List α) : List α := compact (l.mergeSort le)
theorem setOf_up (h : Ordr le) (l : List α) : UpS le (setOf le l) := (compact_set h (List.pairwise_mergeSort h.trans h.total l)).1
theorem setOf_mem (h : Ordr le) (l : List α) (x : α) : x ∈ setOf le l ↔ x ∈ l := by
  rw [setOf, (compact_set h (List.pairwise_mergeSort h.trans h.total l)).2, (List.mergeSort_perm l le).mem_iff]
theorem setOf_eq (h : Ordr le) {l s : List α} (hs : UpS le s) (hm : ∀ x, x ∈ s ↔ x ∈ l) : setOf le l = s :=
  (setOf_up h l).one h hs (fun x => (setOf_mem h l x).trans (hm x).symm)
theorem setOf_len (h : Ordr le) (l : List α) : (setOf le l).length ≤ l.length := by
  unfold setOf compact compactUpTo
  rw [List.length_map]
  have h1 := List.length_filter_le (keeps (l.mergeSort le).toArray) (List.range (l.mergeSort le).length)
  have h2 : (l.mergeSort le).length = l.length := List.length_mergeSort _
  rw [List.length_range] at h1
  omega
def leI : Int → Int → Bool := fun x y => decide (x ≤ y)
theorem ordI : Ordr leI where
  trans a b c h1 h2 := by unfold leI at *; simp at *; omega
  total a b := by unfold leI; simp; omega
  anti a b h1 h2 := by unfold leI at *; simp at *; omega
end Go.Proofs.YtgmplpfbhcdofaaGreat
