/- Proved here: slices.Equal of rows of numbers, and of texts. -/
import Derived.Test.YtgmplpfbhcdofaaGreatKUni
namespace Go.Proofs.YtgmplpfbhcdofaaGreat
open Go.RowKit Go.Shelf Go.Lib

theorem below_draws {w w' : World} (h : ∃ q, w' = w.drewN q) : Below w.heap.size w w' := by
  obtain ⟨q, rfl⟩ := h
  exact below_drewN (Below.refl _ _) q
theorem Rd.open' {w : World} {v : Value} {xs : List Value} (h : Rd w v xs) : ∃ a c, v = .slice a xs.length c ∧ (0 < xs.length → ∃ g o, a = some ⟨g, o, none⟩ ∧ ∀ (j : Nat) (x : Value), xs[j]? = some x → w.cell? ⟨g, o + j, none⟩ = some x) := by
  obtain ⟨a, c, e, _, _, _, h4⟩ := h
  refine ⟨a, c, e, fun h0 => ?_⟩
  obtain ⟨g, o, e2, _, hc⟩ := h4 h0
  exact ⟨g, o, e2, hc⟩
theorem Rd.short {w : World} {v : Value} {xs : List Value} (h : Rd w v xs) : xs.length ≤ 9223372036854775807 := by
  obtain ⟨a, c, _, h1, h2, _⟩ := h
  unfold maxLen at h2
  omega
theorem int_cell {w : World} {g o : Nat} {l : List Int} (hc : ∀ (j : Nat) (x : Value), (intsV l)[j]? = some x → w.cell? ⟨g, o + j, none⟩ = some x) : ∀ j, j < l.length → w.cell? ⟨g, o + j, none⟩ = some (.int .i64 (l.getD j 0)) := fun j hj =>
  hc j _ (by unfold intsV; rw [List.getElem?_map, List.getElem?_eq_getElem hj, List.getD_eq_getElem?_getD, List.getElem?_eq_getElem hj]; rfl)
theorem eqi_all (l m : List Int) (v1 v2 : Value) (w : World) (h1 : Rd w v1 (intsV l)) (h2 : Rd w v2 (intsV m)) :
    Calls Tryz.prog 23 #[v1, v2] w fun e w' => e = .returned (.bool (decide (l = m))) ∧ Below w.heap.size w w' := by
  have hl := h1.short
  have hm := h2.short
  obtain ⟨a1, c1, rfl, k1⟩ := h1.open'
  obtain ⟨a2, c2, rfl, k2⟩ := h2.open'
  rw [intsV_len] at k1 k2 hl hm ⊢
  rw [intsV_len]
  by_cases hlen : l.length = m.length
  · by_cases h0 : l.length = 0
    · have e1 : l = [] := List.eq_nil_of_length_eq_zero h0
      have e2 : m = [] := List.eq_nil_of_length_eq_zero (by omega)
      subst e1 e2
      refine (Tryz.slices_Equal_int_empty a1 a2 c1 0 c2 w (by omega)).mono ?_
      rintro e w' ⟨rfl, rfl⟩
      exact ⟨rfl, Below.refl _ _⟩
    · obtain ⟨g1, o1, rfl, hc1⟩ := k1 (by omega)
      obtain ⟨g2, o2, rfl, hc2⟩ := k2 (by omega)
      refine (Tryz.slices_Equal_int g1 o1 l.length c1 g2 o2 m.length c2 l m w (Nat.le_refl _) (Nat.le_refl _) (by omega) (by omega) (int_cell hc1) (int_cell hc2)).mono ?_
      rintro e w' ⟨rfl, hw⟩
      refine ⟨?_, below_draws hw⟩
      rw [List.take_length, List.take_length, show (l == m) = decide (l = m) from by rw [Bool.eq_iff_iff]; simp]
  · refine (Tryz.slices_Equal_int_lens a1 a2 l.length c1 m.length c2 w hlen).mono ?_
    rintro e w' ⟨rfl, rfl⟩
    refine ⟨?_, Below.refl _ _⟩
    rw [decide_eq_false (fun e => hlen (by rw [e]))]
theorem eqi_any (l m : List Int) (v1 v2 : Value) (w : World) (h1 : Rd w v1 (intsV l)) (h2 : Rd w v2 (intsV m)) (_ : l.length ≤ 1000000) (_ : m.length ≤ 1000000) :
    Calls Tryz.prog 23 #[v1, v2] w fun e w' => e = .returned (.bool (decide (l = m))) ∧ Below w.heap.size w w' := eqi_all l m v1 v2 w h1 h2
def baS (l : List Bs) : List ByteArray := l.map fun x => ⟨x.toArray⟩
theorem str_cell {w : World} {g o : Nat} {l : List Bs} (hc : ∀ (j : Nat) (x : Value), (l.map encStr)[j]? = some x → w.cell? ⟨g, o + j, none⟩ = some x) : ∀ j, j < (baS l).length → w.cell? ⟨g, o + j, none⟩ = some (.string ((baS l).getD j ByteArray.empty)) := fun j hj => by
  unfold baS at hj ⊢
  rw [List.length_map] at hj
  refine hc j _ ?_
  rw [List.getElem?_map, List.getElem?_eq_getElem hj, List.getD_eq_getElem?_getD, List.getElem?_map, List.getElem?_eq_getElem hj]
  rfl
theorem baS_inj {l m : List Bs} : baS l = baS m ↔ l = m := by
  constructor
  · intro h
    unfold baS at h
    refine (List.map_inj_right (f := fun x : Bs => (⟨x.toArray⟩ : ByteArray)) ?_).1 h
    intro x y e
    simpa using e
  · rintro rfl; rfl
theorem eqs_any (l m : List Bs) (v1 v2 : Value) (w : World) (h1 : Rd w v1 (l.map encStr)) (h2 : Rd w v2 (m.map encStr)) (hl : l.length ≤ 1000000) (hm : m.length ≤ 1000000) :
    Calls Tryz.prog 16 #[v1, v2] w fun e w' => e = .returned (.bool (decide (l = m))) ∧ Below w.heap.size w w' := by
  obtain ⟨a1, c1, rfl, k1⟩ := h1.open'
  obtain ⟨a2, c2, rfl, k2⟩ := h2.open'
  rw [List.length_map] at k1 k2 ⊢
  rw [List.length_map]
  have lb : ∀ l : List Bs, (baS l).length = l.length := fun l => by unfold baS; rw [List.length_map]
  by_cases hlen : l.length = m.length
  · by_cases h0 : l.length = 0
    · have e1 : l = [] := List.eq_nil_of_length_eq_zero h0
      have e2 : m = [] := List.eq_nil_of_length_eq_zero (by omega)
      subst e1 e2
      refine (Tryz.slices_Equal_string_empty a1 a2 c1 0 c2 w (by omega)).mono ?_
      rintro e w' ⟨rfl, rfl⟩
      exact ⟨rfl, Below.refl _ _⟩
    · obtain ⟨g1, o1, rfl, hc1⟩ := k1 (by omega)
      obtain ⟨g2, o2, rfl, hc2⟩ := k2 (by omega)
      refine (Tryz.slices_Equal_string g1 o1 l.length c1 g2 o2 m.length c2 (baS l) (baS m) w (by rw [lb]; exact Nat.le_refl _) (by rw [lb]; exact Nat.le_refl _) (by omega) (by omega) (str_cell hc1) (str_cell hc2)).mono ?_
      rintro e w' ⟨rfl, hw⟩
      refine ⟨?_, below_draws hw⟩
      rw [← lb l, ← lb m, List.take_length, List.take_length]
      congr 2
      exact decide_eq_decide.2 baS_inj
  · refine (Tryz.slices_Equal_string_lens a1 a2 l.length c1 m.length c2 w hlen).mono ?_
    rintro e w' ⟨rfl, rfl⟩
    refine ⟨?_, Below.refl _ _⟩
    rw [decide_eq_false (fun e => hlen (by rw [e]))]
end Go.Proofs.YtgmplpfbhcdofaaGreat
