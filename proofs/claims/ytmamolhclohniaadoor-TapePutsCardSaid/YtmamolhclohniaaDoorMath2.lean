/- Plain words on the digits with which a text begins. Nothing of the program stands here. -/
import Derived.Test.YtmamolhclohniaaDoorMath
namespace Go.Proofs.YtmamolhclohniaaDoor

def digRes (l : Str) : Nat × Nat × Bool := if badB (l.takeWhile dgB) then (0, 0, false) else (val (l.takeWhile dgB), (l.takeWhile dgB).length, true)

theorem tw_take (l : Str) (k : Nat) (h : ∀ c ∈ l.take k, dgB c = true) (he : ∀ c, l[k]? = some c → dgB c = false) : l.takeWhile dgB = l.take k := by
  induction l generalizing k with
  | nil => simp
  | cons x l ih =>
    cases k with
    | zero =>
      have := he x rfl
      simp [this]
    | succ k =>
      have hx := h x (by simp)
      have := ih k (fun c hc => h c (by simp [hc])) (fun c hc => he c (by simpa using hc))
      simp [hx, this]

theorem tw_pre (l : Str) (k : Nat) (h : ∀ c ∈ l.take k, dgB c = true) : ∃ r, l.takeWhile dgB = l.take k ++ r := by
  induction l generalizing k with
  | nil => exact ⟨[], by simp⟩
  | cons x l ih =>
    cases k with
    | zero => exact ⟨_, rfl⟩
    | succ k =>
      have hx := h x (by simp)
      obtain ⟨r, hr⟩ := ih k (fun c hc => h c (by simp [hc]))
      exact ⟨r, by simp [hx, hr]⟩

theorem val_append_le (a b : Str) : val a ≤ val (a ++ b) := by
  induction b generalizing a with
  | nil => simp
  | cons c b ih =>
    have h1 := ih (a ++ [c])
    rw [List.append_assoc] at h1
    have h2 := val_snoc a c
    show val a ≤ val (a ++ ([c] ++ b))
    omega

theorem take_snoc_get (l : Str) (k : Nat) (c : UInt8) (h : l[k]? = some c) : l.take (k + 1) = l.take k ++ [c] := by
  rw [List.take_add_one, h]; rfl

theorem all_snoc (l : Str) (k : Nat) (c : UInt8) (h : l[k]? = some c) (ha : ∀ x ∈ l.take k, dgB x = true) (hc : dgB c = true) : ∀ x ∈ l.take (k + 1), dgB x = true := by
  rw [take_snoc_get l k c h]
  intro x hx
  rcases List.mem_append.1 hx with hx | hx
  · exact ha x hx
  · obtain rfl := List.mem_singleton.1 hx; exact hc

theorem len_take_get (l : Str) (k : Nat) (c : UInt8) (h : l[k]? = some c) : (l.take k).length = k := by
  have := (List.getElem?_eq_some_iff.1 h).1
  simp; omega

theorem head_pre (a r : Str) (h : a ≠ []) : (a ++ r).head? = a.head? := by cases a <;> simp_all

/-- A nought ahead. -/
theorem bad_nought (l : Str) (k : Nat) (c : UInt8) (h : l[k]? = some c) (ha : ∀ x ∈ l.take k, dgB x = true) (hc : dgB c = true) (hk : 0 < k) (hv : val (l.take k) = 0) : digRes l = (0, 0, false) := by
  obtain ⟨r, hr⟩ := tw_pre l (k + 1) (all_snoc l k c h ha hc)
  have hne : l.take k ≠ [] := List.length_pos_iff.1 (by rw [len_take_get l k c h]; exact hk)
  have hh : (l.take k).head? = some 48 := Classical.byContradiction fun hn => by
    have := (dec_of_val (l.take k) hne ha (.inr hn)).2 hn
    omega
  unfold digRes
  rw [if_pos]
  unfold badB
  have h1 : decide (1 < (l.takeWhile dgB).length) = true := decide_eq_true (by rw [hr, take_snoc_get l k c h]; simp; rw [show min k l.length = k by have := (List.getElem?_eq_some_iff.1 h).1; omega]; omega)
  have h2 : decide ((l.takeWhile dgB).head? = some 48) = true := decide_eq_true (by rw [hr, take_snoc_get l k c h, List.append_assoc, head_pre _ _ hne]; exact hh)
  rw [h1, h2]; rfl

theorem bad_over (l : Str) (k : Nat) (c : UInt8) (h : l[k]? = some c) (ha : ∀ x ∈ l.take k, dgB x = true) (hc : dgB c = true) (hv : 18446744073709551616 ≤ 10 * val (l.take k) + (c.toNat - 48)) : digRes l = (0, 0, false) := by
  obtain ⟨r, hr⟩ := tw_pre l (k + 1) (all_snoc l k c h ha hc)
  have h1 := val_append_le (l.take (k + 1)) r
  rw [← hr] at h1
  rw [take_snoc_get l k c h, val_snoc] at h1
  unfold digRes
  rw [if_pos]
  unfold badB
  rw [decide_eq_true (Nat.le_trans hv h1), Bool.or_true]

theorem good_snoc (l : Str) (k : Nat) (c : UInt8) (h : l[k]? = some c) (hb : badB (l.take k) = false) (hn : k = 0 ∨ val (l.take k) ≠ 0) (hv : 10 * val (l.take k) + (c.toNat - 48) < 18446744073709551616) : badB (l.take (k + 1)) = false := by
  unfold badB at hb ⊢
  rw [take_snoc_get l k c h, val_snoc]
  have e : decide (18446744073709551616 ≤ 10 * val (l.take k) + (c.toNat - 48)) = false := decide_eq_false (by omega)
  rw [e, Bool.or_false]
  have hl := len_take_get l k c h
  rcases hn with rfl | hn
  · simp
  · have hk : 0 < k := by
      rcases Nat.eq_zero_or_pos k with rfl | h0
      · exact absurd rfl hn
      · exact h0
    have hne : l.take k ≠ [] := List.length_pos_iff.1 (by omega)
    have : decide ((l.take k ++ [c]).head? = some 48) = false := decide_eq_false (by
      rw [head_pre _ _ hne]
      intro hh
      simp only [Bool.or_eq_false_iff, Bool.and_eq_false_iff, decide_eq_false_iff_not] at hb
      have hk1 : k = 1 := by
        rcases hb.1 with h1 | h1
        · omega
        · exact absurd hh h1
      subst hk1
      have e2 := take_snoc_get l 0
      cases l with
      | nil => simp at h
      | cons x l =>
        simp at hh
        subst hh
        exact hn rfl)
    rw [this, Bool.and_false]

theorem dig_end (l : Str) (k : Nat) (hk : k ≤ l.length) (ha : ∀ x ∈ l.take k, dgB x = true) (hb : badB (l.take k) = false) (he : ∀ c, l[k]? = some c → dgB c = false) : digRes l = (val (l.take k), k, true) := by
  have := tw_take l k ha he
  unfold digRes
  rw [this, hb]
  simp
  omega

end Go.Proofs.YtmamolhclohniaaDoor
