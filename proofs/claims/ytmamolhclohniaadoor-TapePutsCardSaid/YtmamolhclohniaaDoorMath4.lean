/- Plain words: digits of one length stand as their numbers stand; what the reference takes for too great a number is one of 2^64 or more. -/
import Derived.Test.YtmamolhclohniaaDoorMath3
import GoSem.Op.String
namespace Go.Proofs.YtmamolhclohniaaDoor

theorem fold_val (n : Nat) (l : Str) : l.foldl valF n = n * 10 ^ l.length + val l := by
  induction l generalizing n with
  | nil => simp [val]
  | cons c l ih =>
    have h1 := ih (valF n c)
    have h2 := ih (valF 0 c)
    rw [List.foldl_cons, h1]
    have h3 : val (c :: l) = l.foldl valF (valF 0 c) := rfl
    rw [h3, h2, List.length_cons, Nat.pow_succ]
    unfold valF
    rw [Nat.mul_zero, Nat.zero_add, Nat.add_mul]
    have : 10 * n * 10 ^ l.length = n * (10 ^ l.length * 10) := by
      rw [Nat.mul_comm 10 n, Nat.mul_assoc, Nat.mul_comm 10]
    omega

theorem val_cons (c : UInt8) (l : Str) : val (c :: l) = (c.toNat - 48) * 10 ^ l.length + val l := by
  have h := fold_val (valF 0 c) l
  have h3 : val (c :: l) = l.foldl valF (valF 0 c) := rfl
  rw [h3, h]
  simp [valF]

theorem dg_bounds {c : UInt8} (h : dgB c = true) : 48 ≤ c.toNat ∧ c.toNat ≤ 57 := by simpa [dgB] using h

theorem val_lt (l : Str) (h : ∀ c ∈ l, dgB c = true) : val l < 10 ^ l.length := by
  induction l with
  | nil => simp [val]
  | cons c l ih =>
    have h1 := ih (fun x hx => h x (by simp [hx]))
    have h2 := dg_bounds (h c (by simp))
    rw [val_cons, List.length_cons, Nat.pow_succ]
    have : (c.toNat - 48) * 10 ^ l.length ≤ 9 * 10 ^ l.length := Nat.mul_le_mul_right _ (by omega)
    omega

theorem val_ge (l : Str) (h : ∀ c ∈ l, dgB c = true) (h0 : l ≠ []) (hh : l.head? ≠ some 48) : 10 ^ (l.length - 1) ≤ val l := by
  cases l with
  | nil => exact absurd rfl h0
  | cons c l =>
    have h2 := dg_bounds (h c (by simp))
    have h3 : c.toNat ≠ 48 := fun e => hh (by simp; exact UInt8.toNat_inj.1 e)
    rw [val_cons, List.length_cons, Nat.add_sub_cancel]
    have : 1 * 10 ^ l.length ≤ (c.toNat - 48) * 10 ^ l.length := Nat.mul_le_mul_right _ (by omega)
    omega

theorem less_val (a b : Str) (hl : a.length = b.length) (ha : ∀ c ∈ a, dgB c = true) (hb : ∀ c ∈ b, dgB c = true) : Op.bytesLess a b = decide (val a < val b) := by
  induction a generalizing b with
  | nil =>
    have : b = [] := List.eq_nil_of_length_eq_zero hl.symm
    subst this
    rfl
  | cons x a ih =>
    cases b with
    | nil => simp at hl
    | cons y b =>
      have hl' : a.length = b.length := by simpa using hl
      have h1 := ih b hl' (fun c hc => ha c (by simp [hc])) (fun c hc => hb c (by simp [hc]))
      have hx := dg_bounds (ha x (by simp))
      have hy := dg_bounds (hb y (by simp))
      have va := val_lt a (fun c hc => ha c (by simp [hc]))
      have vb := val_lt b (fun c hc => hb c (by simp [hc]))
      rw [hl'] at va
      rw [val_cons, val_cons, hl']
      unfold Op.bytesLess
      rw [h1]
      rcases Nat.lt_trichotomy x.toNat y.toNat with h | h | h
      · have e1 : (x < y) := UInt8.lt_iff_toNat_lt.2 h
        have e2 : (x.toNat - 48 + 1) * 10 ^ b.length ≤ (y.toNat - 48) * 10 ^ b.length := Nat.mul_le_mul_right _ (by omega)
        rw [Nat.add_mul, Nat.one_mul] at e2
        rw [decide_eq_true e1, Bool.true_or, decide_eq_true (by omega)]
      · have e1 : x = y := UInt8.toNat_inj.1 h
        subst e1
        have e2 : ¬ x < x := by rw [UInt8.lt_iff_toNat_lt]; omega
        rw [decide_eq_false e2, Bool.false_or, beq_self_eq_true, Bool.true_and]
        exact decide_eq_decide.2 ⟨fun hh => by omega, fun hh => by omega⟩
      · have e1 : ¬ x < y := by rw [UInt8.lt_iff_toNat_lt]; omega
        have e3 : (x == y) = false := by rw [beq_eq_false_iff_ne]; intro e; rw [e] at h; omega
        have e2 : (y.toNat - 48 + 1) * 10 ^ b.length ≤ (x.toNat - 48) * 10 ^ b.length := Nat.mul_le_mul_right _ (by omega)
        rw [Nat.add_mul, Nat.one_mul] at e2
        rw [decide_eq_false e1, e3, Bool.false_and, Bool.false_or, decide_eq_false (by omega)]

def topL : Str := [49, 56, 52, 52, 54, 55, 52, 52, 48, 55, 51, 55, 48, 57, 53, 53, 49, 54, 49, 53]
theorem top_val : val topL = 18446744073709551615 := by decide +kernel
theorem top_dig : ∀ c ∈ topL, dgB c = true := by decide +kernel
def greatB (l : Str) : Bool := decide (20 < l.length) || (decide (l.length = 20) && (!Op.bytesLess l topL && !(l == topL)))

theorem great_val (l : Str) (h : ∀ c ∈ l, dgB c = true) (h0 : l ≠ []) (hh : l.length = 1 ∨ l.head? ≠ some 48) : greatB l = decide (18446744073709551616 ≤ val l) := by
  unfold greatB
  have hv := val_lt l h
  rcases Nat.lt_trichotomy l.length 20 with hl | hl | hl
  · have e1 : decide (20 < l.length) = false := decide_eq_false (by omega)
    have e2 : decide (l.length = 20) = false := decide_eq_false (by omega)
    have e3 : 10 ^ l.length ≤ 10 ^ 19 := Nat.pow_le_pow_right (by omega) (by omega)
    rw [e1, e2, Bool.false_and, Bool.or_false]
    exact (decide_eq_false (by omega)).symm
  · have e1 : decide (20 < l.length) = false := decide_eq_false (by omega)
    have e2 : decide (l.length = 20) = true := decide_eq_true hl
    rw [e1, e2, Bool.true_and, Bool.false_or, less_val l topL (by rw [hl]; rfl) h top_dig, top_val]
    have hd := (dec_of_val l h0 h hh).1
    have ht := (dec_of_val topL (by decide) top_dig (.inr (by decide))).1
    rw [top_val] at ht
    by_cases hlt : val l < 18446744073709551615
    · rw [decide_eq_true hlt]
      exact (decide_eq_false (by omega)).symm
    · rw [decide_eq_false hlt]
      by_cases he : val l = 18446744073709551615
      · have : l = topL := by rw [← hd, he, ht]
        rw [this, beq_self_eq_true, top_val]
        rfl
      · have : (l == topL) = false := by
          rw [beq_eq_false_iff_ne]
          intro e
          rw [e, top_val] at he
          exact he rfl
        rw [this]
        exact (decide_eq_true (by omega)).symm
  · have e1 : decide (20 < l.length) = true := decide_eq_true hl
    rw [e1, Bool.true_or]
    have h1 : l.head? ≠ some 48 := by
      rcases hh with hh | hh
      · omega
      · exact hh
    have h2 := val_ge l h h0 h1
    have h3 : 10 ^ 20 ≤ 10 ^ (l.length - 1) := Nat.pow_le_pow_right (by omega) (by omega)
    exact (decide_eq_true (by omega)).symm
end Go.Proofs.YtmamolhclohniaaDoor
