/- Plain words on the parts of a whole text: what is taken, one behind the other, and up to where. Nothing of the program stands here. -/
import Derived.Test.YtmamolhclohniaaDoorMath2
namespace Go.Proofs.YtmamolhclohniaaDoor

/-- The parts, what is left, and the error (0: none). -/
def allF : Nat → Str → List Part × Str × Int
  | 0, l => ([], l, 0)
  | f + 1, l => if l = [] then ([], [], 0) else match takeR l with
    | .no e => ([], l, e)
    | .ok p r => (p :: (allF f r).1, (allF f r).2.1, (allF f r).2.2)
def allL (l : Str) : List Part × Str × Int := allF l.length l

/-- What one round hands over: the place, the part, the error. -/
abbrev Item := Nat × Part × Int
def part0 : Part := ⟨false, 0, []⟩
def tkI (n : Nat) : Taken → Item
  | .no e => (n, part0, e)
  | .ok p _ => (n, p, 0)
/-- The rounds over a text of z bytes of which l is left. -/
def itF (z : Nat) : Nat → Str → List Item
  | 0, _ => []
  | f + 1, l => if l = [] then [] else match takeR l with
    | .no e => [(z - l.length, part0, e)]
    | .ok p r => (z - l.length, p, 0) :: itF z f r
def itL (l : Str) : List Item := itF l.length l.length l

theorem takeR_err (l : Str) (e : Int) (h : takeR l = .no e) : e = 7 ∨ e = 120 := by
  unfold takeR at h
  split at h
  · cases h; exact .inr rfl
  · split at h
    · cases h; exact .inl rfl
    · split at h
      · cases h; exact .inr rfl
      · split at h
        · cases h
        · split at h
          · split at h
            · cases h
            · cases h; exact .inl rfl
          · cases h; exact .inr rfl

theorem takeR_less (l : Str) (p : Part) (r : Str) (h : takeR l = .ok p r) : r.length + 2 ≤ l.length := by
  obtain ⟨_, h2, _⟩ := says_take l p r h
  have := saysL_len p
  rw [h2, List.length_append]
  omega

theorem takeR_rest (l : Str) (p : Part) (r : Str) (h : takeR l = .ok p r) : l.drop (l.length - r.length) = r := by
  obtain ⟨_, h2, _⟩ := says_take l p r h
  rw [h2, List.length_append, Nat.add_sub_cancel, List.drop_left]

theorem itF_cons_ok (z f : Nat) (l : Str) (p : Part) (r : Str) (h0 : l ≠ []) (h : takeR l = .ok p r) : itF z (f + 1) l = (z - l.length, p, 0) :: itF z f r := by
  rw [itF, if_neg h0, h]
theorem itF_cons_no (z f : Nat) (l : Str) (e : Int) (h0 : l ≠ []) (h : takeR l = .no e) : itF z (f + 1) l = [(z - l.length, part0, e)] := by
  rw [itF, if_neg h0, h]
theorem itF_nil (z f : Nat) : itF z f [] = [] := by cases f <;> simp [itF]

theorem itF_len (z f : Nat) (l : Str) : 2 * (itF z f l).length ≤ l.length + 2 := by
  induction f generalizing l with
  | zero => simp [itF]
  | succ f ih =>
    by_cases h0 : l = []
    · subst h0; rw [itF_nil]; simp
    · cases h : takeR l with
      | no e => rw [itF_cons_no z f l e h0 h]; simp
      | ok p r =>
        rw [itF_cons_ok z f l p r h0 h]
        have := ih r
        have := takeR_less l p r h
        simp
        omega

theorem itF_ok (z f : Nat) (l : Str) (hf : l.length ≤ f) (h : ∀ x ∈ itF z f l, x.2.2 = 0) : allF f l = ((itF z f l).map (·.2.1), [], 0) := by
  induction f generalizing l with
  | zero =>
    have : l = [] := List.eq_nil_of_length_eq_zero (by omega)
    subst this
    rfl
  | succ f ih =>
    by_cases h0 : l = []
    · subst h0; rw [itF_nil, allF, if_pos rfl]; rfl
    · cases ht : takeR l with
      | no e =>
        rw [itF_cons_no z f l e h0 ht] at h
        have := h (z - l.length, part0, e) (by simp)
        have he : e = 0 := this
        have := takeR_err l e ht
        omega
      | ok p r =>
        rw [itF_cons_ok z f l p r h0 ht] at h ⊢
        have hl := takeR_less l p r ht
        have := ih r (by omega) (fun x hx => h x (by simp [hx]))
        rw [allF, if_neg h0, ht]
        simp only
        rw [this]
        rfl

theorem itF_no (z f : Nat) (l : Str) (pre : List Item) (n : Nat) (p : Part) (e : Int) (he : e ≠ 0) (h : pre ++ [(n, p, e)] <+: itF z f l) : (allF f l).2.2 = e ∧ n = z - (allF f l).2.1.length := by
  induction f generalizing l pre with
  | zero =>
    obtain ⟨t, ht⟩ := h
    simp [itF] at ht
  | succ f ih =>
    by_cases h0 : l = []
    · subst h0
      rw [itF_nil] at h
      obtain ⟨t, ht⟩ := h
      simp at ht
    · cases ht : takeR l with
      | no e' =>
        rw [itF_cons_no z f l e' h0 ht] at h
        rw [allF, if_neg h0, ht]
        obtain ⟨t, hx⟩ := h
        cases pre with
        | nil =>
          simp at hx
          obtain ⟨⟨rfl, _, rfl⟩, _⟩ := hx
          exact ⟨rfl, rfl⟩
        | cons a b => simp at hx
      | ok q r =>
        rw [itF_cons_ok z f l q r h0 ht] at h
        rw [allF, if_neg h0, ht]
        cases pre with
        | nil =>
          obtain ⟨t, hx⟩ := h
          simp at hx
          exact absurd hx.1.2.2 he
        | cons a b =>
          obtain ⟨t, hx⟩ := h
          simp at hx
          exact ih r b ⟨t, by simpa using hx.2⟩

def okP (p : Part) : Prop := rightB p = true ∧ p.num < 18446744073709551616 ∧ p.text.length < 18446744073709551616

/-- The row of parts that may be leads back to them. -/
theorem allF_row (l : List Part) (h : ∀ p ∈ l, okP p) (f : Nat) (hf : (rowL l).length ≤ f) : allF f (rowL l) = (l, [], 0) := by
  induction l generalizing f with
  | nil => cases f <;> simp [allF, rowL]
  | cons p l ih =>
    rw [rowL_cons] at hf ⊢
    obtain ⟨h1, h2, h3⟩ := h p (by simp)
    have hl := saysL_len p
    rw [List.length_append] at hf
    cases f with
    | zero => omega
    | succ f =>
      have hne : saysL p ++ rowL l ≠ [] := List.length_pos_iff.1 (by rw [List.length_append]; omega)
      rw [allF, if_neg hne, take_says p (rowL l) h1 h2 h3]
      simp only
      rw [ih (fun q hq => h q (by simp [hq])) f (by omega)]

/-- What is left behind the parts stands behind their row. -/
theorem allF_back (f : Nat) (l : Str) (hl : l.length < 18446744073709551616) : l = rowL (allF f l).1 ++ (allF f l).2.1 ∧ (∀ p ∈ (allF f l).1, okP p) := by
  induction f generalizing l with
  | zero => simp [allF, rowL]
  | succ f ih =>
    by_cases h0 : l = []
    · subst h0; simp [allF, rowL]
    · cases ht : takeR l with
      | no e => rw [allF, if_neg h0, ht]; simp [rowL]
      | ok p r =>
        obtain ⟨h1, h2, h3, h4⟩ := says_take l p r ht
        have hless := takeR_less l p r ht
        obtain ⟨i1, i2⟩ := ih r (by omega)
        rw [allF, if_neg h0, ht]
        simp only
        refine ⟨?_, ?_⟩
        · rw [rowL_cons, List.append_assoc, ← i1]; exact h2
        · intro q hq
          rcases List.mem_cons.1 hq with rfl | hq
          · exact ⟨h1, h3, by omega⟩
          · exact i2 q hq

theorem allF_done (f : Nat) (l : Str) (hf : l.length ≤ f) (h : (allF f l).2.2 = 0) : (allF f l).2.1 = [] := by
  induction f generalizing l with
  | zero => simpa [allF] using List.eq_nil_of_length_eq_zero (show l.length = 0 by omega)
  | succ f ih =>
    by_cases h0 : l = []
    · subst h0; simp [allF]
    · cases ht : takeR l with
      | no e =>
        rw [allF, if_neg h0, ht] at h
        have he : e = 0 := h
        have := takeR_err l e ht
        omega
      | ok p r =>
        have hless := takeR_less l p r ht
        rw [allF, if_neg h0, ht] at h ⊢
        exact ih r (by omega) h
end Go.Proofs.YtmamolhclohniaaDoor
