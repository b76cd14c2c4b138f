/- Plain words on one run of binary bytes, and the noughts behind it. Nothing of the program stands here. -/
import Derived.Test.YtophihnjlodmjaaDoorMath2
namespace Go.Proofs.YtophihnjlodmjaaDoor

/-- From a on: a run of rn bytes, and zn noughts. -/
structure RunAt (l : Bs) (a rn zn : Nat) : Prop where
  fits : a + rn + zn ≤ l.length
  some1 : 1 ≤ rn + zn
  segs : segs (l.drop a) = ((l.drop a).take rn, zn) :: segs (l.drop (a + rn + zn))
  run : ∀ q, q < rn → ∃ h : a + q < l.length, l[a + q] ≠ 0
  stop : ∀ h : a + rn < l.length, l[a + rn] = 0
  zero : ∀ q, q < zn → ∃ h : a + rn + q < l.length, l[a + rn + q] = 0
  more : ∀ h : a + rn + zn < l.length, l[a + rn + zn] ≠ 0
theorem tw_take (f : UInt8 → Bool) (l : Bs) : l.takeWhile f = l.take (l.takeWhile f).length ∧ l.dropWhile f = l.drop (l.takeWhile f).length := by
  have e := List.takeWhile_append_dropWhile (p := f) (l := l)
  constructor
  · conv => rhs; rw [← e]
    rw [List.take_append_of_le_length (by simp), List.take_of_length_le (by simp)]
  · conv => rhs; arg 2; rw [← e]
    rw [List.drop_left]
theorem tw_all (f : UInt8 → Bool) (l : Bs) : ∀ q, (h : q < (l.takeWhile f).length) → ∃ h2 : q < l.length, f l[q] = true := by
  induction l with
  | nil => intro q h; simp at h
  | cons c l ih =>
    intro q h
    by_cases hc : f c = true
    · cases q with
      | zero => exact ⟨by simp, hc⟩
      | succ q =>
        rw [List.takeWhile_cons_of_pos hc, List.length_cons] at h
        obtain ⟨h2, h3⟩ := ih q (by omega)
        exact ⟨by simpa using h2, h3⟩
    · rw [List.takeWhile_cons_of_neg hc] at h; simp at h
theorem tw_stop (f : UInt8 → Bool) (l : Bs) : ∀ h : (l.takeWhile f).length < l.length, f l[(l.takeWhile f).length] = false := by
  intro h
  have e := (tw_take f l).2
  have e2 := List.drop_eq_getElem_cons h
  rw [← e] at e2
  exact dw_head f l _ _ e2
theorem segs_empty (l : Bs) : segs l = [] ↔ l = [] := by
  constructor
  · intro h
    cases l with
    | nil => rfl
    | cons c l => rw [segs_cons _ (by simp)] at h; cases h
  · intro h; rw [h]; rfl
theorem run_at (l : Bs) (a : Nat) (ha : a < l.length) : ∃ rn zn, RunAt l a rn zn := by
  obtain ⟨m, hm⟩ : ∃ m, m = l.drop a := ⟨_, rfl⟩
  have hml : m.length = l.length - a := by rw [hm, List.length_drop]
  have hne : m ≠ [] := by intro e; rw [e] at hml; simp at hml; omega
  obtain ⟨e1, e2⟩ := tw_take nz m
  obtain ⟨e3, e4⟩ := tw_take zz (m.dropWhile nz)
  have hr : (m.takeWhile nz).length ≤ m.length := (List.takeWhile_sublist _).length_le
  have hz : ((m.dropWhile nz).takeWhile zz).length ≤ (m.dropWhile nz).length := (List.takeWhile_sublist _).length_le
  rw [e2, List.length_drop] at hz
  rw [← e2] at hz
  obtain ⟨rn, hrn⟩ : ∃ rn, rn = (m.takeWhile nz).length := ⟨_, rfl⟩
  obtain ⟨zn, hzn⟩ : ∃ zn, zn = ((m.dropWhile nz).takeWhile zz).length := ⟨_, rfl⟩
  rw [← hrn] at e1 e2 hr hz
  rw [← hzn] at e3 e4 hz
  have get : ∀ q (h : q < m.length), ∃ h2 : a + q < l.length, l[a + q] = m[q] := fun q h => ⟨by omega, by subst hm; rw [List.getElem_drop]⟩
  have getz : ∀ q (h : q < (m.dropWhile nz).length), ∃ h2 : rn + q < m.length, m[rn + q] = (m.dropWhile nz)[q] := fun q h => by
    have h' : rn + q < m.length := by rw [e2, List.length_drop] at h; omega
    refine ⟨h', ?_⟩
    have : (m.dropWhile nz)[q]? = m[rn + q]? := by rw [e2, List.getElem?_drop]
    rw [List.getElem?_eq_getElem h, List.getElem?_eq_getElem h'] at this
    exact (Option.some.inj this).symm
  refine ⟨rn, zn, by omega, ?_, ?_, fun q hq => ?_, fun h => ?_, fun q hq => ?_, fun h => ?_⟩
  · rcases Nat.eq_zero_or_pos rn with h0 | h0
    · have hg := segs_good' m
      rw [segs_cons m hne, ← hzn] at hg
      have := hg.2.2.1 (List.length_eq_zero_iff.1 (by omega))
      omega
    · omega
  · rw [← hm, segs_cons m hne, ← hzn, e1, e4, e2, List.drop_drop, hm, List.drop_drop]
    rw [Nat.add_assoc]
  · obtain ⟨h2, h3⟩ := tw_all nz m q (by omega)
    obtain ⟨h4, h5⟩ := get q h2
    exact ⟨h4, by rw [h5]; simpa [nz] using h3⟩
  · have h2 : (m.takeWhile nz).length < m.length := by omega
    have h3 := tw_stop nz m h2
    obtain ⟨h4, h5⟩ := get rn (by omega)
    rw [h5]
    have : m[rn] = m[(m.takeWhile nz).length] := by congr 1
    rw [this]
    simpa [nz] using h3
  · obtain ⟨h2, h3⟩ := tw_all zz (m.dropWhile nz) q (by omega)
    obtain ⟨h4, h5⟩ := getz q h2
    obtain ⟨h6, h7⟩ := get (rn + q) h4
    rw [← h5, ← h7] at h3
    refine ⟨by omega, ?_⟩
    have : l[a + rn + q]'(by omega) = l[a + (rn + q)] := by congr 1; omega
    rw [this]
    simpa [zz] using h3
  · have h2 : ((m.dropWhile nz).takeWhile zz).length < (m.dropWhile nz).length := by rw [e2, List.length_drop, ← e2]; omega
    have h3 := tw_stop zz (m.dropWhile nz) h2
    obtain ⟨h4, h5⟩ := getz _ h2
    obtain ⟨h6, h7⟩ := get _ h4
    rw [← h5, ← h7] at h3
    have : l[a + rn + zn]'(by omega) = l[a + (rn + ((m.dropWhile nz).takeWhile zz).length)] := by congr 1; omega
    rw [this]
    simpa [zz] using h3
end Go.Proofs.YtophihnjlodmjaaDoor
