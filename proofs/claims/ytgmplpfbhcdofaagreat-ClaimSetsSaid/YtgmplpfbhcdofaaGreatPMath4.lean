/- Plain words on paths: what the stage's theorem comes to. -/
import Derived.Test.YtgmplpfbhcdofaaGreatPMath3
namespace Go.Proofs.YtgmplpfbhcdofaaGreat.Pt

theorem goW_names (m l0 : List Str) (h : partsB (l0 ++ m) = true) : goW l0 m = some (l0 ++ m) := by
  induction m generalizing l0 with
  | nil => simp [goW]
  | cons x r ih =>
    have hp := (parts_iff _).1 h
    have hx := hp.2 x (by simp)
    have hl : l0.length ≠ 40 := by
      have := hp.1
      simp only [List.length_append, List.length_cons] at this
      omega
    show (r.foldl stepW (stepW (some l0) x)) = _
    rw [stepW_add l0 x hl hx]
    have e : l0 ++ x :: r = (l0 ++ [x]) ++ r := by simp
    rw [e] at h ⊢
    exact ih _ h

theorem clean_path (dir p : Str) (hp : validB p = true) : cleanL dir p = some (namesL p) := by
  have hj := valid_join p hp
  cases p with
  | nil => cases hp
  | cons c t =>
    have hc : c = 47 := by
      simp only [validB, Bool.and_eq_true, decide_eq_true_iff] at hp
      exact hp.1
    subst hc
    rw [cleanL, if_pos (show (47 :: t : Str).head? = some 47 from rfl), cutP_cons, if_pos rfl]
    show ((cutP t).foldl stepW (stepW (some []) [])) = _
    rw [stepW_skip [] [] (.inl rfl)]
    by_cases ht : t = []
    · subst ht; rfl
    · have e : namesL (47 :: t) = cutP t := by
        show splitL t = _
        rw [splitL, if_neg ht]
      rw [e] at hj ⊢
      have := goW_names (cutP t) [] (by simpa using hj.2)
      simpa [goW] using this

theorem clean_base (u x : Str) (li : List Str) (hn : namesL u = li) (hx : nameB x = true) (hl : li.length < 40) : cleanL u x = some (li ++ [x]) := by
  have h47 := name_slash x hx
  have hh : x.head? ≠ some 47 := by
    intro e
    cases x with
    | nil => cases e
    | cons c r => simp at e; exact h47 (by simp [e])
  rw [cleanL, if_neg hh, hn, cutP_last x h47]
  show stepW (some li) x = _
  rw [stepW_add li x (by omega) hx]

theorem up_valid (p : Str) (h : validB p = true) : validB (upL p) = true ∧ namesL (upL p) = (namesL p).dropLast := by
  rw [upL, if_pos h]
  exact join_valid _ (parts_dropLast _ (valid_join p h).2)

theorem back_up (p : Str) (h : validB p = true) (hr : p ≠ [47]) : cleanL (upL p) (baseL p) = some (namesL p) := by
  obtain ⟨li, x, hn, _, hx, _, _⟩ := valid_last p h hr
  have hu := up_valid p h
  rw [hn, List.dropLast_concat] at hu
  rw [base_last p li x h hn, hn]
  have hl := (valid_names p h).1
  rw [hn] at hl
  simp only [List.length_append, List.length_cons, List.length_nil] at hl
  exact clean_base (upL p) x li hu.2 hx (by omega)

theorem up_cmp (p : Str) (h : validB p = true) (hr : p ≠ [47]) : cmpL (upL p) p = -1 := by
  obtain ⟨li, x, hn, _, _, _, _⟩ := valid_last p h hr
  have hu := up_valid p h
  rw [hn, List.dropLast_concat] at hu
  rw [cmpL, if_pos hu.1, if_pos h, hu.2, hn]
  exact cmpN_prefix li x []

theorem up_under (p : Str) (h : validB p = true) : underB p (upL p) = true := by
  have hu := up_valid p h
  have : namesL (upL p) <+: namesL p := by rw [hu.2]; exact List.dropLast_prefix _
  simp [underB, h, hu.1, List.isPrefixOf_iff_prefix, this]

theorem base_len (p : Str) (h : validB p = true) : (baseL p).length ≤ 32 := by
  rw [baseL, if_pos h]
  cases e : (namesL p).getLast? with
  | none => simp
  | some x =>
    have hx : x ∈ namesL p := List.mem_of_getLast? e
    exact (name_ne x ((valid_names p h).2 x hx)).2.2.2
end Go.Proofs.YtgmplpfbhcdofaaGreat.Pt
