/- Plain words on the order of texts, rows of names, and paths: it is one; what stands under a path stands behind it, side by side; and on rows that stand in order. -/
import Derived.Test.YtgmplpfbhcdofaaGreatPMath4
namespace Go.Proofs.YtgmplpfbhcdofaaGreat.Pt

/-! ### Texts, byte by byte -/
theorem cb_range (a b : Str) : Lib.compareBytes a b = -1 ∨ Lib.compareBytes a b = 0 ∨ Lib.compareBytes a b = 1 := by
  induction a generalizing b with
  | nil => cases b <;> simp [Lib.compareBytes]
  | cons x xs ih =>
    cases b with
    | nil => simp [Lib.compareBytes]
    | cons y ys =>
      unfold Lib.compareBytes
      by_cases h1 : x < y
      · simp [h1]
      · by_cases h2 : y < x
        · simp [h1, h2]
        · simp only [h1, h2, if_false]; exact ih ys
theorem byte_tri (x y : UInt8) : x < y ∨ x = y ∨ y < x := by
  rcases Nat.lt_trichotomy x.toNat y.toNat with h | h | h
  · exact .inl h
  · exact .inr (.inl (UInt8.toNat_inj.1 h))
  · exact .inr (.inr h)
theorem byte_asymm (x y : UInt8) (h : x < y) : ¬ y < x := by
  have h' : x.toNat < y.toNat := h
  intro k
  have k' : y.toNat < x.toNat := k
  omega
theorem byte_irr (x : UInt8) : ¬ x < x := fun h => byte_asymm x x h h
theorem byte_trans (x y z : UInt8) (h : x < y) (k : y < z) : x < z := by
  have h' : x.toNat < y.toNat := h
  have k' : y.toNat < z.toNat := k
  show x.toNat < z.toNat
  omega

theorem cb_cons (x y : UInt8) (xs ys : Str) : Lib.compareBytes (x :: xs) (y :: ys) = if x < y then -1 else if y < x then 1 else Lib.compareBytes xs ys := rfl
theorem cb_anti (a b : Str) : Lib.compareBytes a b = - Lib.compareBytes b a := by
  induction a generalizing b with
  | nil => cases b <;> simp [Lib.compareBytes]
  | cons x xs ih =>
    cases b with
    | nil => simp [Lib.compareBytes]
    | cons y ys =>
      rw [cb_cons, cb_cons]
      rcases byte_tri x y with h | h | h
      · rw [if_pos h, if_neg (byte_asymm x y h), if_pos h]
      · subst h; rw [if_neg (byte_irr x), if_neg (byte_irr x), if_neg (byte_irr x), if_neg (byte_irr x)]; exact ih ys
      · rw [if_neg (byte_asymm y x h), if_pos h, if_pos h]; rfl
theorem cb_zero (a b : Str) : Lib.compareBytes a b = 0 ↔ a = b := by
  induction a generalizing b with
  | nil => cases b <;> simp [Lib.compareBytes]
  | cons x xs ih =>
    cases b with
    | nil => simp [Lib.compareBytes]
    | cons y ys =>
      rw [cb_cons]
      rcases byte_tri x y with h | h | h
      · rw [if_pos h]
        refine ⟨(fun e => by cases e), fun e => ?_⟩
        injection e with e1 _; subst e1; exact absurd h (byte_irr x)
      · subst h; rw [if_neg (byte_irr x), if_neg (byte_irr x), ih ys]; simp
      · rw [if_neg (byte_asymm y x h), if_pos h]
        refine ⟨(fun e => by cases e), fun e => ?_⟩
        injection e with e1 _; subst e1; exact absurd h (byte_irr x)
theorem cb_trans (a b c : Str) (h : Lib.compareBytes a b ≤ 0) (k : Lib.compareBytes b c ≤ 0) : Lib.compareBytes a c ≤ 0 := by
  induction a generalizing b c with
  | nil => cases c <;> simp [Lib.compareBytes]
  | cons x xs ih =>
    cases b with
    | nil => simp [Lib.compareBytes] at h
    | cons y ys =>
      cases c with
      | nil => simp [Lib.compareBytes] at k
      | cons z zs =>
        rw [cb_cons] at h k ⊢
        rcases byte_tri x y with h1 | h1 | h1
        · rcases byte_tri y z with k1 | k1 | k1
          · rw [if_pos (byte_trans x y z h1 k1)]; omega
          · subst k1; rw [if_pos h1]; omega
          · rw [if_neg (byte_asymm z y k1), if_pos k1] at k; omega
        · subst h1
          rw [if_neg (byte_irr x), if_neg (byte_irr x)] at h
          rcases byte_tri x z with k1 | k1 | k1
          · rw [if_pos k1]; omega
          · subst k1
            rw [if_neg (byte_irr x), if_neg (byte_irr x)] at k ⊢
            exact ih ys zs h k
          · rw [if_neg (byte_asymm z x k1), if_pos k1] at k; omega
        · rw [if_neg (byte_asymm y x h1), if_pos h1] at h; omega

/-! ### Rows of names -/
theorem cn_cons (x y : Str) (xs ys : List Str) : cmpN (x :: xs) (y :: ys) = if x = y then cmpN xs ys else Lib.compareBytes x y := rfl
theorem cn_range (a b : List Str) : cmpN a b = -1 ∨ cmpN a b = 0 ∨ cmpN a b = 1 := by
  induction a generalizing b with
  | nil => cases b <;> simp [cmpN]
  | cons x xs ih =>
    cases b with
    | nil => simp [cmpN]
    | cons y ys =>
      rw [cn_cons]
      by_cases h : x = y
      · rw [if_pos h]; exact ih ys
      · rw [if_neg h]; exact cb_range x y
theorem cn_anti (a b : List Str) : cmpN a b = - cmpN b a := by
  induction a generalizing b with
  | nil => cases b <;> simp [cmpN]
  | cons x xs ih =>
    cases b with
    | nil => simp [cmpN]
    | cons y ys =>
      rw [cn_cons, cn_cons]
      by_cases h : x = y
      · subst h; rw [if_pos rfl, if_pos rfl]; exact ih ys
      · rw [if_neg h, if_neg (fun e => h e.symm)]; exact cb_anti x y
theorem cn_zero (a b : List Str) : cmpN a b = 0 ↔ a = b := by
  induction a generalizing b with
  | nil => cases b <;> simp [cmpN]
  | cons x xs ih =>
    cases b with
    | nil => simp [cmpN]
    | cons y ys =>
      rw [cn_cons]
      by_cases h : x = y
      · subst h; rw [if_pos rfl, ih ys]; simp
      · rw [if_neg h, cb_zero]; simp [h]
theorem cn_trans (a b c : List Str) (h : cmpN a b ≤ 0) (k : cmpN b c ≤ 0) : cmpN a c ≤ 0 := by
  induction a generalizing b c with
  | nil => cases c <;> simp [cmpN]
  | cons x xs ih =>
    cases b with
    | nil => simp [cmpN] at h
    | cons y ys =>
      cases c with
      | nil => simp [cmpN] at k
      | cons z zs =>
        rw [cn_cons] at h k ⊢
        by_cases hxy : x = y
        · subst hxy
          rw [if_pos rfl] at h
          by_cases hxz : x = z
          · subst hxz; rw [if_pos rfl] at k ⊢; exact ih ys zs h k
          · rw [if_neg hxz] at k ⊢; exact k
        · rw [if_neg hxy] at h
          by_cases hyz : y = z
          · subst hyz; rw [if_neg hxy]; exact h
          · rw [if_neg hyz] at k
            have hxz := cb_trans x y z h k
            by_cases e : x = z
            · subst e
              exfalso
              apply hxy
              have h1 := cb_anti x y
              exact (cb_zero x y).1 (by omega)
            · rw [if_neg e]; exact hxz
/-- What begins with a row stands behind it; and what stands between them begins with it, too. -/
theorem cn_prefix_le (a b : List Str) (h : a <+: b) : cmpN a b ≤ 0 := by
  obtain ⟨r, rfl⟩ := h
  cases r with
  | nil => rw [List.append_nil, cmpN_self]; omega
  | cons x r => rw [cmpN_prefix]; omega
theorem cn_between (a b c : List Str) (h : a <+: b) (h1 : cmpN a c ≤ 0) (h2 : cmpN c b ≤ 0) : a <+: c := by
  induction a generalizing b c with
  | nil => exact List.nil_prefix
  | cons x xs ih =>
    obtain ⟨r, rfl⟩ := h
    cases c with
    | nil => simp [cmpN] at h1
    | cons z zs =>
      rw [List.cons_append, cn_cons] at h2
      rw [cn_cons] at h1
      by_cases e : x = z
      · subst e
        rw [if_pos rfl] at h1 h2
        obtain ⟨r', hr'⟩ := ih (xs ++ r) zs (List.prefix_append _ _) h1 h2
        exact ⟨r', by rw [List.cons_append, hr']⟩
      · exfalso
        rw [if_neg e] at h1
        rw [if_neg (fun k => e k.symm)] at h2
        have h3 := cb_anti x z
        exact e ((cb_zero x z).1 (by omega))

/-! ### Paths -/
theorem cl_range (a b : Str) : cmpL a b = -1 ∨ cmpL a b = 0 ∨ cmpL a b = 1 := by
  unfold cmpL
  split
  · split
    · exact cn_range _ _
    · omega
  · split
    · omega
    · exact cb_range _ _
theorem cl_anti (a b : Str) : cmpL a b = - cmpL b a := by
  unfold cmpL
  by_cases ha : validB a = true <;> by_cases hb : validB b = true
  · rw [if_pos ha, if_pos hb, if_pos hb, if_pos ha]; exact cn_anti _ _
  · rw [if_pos ha, if_neg hb, if_neg hb, if_pos ha]; rfl
  · rw [if_neg ha, if_pos hb, if_pos hb, if_neg ha]
  · rw [if_neg ha, if_neg hb, if_neg hb, if_neg ha]; exact cb_anti _ _
theorem names_inj (a b : Str) (ha : validB a = true) (hb : validB b = true) (h : namesL a = namesL b) : a = b := by
  rw [← (valid_join a ha).1, h, (valid_join b hb).1]
theorem cl_zero (a b : Str) : cmpL a b = 0 ↔ a = b := by
  unfold cmpL
  by_cases ha : validB a = true <;> by_cases hb : validB b = true
  · rw [if_pos ha, if_pos hb, cn_zero]
    exact ⟨names_inj a b ha hb, fun e => by rw [e]⟩
  · rw [if_pos ha, if_neg hb]
    exact ⟨fun e => by omega, fun e => by subst e; exact absurd ha hb⟩
  · rw [if_neg ha, if_pos hb]
    exact ⟨fun e => by omega, fun e => by subst e; exact absurd hb ha⟩
  · rw [if_neg ha, if_neg hb]; exact cb_zero _ _
theorem cl_trans (a b c : Str) (h : cmpL a b ≤ 0) (k : cmpL b c ≤ 0) : cmpL a c ≤ 0 := by
  unfold cmpL at h k ⊢
  by_cases ha : validB a = true <;> by_cases hb : validB b = true <;> by_cases hc : validB c = true
  · rw [if_pos ha, if_pos hb] at h; rw [if_pos hb, if_pos hc] at k; rw [if_pos ha, if_pos hc]; exact cn_trans _ _ _ h k
  · rw [if_pos hb, if_neg hc] at k; omega
  · rw [if_pos ha, if_neg hb] at h; omega
  · rw [if_pos ha, if_neg hb] at h; omega
  · rw [if_neg ha, if_pos hc]; omega
  · rw [if_pos hb, if_neg hc] at k; omega
  · rw [if_neg ha, if_pos hc]; omega
  · rw [if_neg ha, if_neg hb] at h; rw [if_neg hb, if_neg hc] at k; rw [if_neg ha, if_neg hc]; exact cb_trans _ _ _ h k
theorem cl_under (a b : Str) (h : underB b a = true) : cmpL a b ≤ 0 := by
  have hv : validB b = true ∧ validB a = true := by
    unfold underB at h; rw [Bool.and_eq_true, Bool.and_eq_true] at h; exact h.1
  have hp : namesL a <+: namesL b := by
    unfold underB at h; rw [Bool.and_eq_true, List.isPrefixOf_iff_prefix] at h; exact h.2
  rw [cmpL, if_pos hv.2, if_pos hv.1]
  exact cn_prefix_le _ _ hp
theorem cl_between (a b c : Str) (h : underB b a = true) (h1 : cmpL a c ≤ 0) (h2 : cmpL c b ≤ 0) : underB c a = true := by
  have hv : validB b = true ∧ validB a = true := by
    unfold underB at h; rw [Bool.and_eq_true, Bool.and_eq_true] at h; exact h.1
  have hp : namesL a <+: namesL b := by
    unfold underB at h; rw [Bool.and_eq_true, List.isPrefixOf_iff_prefix] at h; exact h.2
  have hc : validB c = true := by
    by_cases hc : validB c = true
    · exact hc
    · rw [cmpL, if_pos hv.2, if_neg hc] at h1; omega
  rw [cmpL, if_pos hv.2, if_pos hc] at h1
  rw [cmpL, if_pos hc, if_pos hv.1] at h2
  have := cn_between _ _ _ hp h1 h2
  simp [underB, hc, hv.2, List.isPrefixOf_iff_prefix, this]

/-! ### Rows in order -/
def SortedP (l : List Str) : Prop := l.Pairwise fun a b => cmpL a b ≤ 0
theorem cl_total (a b : Str) (h : ¬ cmpL a b < 0) : cmpL b a ≤ 0 := by
  have := cl_anti a b
  omega
/-- The one that goes on to the left stands in its place. -/
theorem insert_here (A B : List Str) (x : Str) (hs : SortedP (A ++ B)) (hB : ∀ b ∈ B, cmpL x b < 0) (hA : ∀ a, A.getLast? = some a → ¬ cmpL x a < 0) : SortedP (A ++ x :: B) := by
  unfold SortedP at hs ⊢
  rw [List.pairwise_append] at hs ⊢
  obtain ⟨h1, h2, h3⟩ := hs
  refine ⟨h1, ?_, ?_⟩
  · rw [List.pairwise_cons]
    exact ⟨fun b hb => by have := hB b hb; omega, h2⟩
  · intro a ha y hy
    rcases List.mem_cons.1 hy with rfl | hy
    · have hne : A ≠ [] := fun e => by rw [e] at ha; cases ha
      obtain ⟨A', z, rfl⟩ : ∃ A' z, A = A' ++ [z] := ⟨_, _, (List.dropLast_concat_getLast hne).symm⟩
      have hz := cl_total y z (hA z (by simp))
      rcases List.mem_append.1 ha with ha | ha
      · rw [List.pairwise_append] at h1
        exact cl_trans _ _ _ (h1.2.2 a ha z (by simp)) hz
      · simp at ha; subst ha; exact hz
    · exact h3 a ha y hy
theorem sorted_get (l : List Str) (h : SortedP l) (i j : Nat) (x y : Str) (hi : l[i]? = some x) (hj : l[j]? = some y) (hij : i ≤ j) : cmpL x y ≤ 0 := by
  rcases Nat.lt_or_eq_of_le hij with hlt | rfl
  · obtain ⟨hi', rfl⟩ := List.getElem?_eq_some_iff.1 hi
    obtain ⟨hj', rfl⟩ := List.getElem?_eq_some_iff.1 hj
    exact List.pairwise_iff_getElem.1 h i j hi' hj' hlt
  · rw [hi] at hj
    cases hj
    rw [(cl_zero x x).2 rfl]; omega
end Go.Proofs.YtgmplpfbhcdofaaGreat.Pt
