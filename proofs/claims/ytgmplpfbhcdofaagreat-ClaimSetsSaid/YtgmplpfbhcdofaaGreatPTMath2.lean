/- Plain words on trees: rows of items that stand in order, each in a directory, may be. -/
import Derived.Test.YtgmplpfbhcdofaaGreatPTMath
namespace Go.Proofs.YtgmplpfbhcdofaaGreat.Pt

theorem under_up {d a : Str} (h : underB d a = true) (hn : a ≠ d) : underB (upL d) a = true := by
  simp only [underB, Bool.and_eq_true, List.isPrefixOf_iff_prefix] at h ⊢
  obtain ⟨h1, h2⟩ := up_valid d h.1.1
  refine ⟨⟨h1, h.1.2⟩, ?_⟩
  rw [h2]
  obtain ⟨m, hm⟩ := h.2
  have hne : m ≠ [] := by
    intro e
    rw [e, List.append_nil] at hm
    exact hn (names_inj _ _ h.1.2 h.1.1 hm)
  rw [← hm, List.dropLast_append_of_ne_nil hne]
  exact List.prefix_append _ _
theorem Ch.all {d l : Str} {r : List Lv} (h : Ch ((d, l) :: r)) {a : Str} (ha : underB d a = true) : a ∈ ((d, l) :: r).map (·.1) := by
  obtain ⟨st, hst⟩ : ∃ st, st = (d, l) :: r := ⟨_, rfl⟩
  rw [← hst] at h ⊢
  induction h generalizing d l r with
  | root q hq =>
    cases hst
    simp only [underB, Bool.and_eq_true, List.isPrefixOf_iff_prefix] at ha
    have : namesL a = [] := by
      have := ha.2
      rw [(names_root [47] validB_root).2 rfl] at this
      exact List.prefix_nil.1 this
    simp [(names_root a ha.1.2).1 this]
  | down d2 l2 d' r2 h2 k j ih =>
    cases hst
    by_cases e : a = d2
    · simp [e]
    · have := under_up ha e
      rw [k.2.2] at this
      exact List.mem_cons_of_mem _ (ih this rfl)
theorem Ch.has {st : List Lv} (h : Ch st) {a : Str} (ha : underB (topL st) a = true) (hn : a = topL st → a = [47]) : a ∈ st.map (·.1) := by
  cases st with
  | nil => exact absurd rfl h.ne
  | cons e r =>
    obtain ⟨d, l⟩ := e
    have ht : topL ((d, l) :: r) = l := rfl
    rw [ht] at ha hn
    rcases h.last.2 with k | k
    · subst k; exact h.all ha
    · by_cases e : a = l
      · have := hn e
        rw [this] at e
        exact absurd e.symm k.2.1
      · have := under_up ha e
        rw [k.2.2] at this
        exact h.all this
theorem root_under {p : Str} (h : validB p = true) : underB p [47] = true := by
  simp only [underB, Bool.and_eq_true, List.isPrefixOf_iff_prefix]
  refine ⟨⟨h, validB_root⟩, ?_⟩
  rw [(names_root [47] validB_root).2 rfl]
  exact List.nil_prefix
theorem cn_app (p a b : List Str) : cmpN (p ++ a) (p ++ b) = cmpN a b := by
  induction p with
  | nil => rfl
  | cons c p ih => simp only [List.cons_append]; rw [cn_cons, if_pos rfl, ih]
theorem leave_mem {st : List Lv} {d : Str} (h : d ∈ st.map (·.1)) : ∃ l r, leaveL st d = (d, l) :: r := by
  induction st with
  | nil => cases h
  | cons e r ih =>
    unfold leaveL
    rw [List.dropWhile_cons]
    by_cases he : e.1 = d
    · subst he; exact ⟨e.2, r, by simp⟩
    · rw [if_pos (by simpa using he)]
      refine ih ?_
      rcases List.mem_cons.1 h with k | k
      · exact absurd k.symm he
      · exact k

structure Good3 (l : List It) (st : List Lv) : Prop where
  good : Good l st
  own : ∀ y, l.getLast? = some y → y.kind = 1 → ∃ r, st = (y.path, y.path) :: r
theorem Good3.step {l : List It} {st st' : List Lv} {x : It} (h : Good3 l st) (hs : stepV st x = some st') : Good3 (l ++ [x]) st' := by
  refine ⟨h.good.step hs, fun y hy hk => ?_⟩
  obtain ⟨d, lb, r, e1, e2, e3, e4, e5⟩ := stepV_some hs
  have : y = x := by simpa using hy.symm
  subst this
  rw [if_pos hk] at e5
  exact ⟨_, e5⟩
theorem good3_run (l : List It) (st : List Lv) (h : runV l = some st) : Good3 l st := by
  induction l using snoc_ind generalizing st with
  | nil => cases h; exact ⟨good_nil, fun y hy => by cases hy⟩
  | snoc l x ih =>
    rw [runV_snoc] at h
    cases e : runV l with
    | none => rw [e] at h; cases h
    | some s => rw [e] at h; exact (ih s e).step h
theorem Good3.go {l : List It} {st : List Lv} {x : It} (h : Good3 l st) (hk : Kid (upL x.path) x.path) (hd : x.dataB = true) (hs : ∀ a ∈ l, cmpL a.path x.path < 0) (hu : upL x.path = [47] ∨ ∃ y ∈ l, y.path = upL x.path ∧ y.kind = 1) : ∃ st', stepV st x = some st' := by
  have hc := h.good.ch
  have hun := hc.under
  have htop : cmpL (topL st) x.path < 0 := by
    by_cases hl : l = []
    · rw [h.good.first hl]
      have := cl_under [47] x.path (root_under hk.1)
      by_cases e : cmpL [47] x.path = 0
      · exact absurd ((cl_zero _ _).1 e).symm hk.2.1
      · omega
    · obtain ⟨z, hz, ht⟩ := h.good.top hl
      rw [ht]
      exact hs z (List.mem_of_getLast? hz)
  have hmem : upL x.path ∈ st.map (·.1) := by
    rcases hu with e | ⟨y, hy, e, hyk⟩
    · rw [e]
      exact hc.has (root_under hun.1) (fun _ => rfl)
    · have hl : l ≠ [] := List.ne_nil_of_mem hy
      obtain ⟨z, hz, ht⟩ := h.good.top hl
      have hyz : cmpL y.path z.path ≤ 0 := by
        obtain ⟨init, rfl⟩ : ∃ init, l = init ++ [z] := ⟨_, (List.getLast?_eq_some_iff.1 hz).choose_spec⟩
        rcases List.mem_append.1 hy with k | k
        · have := (List.pairwise_append.1 h.good.sorted).2.2 y k z (by simp)
          omega
        · simp at k; subst k; rw [(cl_zero _ _).2 rfl]; exact Int.le_refl _
      have hzx : cmpL z.path x.path < 0 := by rw [← ht]; exact htop
      have hub : underB z.path (upL x.path) = true := by
        rw [e] at hyz
        exact cl_between _ x.path _ hk.under hyz (by omega)
      by_cases ez : upL x.path = z.path
      · -- the last one is that directory itself
        have hyp : y = z := by
          obtain ⟨init, rfl⟩ : ∃ init, l = init ++ [z] := ⟨_, (List.getLast?_eq_some_iff.1 hz).choose_spec⟩
          rcases List.mem_append.1 hy with k | k
          · have := (List.pairwise_append.1 h.good.sorted).2.2 y k z (by simp)
            rw [e, ez, (cl_zero _ _).2 rfl] at this
            exact absurd this (by decide)
          · simpa using k
        subst hyp
        obtain ⟨r, hr⟩ := h.own y hz hyk
        rw [hr, ← e]
        simp
      · rw [← ht] at hub ez
        exact hc.has hub (fun k => absurd k ez)
  obtain ⟨lb, r, e1⟩ := leave_mem hmem
  have hc2 : Ch ((upL x.path, lb) :: r) := by
    have := hc.drop (fun e : Lv => e.1 != upL x.path) (by show leaveL st _ ≠ []; rw [e1]; simp)
    rw [show st.dropWhile _ = _ from e1] at this
    exact this
  have hml : (upL x.path, lb) ∈ st := Ch.mem_leave (d := upL x.path) (by rw [e1]; simp)
  have hlt : ¬ Lib.compareBytes x.path lb ≤ 0 := by
    rcases hc2.last.2 with k | k
    · rw [k, hk.over]; decide
    · obtain ⟨m, n, f1, f2, f3⟩ := k.cmp hk
      have hul := (hun.2 _ hml).1
      simp only [underB, Bool.and_eq_true, List.isPrefixOf_iff_prefix] at hul
      obtain ⟨more, hm⟩ := hul.2
      unfold cmpL at htop
      rw [if_pos hun.1, if_pos hk.1, ← hm, f1, f2, List.append_assoc, cn_app, List.cons_append, List.nil_append, cn_cons] at htop
      have hc1 : Lib.compareBytes x.path lb = - Lib.compareBytes m n := by rw [cb_anti, f3]
      by_cases e : m = n
      · rw [if_pos e] at htop
        cases more with
        | nil => simp [cmpN] at htop
        | cons a b => simp [cmpN] at htop
      · rw [if_neg e] at htop
        omega
  refine ⟨if x.kind = 1 then (x.path, x.path) :: (upL x.path, x.path) :: r else (upL x.path, x.path) :: r, ?_⟩
  unfold stepV
  rw [e1]
  simp only
  rw [if_neg (fun k => k.elim hlt (fun q => by rw [hd] at q; cases q))]
theorem run_ok (l : List It) (hk : ∀ x ∈ l, Kid (upL x.path) x.path ∧ x.dataB = true) (hs : l.Pairwise fun a b => cmpL a.path b.path < 0) (hu : ∀ x ∈ l, upL x.path = [47] ∨ ∃ y ∈ l, y.path = upL x.path ∧ y.kind = 1) : ∃ st, runV l = some st := by
  induction l using snoc_ind with
  | nil => exact ⟨_, rfl⟩
  | snoc l x ih =>
    rw [List.pairwise_append] at hs
    have hlt : ∀ a ∈ l, cmpL a.path x.path < 0 := fun a ha => hs.2.2 a ha x (by simp)
    have hup : ∀ z ∈ l ++ [x], (∀ a ∈ l, z = a ∨ cmpL a.path z.path < 0 ∨ cmpL z.path a.path < 0) := by
      intro z hz a ha
      rcases List.mem_append.1 hz with k | k
      · by_cases e : z = a
        · exact .inl e
        · right
          rcases List.mem_iff_getElem.1 k with ⟨i, hi, rfl⟩
          rcases List.mem_iff_getElem.1 ha with ⟨j, hj, rfl⟩
          rcases Nat.lt_trichotomy i j with q | q | q
          · exact .inr (List.pairwise_iff_getElem.1 hs.1 i j hi hj q)
          · subst q; exact absurd rfl e
          · exact .inl (List.pairwise_iff_getElem.1 hs.1 j i hj hi q)
      · simp at k; subst k; exact .inr (.inl (hlt a ha))
    have key : ∀ z ∈ l ++ [x], upL z.path = [47] ∨ ∃ y ∈ l, y.path = upL z.path ∧ y.kind = 1 := by
      intro z hz
      rcases hu z hz with e | ⟨y, hy, e, q⟩
      · exact .inl e
      · rcases List.mem_append.1 hy with k | k
        · exact .inr ⟨y, k, e, q⟩
        · simp at k
          subst k
          exfalso
          -- the directory would stand behind what is in it
          have h1 : cmpL (upL z.path) z.path < 0 := by
            have := up_cmp z.path (hk z hz).1.1 (hk z hz).1.2.1
            omega
          rw [← e] at h1
          rcases List.mem_append.1 hz with k | k
          · have h2 := hlt z k
            have h3 := cl_anti y.path z.path
            omega
          · simp at k; subst k
            rw [(cl_zero _ _).2 rfl] at h1
            exact absurd h1 (by decide)
    obtain ⟨st, hst⟩ := ih (fun z hz => hk z (List.mem_append_left _ hz)) hs.1 (fun z hz => key z (List.mem_append_left _ hz))
    obtain ⟨st', hst'⟩ := (good3_run l st hst).go (hk x (by simp)).1 (hk x (by simp)).2 hlt (key x (by simp))
    exact ⟨st', by rw [runV_snoc, hst]; exact hst'⟩
theorem ok_tree {l : List It} (h : TreeOk l) : validT l = true := by
  unfold validT
  obtain ⟨st, hst⟩ := run_ok l h.kid h.sorted h.up
  rw [decide_eq_true h.many, hst]
  rfl
theorem valid_tree (l : List It) : validT l = true ↔ TreeOk l := ⟨tree_ok, ok_tree⟩
end Go.Proofs.YtgmplpfbhcdofaaGreat.Pt
