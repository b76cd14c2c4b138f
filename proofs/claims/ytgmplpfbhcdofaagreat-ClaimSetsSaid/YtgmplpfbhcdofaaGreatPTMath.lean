/- Plain words on trees: items, which rows of them may be, and what follows. Nothing of the program stands here. -/
import Derived.Test.YtgmplpfbhcdofaaGreatPMath5
namespace Go.Proofs.YtgmplpfbhcdofaaGreat.Pt

theorem snoc_ind {α : Type} {motive : List α → Prop} (nil : motive []) (snoc : ∀ l x, motive l → motive (l ++ [x])) (l : List α) : motive l := by
  have : ∀ n (l : List α), l.length = n → motive l := by
    intro n
    induction n with
    | zero => intro l hl; rw [List.eq_nil_of_length_eq_zero hl]; exact nil
    | succ n ih =>
      intro l hl
      have hne : l ≠ [] := by intro e; rw [e] at hl; cases hl
      rw [← List.dropLast_concat_getLast hne]
      exact snoc _ _ (ih _ (by rw [List.length_dropLast]; omega))
  exact this _ l rfl

structure It where
  path : Str
  kind : Int
  data : Str
deriving DecidableEq
def It.nil : It := ⟨[], 0, []⟩
def It.root : It := ⟨[47], 1, []⟩
/-- Its data may be. -/
def It.dataB (x : It) : Bool := if x.kind = 1 then decide (x.data.length = 0) else if x.kind = 2 then decide (x.data.length ≤ 524288) else if x.kind = 3 then decide (1 ≤ x.data.length ∧ x.data.length ≤ 2000) else false

abbrev Lv := Str × Str
/-- The levels down to that of d; the topmost stands first. -/
def leaveL (st : List Lv) (d : Str) : List Lv := st.dropWhile fun e => e.1 != d
def stepV (st : List Lv) (x : It) : Option (List Lv) :=
  match leaveL st (upL x.path) with
  | [] => none
  | e :: r => if Lib.compareBytes x.path e.2 ≤ 0 ∨ x.dataB = false then none else some (if x.kind = 1 then (x.path, x.path) :: (e.1, x.path) :: r else (e.1, x.path) :: r)
def runV (l : List It) : Option (List Lv) := l.foldl (fun o x => o.bind (stepV · x)) (some [([47], [47])])
def validT (l : List It) : Bool := decide (l.length ≤ 2000) && (runV l).isSome

theorem runV_snoc (l : List It) (x : It) : runV (l ++ [x]) = (runV l).bind (stepV · x) := by simp [runV]
theorem runV_dead (l m : List It) (h : runV l = none) (hp : l <+: m) : runV m = none := by
  obtain ⟨r, rfl⟩ := hp
  induction r using snoc_ind with
  | nil => simpa using h
  | snoc r x ih => rw [← List.append_assoc, runV_snoc, ih]; rfl

theorem cb_self (a : Str) : Lib.compareBytes a a = 0 := (cb_zero a a).2 rfl
theorem cb_app (p a b : Str) : Lib.compareBytes (p ++ a) (p ++ b) = Lib.compareBytes a b := by
  induction p with
  | nil => rfl
  | cons c p ih => simp only [List.cons_append]; rw [cb_cons, if_neg (byte_irr c), if_neg (byte_irr c), ih]
theorem cb_longer (p : Str) (c : UInt8) (r : Str) : Lib.compareBytes (p ++ c :: r) p = 1 := by
  have := cb_app p (c :: r) []
  rw [List.append_nil] at this
  rw [this]; rfl

/-- What stands one level beneath d. -/
def Kid (d l : Str) : Prop := validB l = true ∧ l ≠ [47] ∧ upL l = d
theorem Kid.valid {d l : Str} (h : Kid d l) : validB d = true := by rw [← h.2.2]; exact (up_valid l h.1).1
/-- A kid of d is d, a slash, a name. -/
theorem Kid.form {d l : Str} (h : Kid d l) : ∃ x, namesL l = namesL d ++ [x] ∧ l = flat (namesL d) ++ 47 :: x ∧ nameB x = true := by
  obtain ⟨init, x, e1, e2, e3, e4, _⟩ := valid_last l h.1 h.2.1
  have e : namesL d = init := by
    have := (up_valid l h.1).2
    rw [h.2.2, e1, List.dropLast_concat] at this
    exact this
  exact ⟨x, by rw [e]; exact e1, by rw [e]; exact e2, e3⟩
theorem Kid.ne {d l : Str} (h : Kid d l) : d ≠ l := by
  obtain ⟨x, e, _⟩ := h.form
  intro e2
  rw [e2] at e
  have := congrArg List.length e
  simp at this
theorem flat_of {d : Str} (h : validB d = true) (hr : d ≠ [47]) : flat (namesL d) = d := by
  have hn : namesL d ≠ [] := fun e => hr ((names_root d h).1 e)
  have := (valid_join d h).1
  rwa [joinL_flat _ hn] at this
/-- A kid stands behind its directory, byte by byte. -/
theorem Kid.over {d l : Str} (h : Kid d l) : Lib.compareBytes l d = 1 := by
  obtain ⟨x, e1, e2, e3⟩ := h.form
  by_cases hr : d = [47]
  · subst hr
    have : flat (namesL [47]) = [] := rfl
    rw [this] at e2
    obtain ⟨c, r, rfl⟩ : ∃ c r, x = c :: r := by
      cases x with
      | nil => exact absurd rfl (name_ne [] e3).1
      | cons c r => exact ⟨c, r, rfl⟩
    rw [e2]
    exact cb_longer [47] c r
  · rw [e2, flat_of h.valid hr]; exact cb_longer d 47 x
/-- Two kids of one directory stand by their names as byte by byte. -/
theorem Kid.cmp {d l m : Str} (h : Kid d l) (k : Kid d m) : ∃ x y, namesL l = namesL d ++ [x] ∧ namesL m = namesL d ++ [y] ∧ Lib.compareBytes l m = Lib.compareBytes x y := by
  obtain ⟨x, e1, e2, e3⟩ := h.form
  obtain ⟨y, f1, f2, f3⟩ := k.form
  refine ⟨x, y, e1, f1, ?_⟩
  rw [e2, f2, cb_app, cb_cons, if_neg (byte_irr _), if_neg (byte_irr _)]

/-- The levels that are open when c was the last path. -/
inductive Ch : List Lv → Prop
  | root (l : Str) : l = [47] ∨ Kid [47] l → Ch [([47], l)]
  | down (d l d' : Str) (r : List Lv) : Ch ((d', d) :: r) → Kid d' d → l = d ∨ Kid d l → Ch ((d, l) :: (d', d) :: r)

theorem Ch.ne {st : List Lv} (h : Ch st) : st ≠ [] := by cases h <;> simp
theorem Ch.last {d l : Str} {r : List Lv} (h : Ch ((d, l) :: r)) : validB d = true ∧ (l = d ∨ Kid d l) := by
  cases h with
  | root _ h => exact ⟨validB_root, h⟩
  | down _ _ d' r h k j => exact ⟨k.1, j⟩
theorem Ch.tail {e f : Lv} {r : List Lv} (h : Ch (e :: f :: r)) : Ch (f :: r) := by cases h with | down _ _ _ _ h _ _ => exact h
theorem Ch.drop {st : List Lv} (h : Ch st) (p : Lv → Bool) (hn : st.dropWhile p ≠ []) : Ch (st.dropWhile p) := by
  induction st with
  | nil => exact absurd rfl h.ne
  | cons e r ih =>
    rw [List.dropWhile_cons] at hn ⊢
    split
    · rename_i hp
      rw [if_pos hp] at hn
      cases r with
      | nil => exact absurd rfl hn
      | cons f r => exact ih h.tail hn
    · exact h
/-- The last path of all is under each directory that is open, and under each level's last path. -/
theorem under_self {p : Str} (h : validB p = true) : underB p p = true := by simp [underB, h]
theorem under_trans {a b c : Str} (h : underB a b = true) (k : underB b c = true) : underB a c = true := by
  simp only [underB, Bool.and_eq_true, List.isPrefixOf_iff_prefix] at h k ⊢
  exact ⟨⟨h.1.1, k.1.2⟩, k.2.trans h.2⟩
theorem Kid.under {d l : Str} (h : Kid d l) : underB l d = true := by
  have := up_under l h.1
  rwa [h.2.2] at this
def topL (st : List Lv) : Str := (st.head?.map (·.2)).getD []
theorem Ch.under {st : List Lv} (h : Ch st) : validB (topL st) = true ∧ ∀ e ∈ st, underB (topL st) e.2 = true ∧ underB (topL st) e.1 = true := by
  induction h with
  | root l h =>
    have hv : validB l = true := by rcases h with rfl | h; exact validB_root; exact h.1
    refine ⟨hv, fun e he => ?_⟩
    simp at he
    subst he
    refine ⟨under_self hv, ?_⟩
    rcases h with rfl | h
    · exact under_self hv
    · exact h.under
  | down d l d' r h k j ih =>
    have hv : validB l = true := by rcases j with rfl | j; exact k.1; exact j.1
    have hu : underB l d = true := by
      rcases j with rfl | j
      · exact under_self hv
      · exact j.under
    refine ⟨hv, fun e he => ?_⟩
    rcases List.mem_cons.1 he with rfl | he
    · exact ⟨under_self hv, hu⟩
    · exact ⟨under_trans hu (ih.2 e he).1, under_trans hu (ih.2 e he).2⟩
/-- Below the topmost level the last path is no directory's own. -/
theorem Ch.lower {st : List Lv} (h : Ch st) {e : Lv} (he : e ∈ st.tail) : Kid e.1 e.2 := by
  induction h with
  | root l h => cases he
  | down d l d' r h k j ih =>
    rcases List.mem_cons.1 he with rfl | he
    · exact k
    · exact ih he

theorem stepV_some {st st' : List Lv} {x : It} (h : stepV st x = some st') : ∃ d l r, leaveL st (upL x.path) = (d, l) :: r ∧ d = upL x.path ∧ ¬ Lib.compareBytes x.path l ≤ 0 ∧ x.dataB = true ∧ st' = if x.kind = 1 then (x.path, x.path) :: (d, x.path) :: r else (d, x.path) :: r := by
  unfold stepV at h
  cases e : leaveL st (upL x.path) with
  | nil => rw [e] at h; cases h
  | cons f r =>
    rw [e] at h
    obtain ⟨d, l⟩ := f
    have hd : d = upL x.path := by
      have := List.head?_dropWhile_not (fun e : Lv => e.1 != upL x.path) st
      unfold leaveL at e
      rw [e] at this
      simpa using this
    simp only at h
    split at h
    · cases h
    · rename_i hc
      refine ⟨d, l, r, rfl, hd, fun k => hc (.inl k), ?_, (Option.some.inj h).symm⟩
      cases hx : x.dataB with
      | true => rfl
      | false => exact absurd (.inr hx) hc
theorem Ch.mem_leave {st : List Lv} {d : Str} {e : Lv} (h : e ∈ leaveL st d) : e ∈ st := (List.dropWhile_sublist _).subset h
/-- What is taken is a path's, under the one level's directory, and behind the last one. -/
theorem Ch.step {st st' : List Lv} {x : It} (h : Ch st) (hs : stepV st x = some st') : Ch st' ∧ topL st' = x.path ∧ Kid (upL x.path) x.path ∧ cmpL (topL st) x.path < 0 ∧ x.dataB = true ∧ (upL x.path = [47] ∨ upL x.path ∈ st.map (·.1)) := by
  obtain ⟨d, l, r, e1, e2, e3, e4, e5⟩ := stepV_some hs
  have hc : Ch ((d, l) :: r) := by
    have := h.drop (fun e : Lv => e.1 != upL x.path) (by show leaveL st _ ≠ []; rw [e1]; simp)
    rw [show st.dropWhile _ = _ from e1] at this
    exact this
  have hmem : (d, l) ∈ st := Ch.mem_leave (by rw [e1]; simp)
  have hdv := hc.last.1
  have hxv : validB x.path = true := by
    cases hv : validB x.path with
    | true => rfl
    | false => rw [e2, up_bad _ hv] at hdv; cases hdv
  have hxr : x.path ≠ [47] := by
    intro e
    have : Lib.compareBytes x.path l ≤ 0 := by
      rw [e]
      rcases hc.last.2 with k | k
      · rw [k, e2, e, up_root, cb_self]; exact Int.le_refl _
      · have hd : d = [47] := by rw [e2, e, up_root]
        rw [hd] at k
        have := k.over
        rw [cb_anti] at this
        omega
    exact e3 this
  have hk : Kid d x.path := ⟨hxv, hxr, e2.symm⟩
  have hu := h.under
  have hlt : cmpL (topL st) x.path < 0 := by
    by_cases hl : l = d
    · -- the topmost level, with nothing in it yet
      have ht : st.head? = some (d, l) := by
        cases st with
        | nil => cases hmem
        | cons f s =>
          rcases List.mem_cons.1 hmem with k | k
          · rw [← k]; rfl
          · exact absurd hl.symm (h.lower (e := (d, l)) k).ne
      have : topL st = d := by simp [topL, ht, hl]
      rw [this, e2, up_cmp _ hxv hxr]
      decide
    · have hkl : Kid d l := by
        rcases hc.last.2 with k | k
        · exact absurd k hl
        · exact k
      obtain ⟨m, n, f1, f2, f3⟩ := hkl.cmp hk
      have hul := (hu.2 _ hmem).1
      simp only [underB, Bool.and_eq_true, List.isPrefixOf_iff_prefix] at hul
      obtain ⟨more, hm⟩ := hul.2
      have hneg : Lib.compareBytes m n < 0 := by
        rw [← f3]
        have := cb_anti l x.path
        omega
      have hne : m ≠ n := by
        intro e
        rw [e, cb_self] at hneg
        exact absurd hneg (by decide)
      unfold cmpL
      rw [if_pos hu.1, if_pos hxv, ← hm, f1, f2, List.append_assoc]
      have : ∀ (p a b : List Str), cmpN (p ++ a) (p ++ b) = cmpN a b := by
        intro p a b
        induction p with
        | nil => rfl
        | cons c p ih => simp only [List.cons_append]; rw [cn_cons, if_pos rfl, ih]
      rw [this, List.cons_append, List.nil_append, cn_cons, if_neg hne]
      exact hneg
  have hch2 : Ch ((d, x.path) :: r) := by
    cases hc with
    | root _ _ => exact .root _ (.inr hk)
    | down _ _ d' r h k j => exact .down _ _ _ _ h k (.inr hk)
  refine ⟨?_, ?_, e2 ▸ hk, hlt, e4, .inr (List.mem_map.2 ⟨(d, l), hmem, e2⟩)⟩
  · rw [e5]
    split
    · exact .down _ _ _ _ hch2 hk (.inl rfl)
    · exact hch2
  · rw [e5]; split <;> rfl

theorem cl_lt_trans {a b c : Str} (h : cmpL a b < 0) (k : cmpL b c < 0) : cmpL a c < 0 := by
  have h1 := cl_trans a b c (by omega) (by omega)
  by_cases h2 : cmpL a c = 0
  · have e := (cl_zero a c).1 h2
    subst e
    have := cl_anti a b
    omega
  · omega

/-- What holds of each row of items that may be. -/
structure Good (l : List It) (st : List Lv) : Prop where
  ch : Ch st
  top : l ≠ [] → ∃ x, l.getLast? = some x ∧ topL st = x.path
  first : l = [] → topL st = [47]
  kid : ∀ x ∈ l, Kid (upL x.path) x.path ∧ x.dataB = true
  sorted : l.Pairwise fun a b => cmpL a.path b.path < 0
  dirs : ∀ e ∈ st, e.1 = [47] ∨ ∃ x ∈ l, x.path = e.1 ∧ x.kind = 1
  up : ∀ x ∈ l, upL x.path = [47] ∨ ∃ y ∈ l, y.path = upL x.path ∧ y.kind = 1

theorem good_nil : Good [] [([47], [47])] := ⟨.root _ (.inl rfl), fun h => absurd rfl h, fun _ => rfl, by simp, .nil, fun e he => by simp at he; subst he; exact .inl rfl, by simp⟩
theorem Good.step {l : List It} {st st' : List Lv} {x : It} (h : Good l st) (hs : stepV st x = some st') : Good (l ++ [x]) st' := by
  obtain ⟨h1, h2, h3, h4, h5, h6⟩ := h.ch.step hs
  obtain ⟨d, lb, r, e1, e2, e3, e4, e5⟩ := stepV_some hs
  have hall : ∀ a ∈ l, cmpL a.path x.path < 0 := by
    intro a ha
    have hne : l ≠ [] := List.ne_nil_of_mem ha
    obtain ⟨y, hy, ht⟩ := h.top hne
    rw [ht] at h4
    obtain ⟨init, rfl⟩ : ∃ init, l = init ++ [y] := ⟨_, (List.getLast?_eq_some_iff.1 hy).choose_spec⟩
    rcases List.mem_append.1 ha with k | k
    · have := (List.pairwise_append.1 h.sorted).2.2 a k y (by simp)
      exact cl_lt_trans this h4
    · simp at k; subst k; exact h4
  have hdirs : ∀ e ∈ st, e.1 = [47] ∨ ∃ z ∈ l ++ [x], z.path = e.1 ∧ z.kind = 1 := fun e he => (h.dirs e he).imp id fun ⟨z, hz, k⟩ => ⟨z, List.mem_append_left _ hz, k⟩
  refine ⟨h1, fun _ => ⟨x, by simp, h2⟩, fun e => by simp at e, ?_, ?_, ?_, ?_⟩
  · intro z hz
    rcases List.mem_append.1 hz with k | k
    · exact h.kid z k
    · simp at k; subst k; exact ⟨h3, h5⟩
  · rw [List.pairwise_append]
    exact ⟨h.sorted, by simp, fun a ha b hb => by simp at hb; subst hb; exact hall a ha⟩
  · intro e he
    have hold : ∀ f ∈ (d, lb) :: r, f.1 = [47] ∨ ∃ z ∈ l ++ [x], z.path = f.1 ∧ z.kind = 1 := fun f hf => hdirs f (Ch.mem_leave (by rw [e1]; exact hf))
    have hrest : ∀ f ∈ (d, x.path) :: r, f.1 = [47] ∨ ∃ z ∈ l ++ [x], z.path = f.1 ∧ z.kind = 1 := by
      intro f hf
      rcases List.mem_cons.1 hf with rfl | hf
      · exact hold (d, lb) (by simp)
      · exact hold f (by simp [hf])
    rw [e5] at he
    split at he
    · rename_i hk
      rcases List.mem_cons.1 he with rfl | he
      · exact .inr ⟨x, by simp, rfl, hk⟩
      · exact hrest e he
    · exact hrest e he
  · intro z hz
    rcases List.mem_append.1 hz with k | k
    · exact (h.up z k).imp id fun ⟨y, hy, q⟩ => ⟨y, List.mem_append_left _ hy, q⟩
    · simp at k; subst k
      rcases h6 with k | k
      · exact .inl k
      · obtain ⟨e, he, hd⟩ := List.mem_map.1 k
        rcases h.dirs e he with q | ⟨y, hy, q⟩
        · exact .inl (by rw [← hd]; exact q)
        · exact .inr ⟨y, List.mem_append_left _ hy, by rw [q.1]; exact hd, q.2⟩
theorem good_run (l : List It) (st : List Lv) (h : runV l = some st) : Good l st := by
  induction l using snoc_ind generalizing st with
  | nil => cases h; exact good_nil
  | snoc l x ih =>
    rw [runV_snoc] at h
    cases e : runV l with
    | none => rw [e] at h; cases h
    | some s => rw [e] at h; exact (ih s e).step h
/-- What may be, is so. -/
structure TreeOk (l : List It) : Prop where
  many : l.length ≤ 2000
  kid : ∀ x ∈ l, Kid (upL x.path) x.path ∧ x.dataB = true
  sorted : l.Pairwise fun a b => cmpL a.path b.path < 0
  up : ∀ x ∈ l, upL x.path = [47] ∨ ∃ y ∈ l, y.path = upL x.path ∧ y.kind = 1
theorem tree_ok {l : List It} (h : validT l = true) : TreeOk l := by
  unfold validT at h
  rw [Bool.and_eq_true, decide_eq_true_iff] at h
  obtain ⟨st, hst⟩ := Option.isSome_iff_exists.1 h.2
  have g := good_run l st hst
  exact ⟨h.1, g.kid, g.sorted, g.up⟩
end Go.Proofs.YtgmplpfbhcdofaaGreat.Pt
