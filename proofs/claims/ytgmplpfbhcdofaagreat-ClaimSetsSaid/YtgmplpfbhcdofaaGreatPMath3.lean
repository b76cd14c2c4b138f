/- Plain words on paths: names and paths lead back to one another; what is under what; the order; what a text means at a path. -/
import Derived.Test.YtgmplpfbhcdofaaGreatPMath2
import Derived.Lib.Join
import Derived.Lib.Bytealg
namespace Go.Proofs.YtgmplpfbhcdofaaGreat.Pt

def flat (l : List Str) : Str := Lib.joinTail [47] l
def joinL (l : List Str) : Str := 47 :: Lib.join l [47]
def namesL (p : Str) : List Str := splitL (p.drop 1)

theorem flat_nil : flat [] = [] := rfl
theorem flat_cons (x : Str) (r : List Str) : flat (x :: r) = 47 :: (x ++ flat r) := by simp [flat, Lib.joinTail]
theorem flat_append (l m : List Str) : flat (l ++ m) = flat l ++ flat m := by simp [flat, Lib.joinTail]
theorem join_cons (x : Str) (r : List Str) : Lib.join (x :: r) [47] = x ++ flat r := Lib.join_cons x r [47]
theorem joinL_nil : joinL [] = [47] := rfl
theorem joinL_flat (l : List Str) (h : l ≠ []) : joinL l = flat l := by
  cases l with
  | nil => exact absurd rfl h
  | cons x r => rw [joinL, join_cons, flat_cons]

theorem consHead_append (c : UInt8) (l m : List Str) (h : l ≠ []) : consHead c (l ++ m) = consHead c l ++ m := by
  cases l with
  | nil => exact absurd rfl h
  | cons a t => rfl

theorem cutP_app (a b : Str) : cutP (a ++ 47 :: b) = cutP a ++ cutP b := by
  induction a with
  | nil => rfl
  | cons c s ih =>
    rw [List.cons_append, cutP_cons, cutP_cons, ih]
    by_cases h : c = 47
    · simp [h]
    · rw [if_neg h, if_neg h, consHead_append _ _ _ (cutP_ne s)]

theorem cutP_flat (x : Str) (r : List Str) (hx : 47 ∉ x) (hr : ∀ y ∈ r, 47 ∉ y) : cutP (x ++ flat r) = x :: r := by
  induction r generalizing x with
  | nil => rw [flat_nil, List.append_nil, cutP_last x hx]
  | cons y r ih =>
    rw [flat_cons, cutP_app, cutP_last x hx, ih y (hr y (by simp)) (fun z hz => hr z (by simp [hz]))]
    rfl

theorem join_cutP (s : Str) : Lib.join (cutP s) [47] = s := by
  induction s with
  | nil => rfl
  | cons c s ih =>
    rw [cutP_cons]
    obtain ⟨h, t, e⟩ : ∃ h t, cutP s = h :: t := by
      cases e : cutP s with
      | nil => exact absurd e (cutP_ne s)
      | cons h t => exact ⟨h, t, rfl⟩
    rw [e, join_cons] at ih
    by_cases hc : c = 47
    · rw [if_pos hc, e, join_cons, flat_cons, ih, hc]; rfl
    · rw [if_neg hc, e, consHead, join_cons, List.cons_append, ih]

theorem name_ne (x : Str) (h : nameB x = true) : x ≠ [] ∧ x ≠ [46] ∧ x ≠ [46, 46] ∧ x.length ≤ 32 := by
  unfold nameB at h
  rw [Bool.and_eq_true] at h
  exact of_decide_eq_true h.1
theorem name_slash (x : Str) (h : nameB x = true) : 47 ∉ x := by
  unfold nameB at h
  rw [Bool.and_eq_true, List.all_eq_true] at h
  intro hm
  have := h.2 47 hm
  simp [okB, letB] at this

theorem parts_iff (l : List Str) : partsB l = true ↔ l.length ≤ 40 ∧ ∀ x ∈ l, nameB x = true := by
  unfold partsB
  rw [Bool.and_eq_true, List.all_eq_true, decide_eq_true_iff]

theorem join_valid (l : List Str) (h : partsB l = true) : validB (joinL l) = true ∧ namesL (joinL l) = l := by
  cases l with
  | nil => exact ⟨validB_root, rfl⟩
  | cons x r =>
    have hp := (parts_iff _).1 h
    have hx := hp.2 x (by simp)
    have hne : x ++ flat r ≠ [] := by
      intro e
      exact (name_ne x hx).1 (List.append_eq_nil_iff.1 e).1
    have hc := cutP_flat x r (name_slash x hx) (fun y hy => name_slash y (hp.2 y (by simp [hy])))
    rw [joinL, join_cons]
    refine ⟨?_, ?_⟩
    · rw [validB_slash _ hne, hc, h]
    · show splitL (x ++ flat r) = _
      rw [splitL, if_neg hne, hc]

theorem valid_join (p : Str) (h : validB p = true) : joinL (namesL p) = p ∧ partsB (namesL p) = true := by
  cases p with
  | nil => cases h
  | cons c t =>
    simp only [validB, Bool.and_eq_true, decide_eq_true_iff] at h
    obtain ⟨rfl, h⟩ := h
    by_cases ht : t = []
    · subst ht; exact ⟨rfl, rfl⟩
    · simp only [ht, decide_false, Bool.false_or] at h
      have e : namesL (47 :: t) = cutP t := by
        show splitL t = _
        rw [splitL, if_neg ht]
      rw [e]
      exact ⟨by rw [joinL, join_cutP], h⟩

theorem valid_names (p : Str) (h : validB p = true) : (namesL p).length ≤ 40 ∧ ∀ x ∈ namesL p, nameB x = true := (parts_iff _).1 (valid_join p h).2

theorem joinL_inj (l m : List Str) (hl : partsB l = true) (hm : partsB m = true) (h : joinL l = joinL m) : l = m := by
  rw [← (join_valid l hl).2, h, (join_valid m hm).2]

theorem names_root (p : Str) (h : validB p = true) : namesL p = [] ↔ p = [47] := by
  constructor
  · intro e
    have := (valid_join p h).1
    rw [e] at this
    exact this.symm
  · intro e; subst e; rfl

/-! ### Lengths -/
theorem flat_len (l : List Str) (h : ∀ x ∈ l, nameB x = true) : (flat l).length ≤ 33 * l.length := by
  induction l with
  | nil => simp [flat_nil]
  | cons x r ih =>
    have h1 := ih (fun y hy => h y (by simp [hy]))
    have h2 := (name_ne x (h x (by simp))).2.2.2
    rw [flat_cons]
    simp only [List.length_cons, List.length_append]
    omega
theorem join_len (l : List Str) (h : partsB l = true) : (Lib.join l [47]).length ≤ 1400 := by
  have hp := (parts_iff _).1 h
  have := flat_len l hp.2
  cases l with
  | nil => simp [Lib.join_nil]
  | cons x r =>
    rw [join_cons]
    rw [flat_cons] at this
    simp only [List.length_cons] at this hp
    omega
theorem valid_len (p : Str) (h : validB p = true) : p.length ≤ 1401 := by
  have h1 := valid_join p h
  have h2 := join_len _ h1.2
  rw [← h1.1, joinL, List.length_cons]
  omega

/-! ### Up and Base -/
def upL (p : Str) : Str := if validB p = true then joinL (namesL p).dropLast else []
def baseL (p : Str) : Str := if validB p = true then (namesL p).getLast?.getD [] else []

theorem parts_dropLast (l : List Str) (h : partsB l = true) : partsB l.dropLast = true := by
  have hp := (parts_iff _).1 h
  refine (parts_iff _).2 ⟨?_, fun x hx => hp.2 x ((List.dropLast_sublist l).subset hx)⟩
  rw [List.length_dropLast]; omega

/-- A path that is not the root: all but its last name, a slash, that name. -/
theorem valid_last (p : Str) (h : validB p = true) (hr : p ≠ [47]) : ∃ init x, namesL p = init ++ [x] ∧ p = flat init ++ 47 :: x ∧ nameB x = true ∧ partsB init = true ∧ 47 ∉ x := by
  have hn : namesL p ≠ [] := fun e => hr ((names_root p h).1 e)
  have hj := valid_join p h
  obtain ⟨init, x, e⟩ : ∃ init x, namesL p = init ++ [x] := ⟨_, _, (List.dropLast_concat_getLast hn).symm⟩
  have hx : nameB x = true := (valid_names p h).2 x (by rw [e]; simp)
  have hd := parts_dropLast _ hj.2
  rw [e, List.dropLast_concat] at hd
  refine ⟨init, x, e, ?_, hx, hd, name_slash _ hx⟩
  have hp := hj.1
  rw [joinL_flat _ hn, e, flat_append, flat_cons, flat_nil, List.append_nil] at hp
  exact hp.symm

theorem up_last (p init : Str) (li : List Str) (x : Str) (h : validB p = true) (hn : namesL p = li ++ [x]) (hi : flat li = init) : upL p = if li = [] then [47] else init := by
  rw [upL, if_pos h, hn, List.dropLast_concat]
  by_cases hl : li = []
  · rw [if_pos hl, hl]; rfl
  · rw [if_neg hl, joinL_flat _ hl, hi]
theorem base_last (p : Str) (li : List Str) (x : Str) (h : validB p = true) (hn : namesL p = li ++ [x]) : baseL p = x := by
  rw [baseL, if_pos h, hn]; simp
theorem up_root : upL [47] = [47] := by rw [upL, if_pos validB_root]; rfl
theorem base_root : baseL [47] = [] := by rw [baseL, if_pos validB_root]; rfl
theorem up_bad (p : Str) (h : validB p = false) : upL p = [] := by rw [upL, if_neg (by simp [h])]
theorem base_bad (p : Str) (h : validB p = false) : baseL p = [] := by rw [baseL, if_neg (by simp [h])]
theorem flat_zero (l : List Str) : (flat l).length = 0 ↔ l = [] := by
  cases l with
  | nil => simp [flat_nil]
  | cons x r => simp [flat_cons]

/-! ### Under -/
def underB (p d : Str) : Bool := validB p && validB d && (namesL d).isPrefixOf (namesL p)

theorem noEmpty (p : Str) (h : validB p = true) : [] ∉ namesL p := fun hm => (name_ne [] ((valid_names p h).2 [] hm)).1 rfl

/-- What stands behind dir, if that is no root. -/
theorem behind_yes (p d rest : Str) (hp : validB p = true) (hd : validB d = true) (hr : d ≠ [47]) (e : p = d ++ rest) (h : rest = [] ∨ rest.head? = some 47) :
    namesL d <+: namesL p ∧ splitL (rest.drop 1) = (namesL p).drop (namesL d).length := by
  rcases h with rfl | h
  · rw [List.append_nil] at e
    subst e
    exact ⟨List.prefix_refl _, by simp [splitL]⟩
  · obtain ⟨r, rfl⟩ : ∃ r, rest = 47 :: r := by
      cases rest with
      | nil => cases h
      | cons c r => simp at h; exact ⟨r, by rw [h]⟩
    cases d with
    | nil => cases hd
    | cons c d' =>
      have hd' : d' ≠ [] := by
        intro e2; subst e2
        simp only [validB, Bool.and_eq_true, decide_eq_true_iff] at hd
        exact hr (by rw [hd.1])
      have e1 : namesL (c :: d') = cutP d' := by show splitL d' = _; rw [splitL, if_neg hd']
      have e2 : namesL p = cutP d' ++ cutP r := by
        rw [e]
        show splitL (d' ++ 47 :: r) = _
        rw [splitL, if_neg (by simp), cutP_app]
      have hr' : r ≠ [] := by
        intro e3; subst e3
        exact noEmpty p hp (by rw [e2]; simp [cutP])
      refine ⟨by rw [e1, e2]; exact List.prefix_append _ _, ?_⟩
      rw [e1, e2, List.drop_left]
      show splitL r = _
      rw [splitL, if_neg hr']

theorem behind_no (p d : Str) (hp : validB p = true) (hd : validB d = true) (hr : d ≠ [47]) (h : namesL d <+: namesL p) : ∃ rest, p = d ++ rest ∧ (rest = [] ∨ rest.head? = some 47) := by
  obtain ⟨m, hm⟩ := h
  have hn : namesL d ≠ [] := fun e => hr ((names_root d hd).1 e)
  have e1 := (valid_join p hp).1
  have e2 := (valid_join d hd).1
  rw [joinL_flat _ (by rw [← hm]; simp [hn]), ← hm, flat_append] at e1
  rw [joinL_flat _ hn] at e2
  refine ⟨flat m, by rw [← e1, e2], ?_⟩
  cases m with
  | nil => left; rfl
  | cons x r => right; rw [flat_cons]; rfl

/-! ### The order -/
def cmpN : List Str → List Str → Int
  | [], [] => 0
  | [], _ :: _ => -1
  | _ :: _, [] => 1
  | x :: xs, y :: ys => if x = y then cmpN xs ys else Lib.compareBytes x y
def cmpL (p q : Str) : Int :=
  if validB p = true then (if validB q = true then cmpN (namesL p) (namesL q) else 1)
  else (if validB q = true then -1 else Lib.compareBytes p q)

theorem split_step (a : Str) (ha : a ≠ []) (h : [] ∉ splitL a) : splitL a = (cut1 a).1 :: splitL (cut1 a).2.1 := by
  have e : splitL a = cutP a := by rw [splitL, if_neg ha]
  rw [e] at h ⊢
  rw [cutP_cut1] at h ⊢
  by_cases hm : 47 ∈ a
  · rw [cut1_yes a hm] at h ⊢
    dsimp only at h ⊢
    rw [if_pos rfl] at h ⊢
    have hne : (a.dropWhile (· != 47)).drop 1 ≠ [] := by
      intro e2
      rw [e2] at h
      exact h (by simp [cutP])
    congr 1
    rw [splitL, if_neg hne]
  · rw [cut1_no a hm]; rfl

theorem cmpN_prefix (l : List Str) (x : Str) (m : List Str) : cmpN l (l ++ x :: m) = -1 := by
  induction l with
  | nil => rfl
  | cons a l ih => rw [List.cons_append, cmpN, if_pos rfl, ih]
theorem cmpN_self (l : List Str) : cmpN l l = 0 := by
  induction l with
  | nil => rfl
  | cons a l ih => rw [cmpN, if_pos rfl, ih]

/-! ### What a text means at a path -/
def stepW (o : Option (List Str)) (x : Str) : Option (List Str) :=
  match o with
  | none => none
  | some l => if x = [] ∨ x = [46] then some l else if x = [46, 46] then some l.dropLast else if l.length = 40 ∨ nameB x = false then none else some (l ++ [x])
def goW (l : List Str) (xs : List Str) : Option (List Str) := xs.foldl stepW (some l)
def cleanL (dir s : Str) : Option (List Str) := goW (if s.head? = some 47 then [] else namesL dir) (cutP s)

theorem fold_none (xs : List Str) : xs.foldl stepW none = none := by
  induction xs with
  | nil => rfl
  | cons x r ih => exact ih
theorem goW_snoc (l : List Str) (pre : List Str) (x : Str) : goW l (pre ++ [x]) = stepW (goW l pre) x := by simp [goW]
theorem goW_dead (l pre m : List Str) (h : goW l pre = none) (hp : pre <+: m) : goW l m = none := by
  obtain ⟨r, rfl⟩ := hp
  unfold goW at h ⊢
  rw [List.foldl_append, h, fold_none]
theorem stepW_skip (l : List Str) (x : Str) (h : x = [] ∨ x = [46]) : stepW (some l) x = some l := by simp [stepW, h]
theorem stepW_up (l : List Str) : stepW (some l) [46, 46] = some l.dropLast := by simp [stepW]
theorem stepW_no (l : List Str) (x : Str) (h1 : x ≠ []) (h2 : x ≠ [46]) (h3 : x ≠ [46, 46]) (h : l.length = 40 ∨ nameB x = false) : stepW (some l) x = none := by
  rw [stepW, if_neg (by simp [h1, h2]), if_neg h3, if_pos h]
theorem stepW_add (l : List Str) (x : Str) (h : l.length ≠ 40) (hn : nameB x = true) : stepW (some l) x = some (l ++ [x]) := by
  have hx := name_ne x hn
  rw [stepW, if_neg (by simp [hx.1, hx.2.1]), if_neg hx.2.2.1, if_neg (by simp [h, hn])]
theorem parts_snoc (l : List Str) (x : Str) (h : partsB l = true) (hl : l.length ≠ 40) (hn : nameB x = true) : partsB (l ++ [x]) = true := by
  have hp := (parts_iff _).1 h
  refine (parts_iff _).2 ⟨by simp; omega, fun y hy => ?_⟩
  rcases List.mem_append.1 hy with hy | hy
  · exact hp.2 y hy
  · simp at hy; rw [hy]; exact hn

end Go.Proofs.YtgmplpfbhcdofaaGreat.Pt
