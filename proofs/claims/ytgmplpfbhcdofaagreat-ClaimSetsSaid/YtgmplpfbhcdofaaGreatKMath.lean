/- Proved here: plain words on claims: who has which paths, in order. -/
import Derived.Test.YtgmplpfbhcdofaaGreatLMath
import Derived.Test.YtgmplpfbhcdofaaGreatPTMath2
namespace Go.Proofs.YtgmplpfbhcdofaaGreat
open Go.RowKit Go.Shelf

/-- A leaf, and the place of its row. -/
abbrev Pl := Nat × Lf
/-- A claim. -/
structure Cl where
  p : Bs
  dir : Bool
  own : List Nat
deriving DecidableEq
def Cl.nil : Cl := ⟨[], false, []⟩
def atS (s : List Pl) (p : Bs) : List Pl := s.filter (fun e => e.2.p == p)
def ownS (s : List Pl) (p : Bs) : List Nat := (atS s p).map (·.1)
def dirS (s : List Pl) (p : Bs) : Bool := (atS s p).all (·.2.dir)
def hasS (s : List Pl) (p : Bs) : Bool := s.any (fun e => e.2.p == p)
def clS (s : List Pl) (p : Bs) : Cl := ⟨p, dirS s p, ownS s p⟩
theorem atS_snoc (s : List Pl) (e : Pl) (p : Bs) : atS (s ++ [e]) p = if e.2.p = p then atS s p ++ [e] else atS s p := by
  unfold atS
  rw [List.filter_append]
  by_cases h : e.2.p = p
  · simp [h]
  · simp [h]
theorem ownS_snoc (s : List Pl) (e : Pl) (p : Bs) : ownS (s ++ [e]) p = if e.2.p = p then ownS s p ++ [e.1] else ownS s p := by
  unfold ownS
  rw [atS_snoc]
  split <;> simp
theorem dirS_snoc (s : List Pl) (e : Pl) (p : Bs) : dirS (s ++ [e]) p = if e.2.p = p then (dirS s p && e.2.dir) else dirS s p := by
  unfold dirS
  rw [atS_snoc]
  split <;> simp
theorem hasS_snoc (s : List Pl) (e : Pl) (p : Bs) : hasS (s ++ [e]) p = (hasS s p || (e.2.p == p)) := by
  simp [hasS]
theorem hasS_iff (s : List Pl) (p : Bs) : hasS s p = true ↔ ∃ e ∈ s, e.2.p = p := by
  simp [hasS]
theorem atS_none {s : List Pl} {p : Bs} (h : hasS s p = false) : atS s p = [] := by
  unfold atS
  rw [List.filter_eq_nil_iff]
  intro e he hp
  have : hasS s p = true := (hasS_iff s p).2 ⟨e, he, by simpa using hp⟩
  rw [h] at this
  cases this
theorem ownS_none {s : List Pl} {p : Bs} (h : hasS s p = false) : ownS s p = [] := by unfold ownS; rw [atS_none h]; rfl
theorem dirS_none {s : List Pl} {p : Bs} (h : hasS s p = false) : dirS s p = true := by unfold dirS; rw [atS_none h]; rfl
theorem ownS_pos {s : List Pl} {p : Bs} (h : hasS s p = true) : ownS s p ≠ [] := by
  obtain ⟨e, he, hp⟩ := (hasS_iff s p).1 h
  intro h0
  have : e ∈ atS s p := by unfold atS; rw [List.mem_filter]; exact ⟨he, by simp [hp]⟩
  have h1 : e.1 ∈ ownS s p := List.mem_map.2 ⟨e, this, rfl⟩
  rw [h0] at h1
  cases h1
theorem ownS_len (s : List Pl) (p : Bs) : (ownS s p).length ≤ s.length := by
  unfold ownS atS
  rw [List.length_map]
  exact List.length_filter_le _ _
theorem mem_ownS {s : List Pl} {p : Bs} {i : Nat} : i ∈ ownS s p ↔ ∃ x, (i, x) ∈ s ∧ x.p = p := by
  unfold ownS atS
  rw [List.mem_map]
  constructor
  · rintro ⟨⟨j, x⟩, h, rfl⟩
    rw [List.mem_filter] at h
    exact ⟨x, h.1, by simpa using h.2⟩
  · rintro ⟨x, h, hp⟩
    exact ⟨(i, x), by rw [List.mem_filter]; exact ⟨h, by simp [hp]⟩, rfl⟩

/-! ### Paths in order -/
def RiseP (l : List Bs) : Prop := l.Pairwise fun a b => Pt.cmpL a b < 0
def headP (l : List Bs) (x : Bs) : List Bs := l.takeWhile fun y => decide (Pt.cmpL y x < 0)
def restP (l : List Bs) (x : Bs) : List Bs := l.dropWhile fun y => decide (Pt.cmpL y x < 0)
/-- With one more, in order. -/
def insP (l : List Bs) (x : Bs) : List Bs := if (restP l x).head? = some x then l else headP l x ++ x :: restP l x
theorem headP_rest (l : List Bs) (x : Bs) : headP l x ++ restP l x = l := List.takeWhile_append_dropWhile
theorem insP_mem (l : List Bs) (x y : Bs) : y ∈ insP l x ↔ y ∈ l ∨ y = x := by
  unfold insP
  split
  · rename_i h
    constructor
    · exact .inl
    · rintro (h1 | rfl)
      · exact h1
      · rw [← headP_rest l y]
        exact List.mem_append.2 (.inr (List.mem_of_mem_head? h))
  · rw [List.mem_append, List.mem_cons]
    constructor
    · rintro (h | rfl | h)
      · exact .inl (by rw [← headP_rest l x]; exact List.mem_append.2 (.inl h))
      · exact .inr rfl
      · exact .inl (by rw [← headP_rest l x]; exact List.mem_append.2 (.inr h))
    · rintro (h | rfl)
      · rw [← headP_rest l x] at h
        rcases List.mem_append.1 h with h | h
        · exact .inl h
        · exact .inr (.inr h)
      · exact .inr (.inl rfl)
theorem tw_mem {α : Type} {q : α → Bool} {l : List α} {y : α} (h : y ∈ l.takeWhile q) : q y = true := by
  induction l with
  | nil => cases h
  | cons z l ih =>
    rw [List.takeWhile_cons] at h
    split at h
    · rename_i hz
      rcases List.mem_cons.1 h with rfl | h
      · exact hz
      · exact ih h
    · cases h
theorem headP_lt {l : List Bs} {x y : Bs} (h : y ∈ headP l x) : Pt.cmpL y x < 0 := by
  have := tw_mem h
  simpa using this
theorem restP_ge {l : List Bs} {x y : Bs} {r : List Bs} (h : restP l x = y :: r) : ¬ Pt.cmpL y x < 0 := by
  have := List.head?_dropWhile_not (fun y => decide (Pt.cmpL y x < 0)) l
  unfold restP at h
  rw [h] at this
  simpa using this
theorem riseP_ins {l : List Bs} (h : RiseP l) (x : Bs) : RiseP (insP l x) := by
  unfold insP
  split
  · exact h
  · rename_i hx
    rw [← headP_rest l x] at h
    obtain ⟨h1, h2, h3⟩ := List.pairwise_append.1 h
    refine List.pairwise_append.2 ⟨h1, ?_, ?_⟩
    · refine List.pairwise_cons.2 ⟨?_, h2⟩
      intro y hy
      cases e : restP l x with
      | nil => rw [e] at hy; cases hy
      | cons z r =>
        rw [e] at hy hx h2
        have hz : Pt.cmpL x z < 0 := by
          have a1 := restP_ge e
          have a2 := Pt.cl_anti x z
          have a3 : Pt.cmpL x z ≠ 0 := fun k => hx (by rw [(Pt.cl_zero x z).1 k]; rfl)
          omega
        rcases List.mem_cons.1 hy with rfl | hy
        · exact hz
        · exact Pt.cl_lt_trans hz ((List.pairwise_cons.1 h2).1 y hy)
    · intro a ha b hb
      rcases List.mem_cons.1 hb with rfl | hb
      · exact headP_lt ha
      · exact h3 a ha b hb
theorem cl_self (a : Bs) : Pt.cmpL a a = 0 := (Pt.cl_zero a a).2 rfl
theorem riseP_nodup {l : List Bs} (h : RiseP l) : l.Nodup := List.Pairwise.imp (fun {a b} hab e => by subst e; rw [cl_self] at hab; exact absurd hab (Int.lt_irrefl _)) h
/-- Two that rise, and have the same, are one. -/
theorem riseP_one {a b : List Bs} (ha : RiseP a) (hb : RiseP b) (h : ∀ p, p ∈ a ↔ p ∈ b) : a = b := by
  induction a generalizing b with
  | nil =>
    cases b with
    | nil => rfl
    | cons y b => exact absurd ((h y).2 (by simp)) (by simp)
  | cons x a ih =>
    cases b with
    | nil => exact absurd ((h x).1 (by simp)) (by simp)
    | cons y b =>
      obtain ⟨hx, ha2⟩ := List.pairwise_cons.1 ha
      obtain ⟨hy, hb2⟩ := List.pairwise_cons.1 hb
      have e : x = y := by
        rcases List.mem_cons.1 ((h x).1 (by simp)) with e | e
        · exact e
        · rcases List.mem_cons.1 ((h y).2 (by simp)) with k | k
          · exact k.symm
          · have h1 := hy x e
            have h2 := hx y k
            have := Pt.cl_anti x y
            omega
      subst e
      have hnx : ∀ {c : List Bs}, (∀ z ∈ c, Pt.cmpL x z < 0) → x ∉ c := fun hc k => by
        have := hc x k
        rw [cl_self] at this
        omega
      refine congrArg (x :: ·) (ih ha2 hb2 (fun p => ?_))
      constructor
      · intro hp
        rcases List.mem_cons.1 ((h p).1 (List.mem_cons_of_mem _ hp)) with rfl | k
        · exact absurd hp (hnx hx)
        · exact k
      · intro hp
        rcases List.mem_cons.1 ((h p).2 (List.mem_cons_of_mem _ hp)) with rfl | k
        · exact absurd hp (hnx hy)
        · exact k

def pathsS (s : List Pl) : List Bs := s.foldl (fun l e => insP l e.2.p) []
theorem pathsS_snoc (s : List Pl) (e : Pl) : pathsS (s ++ [e]) = insP (pathsS s) e.2.p := by simp [pathsS]
theorem pathsS_rise (s : List Pl) : RiseP (pathsS s) := by
  induction s using Pt.snoc_ind with
  | nil => exact List.Pairwise.nil
  | snoc s e ih => rw [pathsS_snoc]; exact riseP_ins ih _
theorem pathsS_mem (s : List Pl) (p : Bs) : p ∈ pathsS s ↔ hasS s p = true := by
  induction s using Pt.snoc_ind with
  | nil => simp [pathsS, hasS]
  | snoc s e ih =>
    rw [pathsS_snoc, insP_mem, ih, hasS_snoc, Bool.or_eq_true]
    exact or_congr Iff.rfl ⟨fun h => by rw [h]; simp, fun h => ((beq_iff_eq).1 h).symm⟩
/-- What is in order, and has the same paths, is that. -/
theorem pathsS_eq {s : List Pl} {a : List Bs} (ha : RiseP a) (h : ∀ p, p ∈ a ↔ hasS s p = true) : a = pathsS s :=
  riseP_one ha (pathsS_rise s) (fun p => (h p).trans (pathsS_mem s p).symm)
theorem insP_len (l : List Bs) (x : Bs) : (insP l x).length ≤ l.length + 1 := by
  unfold insP
  split
  · omega
  · have := congrArg List.length (headP_rest l x)
    simp at this ⊢
    omega
theorem pathsS_len (s : List Pl) : (pathsS s).length ≤ s.length := by
  induction s using Pt.snoc_ind with
  | nil => exact Nat.le_refl _
  | snoc s e ih =>
    rw [pathsS_snoc, List.length_append]
    have := insP_len (pathsS s) e.2.p
    simp at *
    omega
def clsS (s : List Pl) : List Cl := (pathsS s).map (clS s)

/-! ### Rows -/
def plsFrom : Nat → List (List Lf) → List Pl
  | _, [] => []
  | i, r :: l => r.map (fun x => (i, x)) ++ plsFrom (i + 1) l
abbrev plsL (l : List (List Lf)) : List Pl := plsFrom 0 l
theorem plsFrom_append (i : Nat) (a b : List (List Lf)) : plsFrom i (a ++ b) = plsFrom i a ++ plsFrom (i + a.length) b := by
  induction a generalizing i with
  | nil => rfl
  | cons r a ih =>
    show r.map (fun x => (i, x)) ++ plsFrom (i + 1) (a ++ b) = r.map (fun x => (i, x)) ++ plsFrom (i + 1) a ++ plsFrom (i + (a.length + 1)) b
    rw [ih, List.append_assoc, show i + 1 + a.length = i + (a.length + 1) by omega]
theorem mem_plsFrom {i j : Nat} {l : List (List Lf)} {x : Lf} : (j, x) ∈ plsFrom i l ↔ ∃ k r, l[k]? = some r ∧ x ∈ r ∧ j = i + k := by
  induction l generalizing i with
  | nil => simp [plsFrom]
  | cons r l ih =>
    show (j, x) ∈ r.map (fun x => (i, x)) ++ plsFrom (i + 1) l ↔ _
    rw [List.mem_append, ih]
    constructor
    · rintro (h | ⟨k, r', h1, h2, h3⟩)
      · obtain ⟨y, hy, e⟩ := List.mem_map.1 h
        cases e
        exact ⟨0, r, rfl, hy, rfl⟩
      · exact ⟨k + 1, r', by simpa using h1, h2, by omega⟩
    · rintro ⟨k, r', h1, h2, h3⟩
      cases k with
      | zero =>
        simp at h1
        subst h1
        exact .inl (List.mem_map.2 ⟨x, h2, by rw [h3]; rfl⟩)
      | succ k => exact .inr ⟨k, r', by simpa using h1, h2, by omega⟩
theorem plsL_take_snoc (l : List (List Lf)) (k : Nat) (r : List Lf) (h : l[k]? = some r) : plsL (l.take (k + 1)) = plsL (l.take k) ++ r.map (fun x => (k, x)) := by
  have hk := (List.getElem?_eq_some_iff.1 h).1
  rw [List.take_add_one, h]
  show plsFrom 0 (l.take k ++ [r]) = _
  rw [plsFrom_append, List.length_take, Nat.min_eq_left (by omega), Nat.zero_add]
  show plsL (l.take k) ++ (r.map (fun x => (k, x)) ++ []) = _
  rw [List.append_nil]
theorem pls_len (i : Nat) (l : List (List Lf)) (h : ∀ r ∈ l, r.length ≤ 16) : (plsFrom i l).length ≤ 16 * l.length := by
  induction l generalizing i with
  | nil => simp [plsFrom]
  | cons r l ih =>
    have h1 := ih (i + 1) (fun r hr => h r (by simp [hr]))
    have h2 := h r (by simp)
    show (r.map (fun x => (i, x)) ++ plsFrom (i + 1) l).length ≤ _
    rw [List.length_append, List.length_map, List.length_cons]
    omega
def clsL (l : List (List Lf)) : List Cl := clsS (plsL l)
/-- By which error rows may not be. -/
noncomputable def chkR (l : List (List Lf)) : Int := if 16 < l.length then 3 else if l.all okLs then 0 else 190
def clashL (l : List (List Lf)) : List Bs := ((clsL l).filter fun c => decide (1 < c.own.length) && !c.dir).map (·.p)
def aloneL (l : List (List Lf)) (p : Bs) : Int × Bool := match (clsL l).find? (fun c => c.p == p && decide (c.own.length = 1)) with
  | some c => (((c.own[0]?).getD 0 : Nat), true)
  | none => (0, false)
end Go.Proofs.YtgmplpfbhcdofaaGreat
