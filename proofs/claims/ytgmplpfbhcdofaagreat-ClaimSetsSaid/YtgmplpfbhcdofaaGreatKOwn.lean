/- Proved here: the map of claims as it grows: words on memory. -/
import Derived.Test.YtgmplpfbhcdofaaGreatKRows
import Derived.Maps.OwnSet
import Derived.Maps.Views
import Derived.Maps.AppendAt
import Derived.Carry
namespace Go.Proofs.YtgmplpfbhcdofaaGreat
open Go.RowKit Go.Shelf

/-- How a value of the map is read: as it is. -/
def RV (v : Value) : Option (DataW Value × List MemPlace) := some (.held v, [])
abbrev clV (p : Bs) (dir : Bool) (ov : Value) : Value := .agg #[.string ⟨p.toArray⟩, .bool dir, ov]
theorem law9 : Maps.Keyed Tryz.prog 9 := Maps.string_keyed Tryz.underlying9
theorem zv43 (w : World) : (zeroValue 44).run Tryz.prog w = .ok (clV [] false (.slice none 0 0)) w := by kernel_rfl
theorem keyS (p : Bs) : WideAt.IsKeyLit (.string p) := by unfold WideAt.IsKeyLit; trivial
def MapS (D : DataW Value) (s : List Pl) (V : Bs → Value) : Prop :=
  (∀ p, Maps.has D (.string p) = hasS s p) ∧ ∀ p, hasS s p = true → ∀ zd, D.atKey (.string p) zd = .held (clV p (dirS s p) (V p))
structure Owned (w : World) (B b : Nat) (s : List Pl) (V : Bs → Value) : Prop where
  map : ∃ D, w.ownsMap Tryz.prog 9 RV b s.length D ∧ MapS D s V
  low : B ≤ b
  nil : ∀ p, hasS s p = false → V p = .slice none 0 0
  row : ∀ p, w.ownsRow B 3 1 (V p) (ownS s p).length (natsV (ownS s p))
  apart : ∀ p q, p ≠ q → ∀ g, (V p).ownBlock = some g → (V q).ownBlock ≠ some g
theorem own_cells {w : World} {B n sz : Nat} {e : TypeId} {v : Value} {xs : List Value} (h : w.ownsRow B e sz v n xs) {g : Nat} (hg : v.ownBlock = some g) : ∃ cur, w.heap[g]? = some (.cells cur e (0, 0)) := by
  rcases h.2 with ⟨rfl, _⟩ | ⟨g', cap, cur, rfl, _, hb, _⟩
  · simp [Value.ownBlock] at hg
  · simp [Value.ownBlock] at hg
    subst hg
    exact ⟨cur, hb⟩
theorem map_not {w : World} {b n : Nat} {D : DataW Value} (h : w.ownsMap Tryz.prog 9 RV b n D) {B m sz : Nat} {e : TypeId} {v : Value} {xs : List Value} (ho : w.ownsRow B e sz v m xs) : v.ownBlock ≠ some b := by
  intro hg
  obtain ⟨cur, h1⟩ := own_cells ho hg
  obtain ⟨es, clock, h2, _⟩ := h
  rw [h1] at h2
  cases h2
theorem own_in {w : World} {B n sz : Nat} {e : TypeId} {v : Value} {xs : List Value} (h : w.ownsRow B e sz v n xs) {g : Nat} (hg : v.ownBlock = some g) : B ≤ g ∧ g < w.heap.size := h.lt g hg
theorem own_slice {w : World} {B n sz : Nat} {e : TypeId} {v : Value} {xs : List Value} (h : w.ownsRow B e sz v n xs) : ∃ a c, v = .slice a n c := by
  rcases h.2 with ⟨h1, h0⟩ | ⟨g, cap, cur, h1, _⟩
  · exact ⟨none, 0, by rw [h1, h0]⟩
  · exact ⟨_, _, h1⟩
theorem Owned.lt {w : World} {B b : Nat} {s : List Pl} {V : Bs → Value} (h : Owned w B b s V) : b < w.heap.size := by
  obtain ⟨D, h1, _⟩ := h.map
  exact h1.lt
theorem Owned.notm {w : World} {B b : Nat} {s : List Pl} {V : Bs → Value} (h : Owned w B b s V) (p : Bs) : (V p).ownBlock ≠ some b := by
  obtain ⟨D, h1, _⟩ := h.map
  exact map_not h1 (h.row p)
theorem Owned.kept {w w' : World} {B b : Nat} {s : List Pl} {V : Bs → Value} {row : Option Nat} (h : Owned w B b s V) (hg : w.grownBy w' row) (h1 : some b ≠ row) (h2 : ∀ p r, row = some r → (V p).ownBlock ≠ some r) : Owned w' B b s V := by
  obtain ⟨D, hD, hS⟩ := h.map
  exact ⟨⟨D, hD.kept hg h1, hS⟩, h.low, h.nil, fun p => owns_grown (h.row p) hg (h2 p), h.apart⟩
theorem Owned.on {w w' : World} {B b : Nat} {s : List Pl} {V : Bs → Value} (h : Owned w B b s V) (hb : Below w.heap.size w w') : Owned w' B b s V :=
  h.kept (below_grown hb) (by simp) (fun _ _ e => by cases e)
theorem Owned.start (w : World) (B : Nat) (hB : B ≤ w.heap.size) : Owned (w.alloc (.map #[] 0)) B w.heap.size [] (fun _ => .slice none 0 0) :=
  ⟨⟨.map [], World.ownsMap_made w Tryz.prog 9 RV, ⟨fun p => rfl, fun p h => by cases h⟩⟩, hB, fun _ _ => rfl, fun p => World.ownsRow_nil _ _ _ _, fun p q _ g h => by cases h⟩
/-- What a look-up answers. -/
def cpS (s : List Pl) (p : Bs) : Bs := if hasS s p = true then p else []
def cdS (s : List Pl) (p : Bs) : Bool := hasS s p && dirS s p
theorem look_val {D : DataW Value} {s : List Pl} {V : Bs → Value} (h : MapS D s V) (hn : ∀ p, hasS s p = false → V p = .slice none 0 0) (p : Bs) {v : Value} {ps : List MemPlace} (hv : RV v = some (D.atKey (.string p) (.held (clV [] false (.slice none 0 0))), ps)) :
    v = clV (cpS s p) (cdS s p) (V p) := by
  unfold RV at hv
  injection hv with hv
  injection hv with hv
  cases hs : hasS s p with
  | true =>
    rw [h.2 p hs] at hv
    injection hv with hv
    rw [hv, cpS, cdS, if_pos hs, hs]
    simp
  | false =>
    rw [Maps.atKey_of_not_has (by rw [h.1]; exact hs)] at hv
    injection hv with hv
    rw [hv, cpS, cdS, if_neg (by rw [hs]; simp), hs, hn p hs]
    rfl
theorem MapS.put {D : DataW Value} {s : List Pl} {V : Bs → Value} (h : MapS D s V) (hD : Maps.IsMap D) (i : Nat) (x : Lf) (v' : Value) :
    MapS (D.put (.string x.p) (.held (clV x.p (dirS (s ++ [(i, x)]) x.p) v'))) (s ++ [(i, x)]) (fun p => if p = x.p then v' else V p) := by
  constructor
  · intro p
    rw [hasS_snoc]
    by_cases e : p = x.p
    · subst e
      rw [Maps.has_put_same hD (keyS _)]
      simp
    · have hne : (Lit.string p) ≠ .string x.p := fun k => e (by injection k)
      rw [Maps.has_put_other hne, h.1]
      have : (x.p == p) = false := by simpa using fun k => e k.symm
      simp [this]
  · intro p hp zd
    by_cases e : p = x.p
    · subst e
      show _ = DataW.held (clV _ _ (if x.p = x.p then v' else V x.p))
      rw [Maps.atKey_put_same hD (keyS _), if_pos rfl]
    · have hne : (Lit.string p) ≠ .string x.p := fun k => e (by injection k)
      have e2 : ¬ x.p = p := fun k => e k.symm
      rw [hasS_snoc] at hp
      have : (x.p == p) = false := by simpa using e2
      show _ = DataW.held (clV _ _ (if p = x.p then v' else V p))
      rw [Maps.atKey_put_other hne, if_neg e, dirS_snoc, if_neg e2]
      exact h.2 p (by simpa [this] using hp) zd
/-- One leaf more. -/
theorem Owned.step {w w1 w2 : World} {B b : Nat} {s : List Pl} {V : Bs → Value} (h : Owned w B b s V) (i : Nat) (x : Lf) {v' : Value} (hg1 : w.grownBy w1 (V x.p).ownBlock)
    (ho : w1.ownsRow B 3 1 v' ((ownS s x.p).length + 1) (natsV (ownS s x.p) ++ [i64 i])) (hat : v'.ownBlock = (V x.p).ownBlock ∨ v'.ownBlock = some w.heap.size) {D : DataW Value} (hD : w.ownsMap Tryz.prog 9 RV b s.length D) (hS : MapS D s V)
    (hg2 : w1.grownBy w2 (some b)) (hm : w2.ownsMap Tryz.prog 9 RV b (s.length + 1) (D.put (.string x.p) (.held (clV x.p (dirS (s ++ [(i, x)]) x.p) v')))) :
    Owned w2 B b (s ++ [(i, x)]) (fun p => if p = x.p then v' else V p) := by
  have hD1 : w1.ownsMap Tryz.prog 9 RV b s.length D := hD.kept hg1 (fun e => h.notm x.p e.symm)
  refine ⟨⟨_, by rw [List.length_append]; exact hm, hS.put hD.isMap i x v'⟩, h.low, ?_, ?_, ?_⟩
  · intro p hp
    rw [hasS_snoc, Bool.or_eq_false_iff] at hp
    have e : p ≠ x.p := fun k => by rw [k] at hp; simp at hp
    rw [if_neg e]
    exact h.nil p hp.1
  · intro p
    rw [ownS_snoc]
    by_cases e : p = x.p
    · subst e
      rw [if_pos rfl, if_pos rfl, List.length_append, natsV_app]
      exact owns_grown ho hg2 (fun r hr => by cases hr; exact map_not hD1 ho)
    · rw [if_neg e, if_neg (fun k => e k.symm)]
      refine owns_grown (owns_grown (h.row p) hg1 (fun r hr k => h.apart p x.p e r k hr)) hg2 (fun r hr => ?_)
      cases hr
      exact h.notm p
  · intro p q hpq g hp hq
    have old : ∀ z, z ≠ x.p → (V z).ownBlock = some g → v'.ownBlock = some g → False := fun z hz h1 h2 => by
      rcases hat with k | k
      · rw [k] at h2
        exact h.apart z x.p hz g h1 h2
      · rw [k] at h2
        cases h2
        have := (own_in (h.row z) h1).2
        omega
    by_cases e1 : p = x.p
    · have e2 : q ≠ x.p := fun k => hpq (e1.trans k.symm)
      rw [if_pos e1] at hp
      rw [if_neg e2] at hq
      exact old q e2 hq hp
    · rw [if_neg e1] at hp
      by_cases e2 : q = x.p
      · rw [if_pos e2] at hq
        exact old p e1 hp hq
      · rw [if_neg e2] at hq
        exact h.apart p q hpq g hp hq
theorem dir_step (s : List Pl) (i : Nat) (x : Lf) : dirS (s ++ [(i, x)]) x.p = (x.dir && (cdS s x.p || !hasS s x.p)) := by
  rw [dirS_snoc, if_pos rfl]
  unfold cdS
  cases hs : hasS s x.p with
  | true => cases dirS s x.p <;> cases x.dir <;> rfl
  | false => rw [dirS_none hs]; cases x.dir <;> rfl
end Go.Proofs.YtgmplpfbhcdofaaGreat
