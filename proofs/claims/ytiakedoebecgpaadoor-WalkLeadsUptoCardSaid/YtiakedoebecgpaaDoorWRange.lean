/- Proved here: a law for a range over the parts of a way: what is to come stands in the way itself, and the rounds may put more of it ahead. -/
import Derived.Test.YtiakedoebecgpaaDoorWIter
namespace Go.Proofs.YtiakedoebecgpaaDoor
open Go.RowKit Go.Shelf

theorem cell_put {X : World} {r : Nat} {ob o : Obj} (hr : X.heap[r]? = some ob) (hc : ob.isCells = false) {g k : Nat} {u : Value} (h : X.cell? ⟨g, k, none⟩ = some u) : (X.putObj r o).cell? ⟨g, k, none⟩ = some u := by
  have hg : g ≠ r := by
    intro e
    subst e
    unfold World.cell? at h
    simp only [hr] at h
    cases ob <;> simp_all [Obj.isCells]
  unfold World.cell? at h ⊢
  rw [World.putObj_heap_other hg]
  exact h
theorem RdT.put {X : World} {q r : Nat} {v : Value} {l : List Str} {ob : Obj} (h : RdT X q v l) (hr : X.heap[r]? = some ob) (hc : ob.isCells = false) (o : Obj) : RdT (X.putObj r o) q v l := by
  obtain ⟨a, c, h1, h2, h3, h4, h5⟩ := h
  refine ⟨a, c, h1, h2, h3, h4, fun ad e => ?_⟩
  obtain ⟨g, k, e2, h6, h7, h8⟩ := h5 ad e
  exact ⟨g, k, e2, by simpa using h6, h7, fun j x hx => cell_put hr hc (h8 j x hx)⟩
theorem Box.put {X : World} {g r : Nat} {t : TypeId} {cs : Array Value} {ob : Obj} (h : Box X g t cs) (hr : X.heap[r]? = some ob) (hc : ob.isCells = false) (o : Obj) : Box (X.putObj r o) g t cs := by
  have hg : g ≠ r := by
    intro e
    subst e
    rw [show X.heap[g]? = _ from h] at hr
    cases hr
    cases hc
  exact (World.putObj_heap_other hg).trans h
theorem WayW.put {X : World} {q r : Nat} {fv : Value} {x : It} {L : List Str} {k : Nat} {ob : Obj} (h : WayW X q fv x L k) (hr : X.heap[r]? = some ob) (hc : ob.isCells = false) (o : Obj) : WayW (X.putObj r o) q fv x L k := by
  obtain ⟨rv, h1, h2⟩ := h
  exact ⟨rv, h1.put hr hc o, h2.put hr hc o⟩

/-- The two blocks of a loop's own are as they were. -/
def Fix2 (D : Nat) (X Y : World) : Prop := Y.heap[D]? = X.heap[D]? ∧ Y.heap[D + 1]? = X.heap[D + 1]?
theorem Fix2.grown {D q : Nat} {X Y : World} (hg : X.grownBy Y (some q)) (hq : q < D) (hs : D + 2 ≤ X.heap.size) : Fix2 D X Y :=
  ⟨hg.block D (by omega) (by intro e; injection e with e; omega), hg.block (D + 1) (by omega) (by intro e; injection e with e; omega)⟩
theorem Fix2.refl (D : Nat) (X : World) : Fix2 D X X := ⟨rfl, rfl⟩
/-- How a round may be left. -/
def LeftW (D q pb : Nat) (fv : Value) (K : It → List Str → Nat → World → Prop) (Kx : World → Prop) (id : Nat) (M : Nat) (X : World) : Exit → Act → World → Prop
  | .normal, _, Y => Fix2 D X Y ∧ ∃ m, m < M ∧ Mid q pb fv K m Y
  | .exit i, _, Y => i = id ∧ Fix2 D X Y ∧ Kx Y
  | _, _, _ => False

theorem range_walk {n : Nat} {g : Operand} {ps : Array Tmp} {assign body : Code} {Q : Exit → Act → World → Prop} {a : Act} {w : World} (h1 : 1 ≤ n) (h2 : 1 ≤ n - 1) (q pb id : Nat) (fv : Value)
    (hg : a.eval g = .func (.func 124) #[] #[.pointer (some ⟨pb, 0, none⟩)]) (eg : ∀ args w, (callFunc 124 args).run Tryd.prog w = .ok (.enter 124 args) w) (D : Nat) (hD : D = w.heap.size) (hq : q < D) (hpq : pb ≠ q) (hps : ps.size = 1)
    (K : It → List Str → Nat → World → Prop) (Kx : World → Prop)
    (hK : ∀ x L k X Y row, K x L k X → X.grownBy Y row → (∀ r, row = some r → r = q ∨ r = D ∨ r = D + 1) → K x L k Y)
    (hKx : ∀ X Y row, Kx X → X.grownBy Y row → (∀ r, row = some r → r = D ∨ r = D + 1) → Kx Y)
    (m0 : Nat) (h0 : Mid q pb fv K m0 w) (a₁ : Str → Act)
    (hassign : ∀ l x X (KK : Act → World → Prop), KK (a₁ x) X → assign.wpIn (Fence.wide.inRound l) (n - 1 - 1) Tryd.prog (Exit.then KK (fun _ _ _ => False)) { tmps := (ps.zip #[.string ⟨x.toArray⟩]).foldl (fun t (p, v) => t.setIfInBounds p v) a.tmps, defers := [] } X)
    (hbody : ∀ l x part L k X, D + 2 ≤ X.heap.size → WayW X q fv x L k → Box X pb 140 #[.pointer (some ⟨q, 0, none⟩)] → K x (part :: L) k X → body.wpIn (Fence.wide.inRound l) (n - 1 - 1) Tryd.prog (LeftW D q pb fv K Kx id (mM (part :: L) k) X) (a₁ part) X)
    (hdone : ∀ x k X, WayW X q fv x [] k → K x [] k X → X.heap[D]? = some (.deferred (some [])) → Q .normal { a with defers := { target := .collected D, args := #[] } :: a.defers } X)
    (hstop : ∀ X, Kx X → X.heap[D]? = some (.deferred (some [])) → (Code.exit id).wpIn Fence.wide n Tryd.prog Q { a with defers := { target := .collected D, args := #[] } :: a.defers } X) :
    (Code.rangeFunc g ps assign body).wpIn Fence.wide n Tryd.prog Q a w := by
  refine wpIn_rangeFunc fun fn hfn => ?_
  have hro : Fence.wide.round = none := rfl
  rw [hro]
  let R : LoopState → Option Code → Obj := fun st j => .loop { state := st, pending := j, fn := fn, tmps := a.tmps, params := ps, assign := assign, body := body, defers := w.heap.size }
  let w1 : World := (w.alloc (.deferred (some []))).alloc (R .ready none)
  have s1 : w1.heap.size = D + 2 := by simp [w1]; omega
  have r1 : w1.heap[D + 1]? = some (R .ready none) := by
    have := World.alloc_heap_new (w.alloc (.deferred (some []))) (R .ready none)
    rwa [World.size_alloc, ← hD] at this
  have d1 : w1.heap[D]? = some (.deferred (some [])) := by
    have := World.alloc_heap_new w (.deferred (some []))
    rw [← hD] at this
    exact (Below.heap_alloc _ _ _ (by simp; omega)).trans this
  have g1 : w.grownBy w1 none := (World.grownBy_alloc _ _ _).trans (World.grownBy_alloc _ _ _)
  have i1 : ∃ x L k, mM L k = m0 ∧ WayW w1 q fv x L k ∧ Box w1 pb 140 #[.pointer (some ⟨q, 0, none⟩)] ∧ K x L k w1 := by
    obtain ⟨x, L, k, e1, e2, e3, e4⟩ := h0
    exact ⟨x, L, k, e1, e2.grown g1, e3.kept g1 (by simp), hK _ _ _ _ _ none e4 g1 (fun r e => by cases e)⟩
  -- between two rounds
  let K' : It → List Str → Nat → World → Prop := fun x L k X => K x L k X ∧ X.heap[D + 1]? = some (R .ready none) ∧ X.heap[D]? = some (.deferred (some []))
  let Kx' : World → Prop := fun X => Kx X ∧ X.heap[D + 1]? = some (R .done (some (.exit id))) ∧ X.heap[D]? = some (.deferred (some []))
  refine ⟨D + 1, [{ target := .collected D, args := #[] }], w1, { target := .fn (.func 124) #[.pointer (some ⟨pb, 0, none⟩)], args := #[.func (.yield (D + 1)) #[] #[]] }, w1, 124, #[.func (.yield (D + 1)) #[] #[]] ++ #[.pointer (some ⟨pb, 0, none⟩)], w1, ?_, ?_, ?_, ?_, fun _ => h1, ?_⟩
  · have := run_enterLoop_outer (P := Tryd.prog) (w := w) fn a.tmps ps assign body
    rw [this, ← hD]
    simp only [w1, R, hD]
  · simp only [resolve, hg]
    simp [go_sem]
  · intro f' e
    trivial
  · simp [invoke, go_sem, eg]
  · refine (parts_run (n - 1) h2 (D + 1) q pb fv K' Kx' (fun x L k X Y hx hgr => ?_) hpq (fun x part L k X hW hB hx => ?_) m0 w1 (by
        obtain ⟨x, L, k, e1, e2, e3, e4⟩ := i1
        exact ⟨x, L, k, e1, e2, e3, e4, r1, d1⟩)).mono ?_
    · have hs : D + 2 ≤ X.heap.size := by
        have := (Array.getElem?_eq_some_iff.1 hx.2.1).1
        omega
      have hf := Fix2.grown hgr hq hs
      exact ⟨hK _ _ _ _ _ (some q) hx.1 hgr (fun r e => by cases e; exact .inl rfl), hf.2.trans hx.2.1, hf.1.trans hx.2.2⟩
    · obtain ⟨hk, hr, hd⟩ := hx
      have hsz : D + 2 ≤ X.heap.size := by
        have := (Array.getElem?_eq_some_iff.1 hr).1
        omega
      refine ⟨fn, _, assign, body, run_yield hr (by simp [hps]), roundIn_of_wpIn hfn (hassign _ part X _ ⟨_, run_beginRound hr rfl, ?_⟩)⟩
      have hr2 := World.putObj_heap_same (w := X) (r := D + 1) (o := R .busy none) (by omega)
      have hd2 := (World.putObj_heap_other (w := X) (r := D + 1) (o := R .busy none) (k := D) (by omega)).trans hd
      have hk2 : K x (part :: L) k (X.putObj (D + 1) (R .busy none)) := hK _ _ _ _ _ (some (D + 1)) hk (grownBy_putObj' _ _ _) (fun r e => by cases e; exact .inr (.inr rfl))
      refine wpIn_mono (hbody _ x part L k _ (by simpa using hsz) (hW.put hr rfl _) (hB.put hr rfl _) hk2) ?_
      rintro e a3 Y hp
      have fin : ∀ (j : Option Code), Fix2 D (X.putObj (D + 1) (R .busy none)) Y → (Instr.endRound (D + 1) j).run Tryd.prog Y = .ok (.bool j.isNone) (Y.putObj (D + 1) (R (if j.isNone then .ready else .done) j)) ∧
          (Y.putObj (D + 1) (R (if j.isNone then .ready else .done) j)).heap[D + 1]? = some (R (if j.isNone then .ready else .done) j) ∧ (Y.putObj (D + 1) (R (if j.isNone then .ready else .done) j)).heap[D]? = some (.deferred (some [])) ∧ Y.heap[D + 1]? = some (R .busy none) := by
        intro j hfx
        have hr3 := hfx.2.trans hr2
        have hd3 := hfx.1.trans hd2
        exact ⟨run_endRound j hr3, World.putObj_heap_same (Array.getElem?_eq_some_iff.1 hr3).1, (World.putObj_heap_other (by omega)).trans hd3, hr3⟩
      cases e with
      | normal =>
        obtain ⟨hfx, m, hm, x2, L2, k2, e1, e2, e3, e4⟩ := hp
        obtain ⟨q1, q2, q3, q4⟩ := fin none hfx
        exact ⟨_, _, q1, .inl ⟨rfl, m, hm, x2, L2, k2, e1, e2.put q4 rfl _, e3.put q4 rfl _, hK _ _ _ _ _ (some (D + 1)) e4 (grownBy_putObj' _ _ _) (fun r e => by cases e; exact .inr (.inr rfl)), q2, q3⟩⟩
      | exit i =>
        obtain ⟨rfl, hfx, hx2⟩ := hp
        obtain ⟨q1, q2, q3, q4⟩ := fin (some (.exit i)) hfx
        exact ⟨_, _, q1, .inr ⟨rfl, hKx _ _ (some (D + 1)) hx2 (grownBy_putObj' _ _ _) (fun r e => by cases e; exact .inr rfl), q2, q3⟩⟩
      | ret => exact hp.elim
      | goto t => exact hp.elim
      | panic c => exact hp.elim
      | outgrown => exact hp.elim
    · rintro e Y ⟨⟨v, rfl⟩, ⟨x, k, hW, hk, hr, hd⟩ | ⟨hx, hr, hd⟩⟩
      · exact ⟨none, _, run_endLoop hr (by simp), hdone x k _ (hW.put hr rfl _) (hK _ _ _ _ _ (some (D + 1)) hk (grownBy_putObj' _ _ _) (fun r e => by cases e; exact .inr (.inr rfl))) ((World.putObj_heap_other (by omega)).trans hd)⟩
      · exact ⟨some (.exit id), _, run_endLoop hr (by simp), hstop _ (hKx _ _ (some (D + 1)) hx (grownBy_putObj' _ _ _) (fun r e => by cases e; exact .inr rfl)) ((World.putObj_heap_other (by omega)).trans hd)⟩
end Go.Proofs.YtiakedoebecgpaaDoor
