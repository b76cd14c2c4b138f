/- Proved here: the same law for an iterator of whose values only so much is known. -/
import Derived.Test.YtgmplpfbhcdofaaGreatSeq
namespace Go.Proofs.YtgmplpfbhcdofaaGreat
open Go.RowKit Go.Shelf

/-- What an iterator of that kind does, its memory being the blocks of T (it writes to those of V alone): it hands xs over, one by one, until it is told to stop. -/
def HandsE {α : Type} (F : Fence) (n : Nat) (P : Program) (gf : Nat) (lb : Array Value) (T V : Nat → Prop) (E : α → Array Value → Prop) (xs : List α) (w : World) : Prop :=
  ∀ (l : Nat) (J Jx : List α → World → Prop) (W : World), Fix T w W → w.heap.size ≤ W.heap.size →
    (∀ pre X Y (row : Option Nat), J pre X → X.grownBy Y row → (∀ r, row = some r → V r) → J pre Y) →
    (∀ pre x args X, pre ++ [x] <+: xs → E x args → J pre X → W.heap.size ≤ X.heap.size → YieldAt F (n - 1) P l args X fun e Y =>
      (e = .returned (.bool true) ∧ J (pre ++ [x]) Y ∧ Fix T X Y ∧ W.heap.size ≤ Y.heap.size) ∨ (e = .returned (.bool false) ∧ Jx (pre ++ [x]) Y)) →
    J [] W →
    CallsIn F n P gf (#[.func (.yield l) #[] #[]] ++ lb) W fun e Y => (∃ v, e = .returned v) ∧ (J xs Y ∨ ∃ pre, Jx pre Y)

variable {F : Fence} {n : Nat} {P : Program}

theorem range_handsE {α : Type} {g : Operand} {ps : Array Tmp} {assign body : Code} {Q : Exit → Act → World → Prop} {a : Act} {w : World}
    (hro : F.round = none) (h1 : 1 ≤ n) {gf : Nat} {lb : Array Value} (hg : a.eval g = .func (.func gf) #[] lb) (hFg : F.fn gf) (eg : ∀ args w, (callFunc gf args).run P w = .ok (.enter gf args) w)
    (T V : Nat → Prop) (D : Nat) (hD : D = w.heap.size) (hTD : ∀ k, T k → k < D) (hVT : ∀ k, V k → T k) {E : α → Array Value → Prop} {xs : List α} (hit : HandsE F (n - 1) P gf lb T V E xs w) (hps : ∀ x args, E x args → ps.size = args.size)
    (I Ix : List α → World → Prop) (hI : Steady (fun k => V k ∨ k = D ∨ k = D + 1) I) (hIx : Steady (fun k => V k ∨ k = D ∨ k = D + 1) Ix) (h0 : I [] w)
    (a₁ : α → Array Value → Act)
    (hassign : ∀ l x args X (K : Act → World → Prop), E x args → K (a₁ x args) X → assign.wpIn (F.inRound l) (n - 1 - 1) P (Exit.then K (fun _ _ _ => False)) { tmps := (ps.zip args).foldl (fun t (p, v) => t.setIfInBounds p v) a.tmps, defers := [] } X)
    (hbody : ∀ l pre x args X, pre ++ [x] <+: xs → E x args → D + 2 ≤ X.heap.size → I pre X → body.wpIn (F.inRound l) (n - 1 - 1) P (Left (fun k => T k ∨ k = D ∨ k = D + 1) I Ix (pre ++ [x]) X) (a₁ x args) X)
    (hdone : ∀ X, I xs X → D + 2 ≤ X.heap.size → X.heap[D]? = some (.deferred (some [])) → Q .normal { a with defers := { target := .collected D, args := #[] } :: a.defers } X)
    (hstop : ∀ pre X, Ix pre X → D + 2 ≤ X.heap.size → X.heap[D]? = some (.deferred (some [])) → Code.ret.wpIn F n P Q { a with defers := { target := .collected D, args := #[] } :: a.defers } X) :
    (Code.rangeFunc g ps assign body).wpIn F n P Q a w := by
  refine wpIn_rangeFunc fun fn hfn => ?_
  rw [hro]
  let R : LoopState → Option Code → Obj := fun st j => .loop { state := st, pending := j, fn := fn, tmps := a.tmps, params := ps, assign := assign, body := body, defers := w.heap.size }
  let w1 : World := (w.alloc (.deferred (some []))).alloc (R .ready none)
  have s1 : w1.heap.size = D + 2 := by simp [w1]; omega
  have r1 : w1.heap[D + 1]? = some (R .ready none) := by
    have := World.alloc_heap_new (w.alloc (.deferred (some []))) (R .ready none)
    rwa [World.size_alloc, ← hD] at this
  have d1 : w1.heap[D]? = some (.deferred (some [])) := by
    have := World.alloc_heap_new w (.deferred (some []))
    rw [← hD] at this
    exact (Below.heap_alloc _ _ _ (by simp; omega)).trans this
  have i1 : I [] w1 := hI _ _ _ none (hI _ _ _ none h0 (World.grownBy_alloc _ _ _) (fun r e => by cases e)) (World.grownBy_alloc _ _ _) (fun r e => by cases e)
  have f1 : Fix T w w1 := fun k hk => by
    have := hTD k hk
    exact (Below.heap_alloc _ _ _ (by simp; omega)).trans (Below.heap_alloc _ _ _ (by omega))
  have hnD : ¬ T D := fun h => by have := hTD _ h; omega
  have hnD1 : ¬ T (D + 1) := fun h => by have := hTD _ h; omega
  have turn : ∀ {S : List α → World → Prop}, Steady (fun k => V k ∨ k = D ∨ k = D + 1) S → ∀ {ys X} o, S ys X → S ys (X.putObj (D + 1) o) := fun hV _ _ o hx => hV _ _ _ (some (D + 1)) hx (grownBy_putObj' _ _ _) (fun r e => by cases e; exact .inr (.inr rfl))
  let J : List α → World → Prop := fun ys X => I ys X ∧ X.heap[D + 1]? = some (R .ready none) ∧ X.heap[D]? = some (.deferred (some []))
  let Jx : List α → World → Prop := fun ys X => Ix ys X ∧ X.heap[D + 1]? = some (R .done (some .ret)) ∧ X.heap[D]? = some (.deferred (some []))
  refine ⟨D + 1, [{ target := .collected D, args := #[] }], w1, { target := .fn (.func gf) lb, args := #[.func (.yield (D + 1)) #[] #[]] }, w1, gf, #[.func (.yield (D + 1)) #[] #[]] ++ lb, w1, ?_, ?_, ?_, ?_, fun _ => h1, ?_⟩
  · have := run_enterLoop_outer (P := P) (w := w) fn a.tmps ps assign body
    rw [this, ← hD]
    simp only [w1, R, hD]
  · simp only [resolve, hg]
    simp [go_sem]
  · intro f' e
    simp [Target.leads] at e
    subst e
    exact hFg
  · simp [invoke, go_sem, eg]
  · refine (hit (D + 1) J Jx w1 f1 (by omega) (fun ys X Y row hx hg hr => ?_) (fun pre x args X hpre hE hx hsz => ?_) ⟨i1, r1, d1⟩).mono ?_
    · obtain ⟨hi, hr1, hd1⟩ := hx
      have hl1 := (Array.getElem?_eq_some_iff.1 hr1).1
      have hl2 := (Array.getElem?_eq_some_iff.1 hd1).1
      refine ⟨hI _ _ _ row hi hg (fun r e => .inl (hr r e)), (hg.block _ hl1 (fun e => hnD1 (hVT _ (hr _ e.symm)))).trans hr1, (hg.block _ hl2 (fun e => hnD (hVT _ (hr _ e.symm)))).trans hd1⟩
    · obtain ⟨hi, hr, hd⟩ := hx
      have hsz : D + 2 ≤ X.heap.size := by omega
      refine ⟨fn, _, assign, body, run_yield hr (hps x args hE).symm, roundIn_of_wpIn hfn (hassign _ x args X _ hE ⟨_, run_beginRound hr rfl, ?_⟩)⟩
      have hr2 := World.putObj_heap_same (w := X) (r := D + 1) (o := R .busy none) (by omega)
      have hd2 := (World.putObj_heap_other (w := X) (r := D + 1) (o := R .busy none) (k := D) (by omega)).trans hd
      refine wpIn_mono (hbody _ pre x args _ hpre hE (by simpa using hsz) (turn hI (R .busy none) hi)) ?_
      rintro e a3 Y hp
      have fin : ∀ (j : Option Code), Fix (fun k => T k ∨ k = D ∨ k = D + 1) (X.putObj (D + 1) (R .busy none)) Y → (Instr.endRound (D + 1) j).run P Y = .ok (.bool j.isNone) (Y.putObj (D + 1) (R (if j.isNone then .ready else .done) j)) ∧
          (Y.putObj (D + 1) (R (if j.isNone then .ready else .done) j)).heap[D + 1]? = some (R (if j.isNone then .ready else .done) j) ∧ (Y.putObj (D + 1) (R (if j.isNone then .ready else .done) j)).heap[D]? = some (.deferred (some [])) ∧ Fix T X (Y.putObj (D + 1) (R (if j.isNone then .ready else .done) j)) := by
        intro j hfx
        have hr3 := (hfx (D + 1) (.inr (.inr rfl))).trans hr2
        have hd3 := (hfx D (.inr (.inl rfl))).trans hd2
        exact ⟨run_endRound j hr3, World.putObj_heap_same (Array.getElem?_eq_some_iff.1 hr3).1, (World.putObj_heap_other (by omega)).trans hd3, ((Fix.put X _ hnD1).trans (hfx.part fun k h => .inl h)).trans (Fix.put Y _ hnD1)⟩
      cases e with
      | normal =>
        obtain ⟨hfx, hsY, hi2⟩ := hp
        obtain ⟨q1, q2, q3, q4⟩ := fin none hfx
        exact ⟨_, _, q1, .inl ⟨rfl, ⟨turn hI _ hi2, q2, q3⟩, q4, by simp at hsY ⊢; omega⟩⟩
      | ret =>
        obtain ⟨hfx, hi2⟩ := hp
        obtain ⟨q1, q2, q3, q4⟩ := fin (some .ret) hfx
        exact ⟨_, _, q1, .inr ⟨rfl, turn hIx _ hi2, q2, q3⟩⟩
      | exit id => exact hp.elim
      | goto t => exact hp.elim
      | panic c => exact hp.elim
      | outgrown => exact hp.elim
    · rintro e Y ⟨⟨v, rfl⟩, ⟨hi, hr, hd⟩ | ⟨pre, hi, hr, hd⟩⟩
      · exact ⟨none, _, run_endLoop hr (by simp), hdone _ (turn hI _ hi) (by have := (Array.getElem?_eq_some_iff.1 hr).1; simp; omega) ((World.putObj_heap_other (by omega)).trans hd)⟩
      · exact ⟨some .ret, _, run_endLoop hr (by simp), hstop pre _ (turn hIx _ hi) (by have := (Array.getElem?_eq_some_iff.1 hr).1; simp; omega) ((World.putObj_heap_other (by omega)).trans hd)⟩
end Go.Proofs.YtgmplpfbhcdofaaGreat
