/- Proved here: a law for a range over a function whose iterator keeps what is left in a captured variable and writes it between two rounds. -/
import Derived.RangeFuncNested
import Derived.RangeFuncRecord
import Derived.OwnWalkIn
import Derived.WalkKit
import Derived.TacticsInMore
import Derived.LoopNIn
import Derived.LoopIn
import Derived.RangeFuncCalls
import Derived.RangeFuncLeaves
import Derived.Test.YtjekibhaabkecaaDoorCut
namespace Go.Proofs.YtjekibhaabkecaaDoor
open Go.RowKit Go.Shelf

/-- It hangs on no block from lo up to hi: whatever is done to these, or laid anew. -/
def Steady {β : Type} (lo hi : Nat) (I : β → World → Prop) : Prop :=
  ∀ s X Y (row : Option Nat), I s X → X.grownBy Y row → (∀ r, row = some r → lo ≤ r ∧ r < hi) → I s Y
/-- The blocks from lo up to hi are as they were. -/
def Fix (lo hi : Nat) (X Y : World) : Prop := ∀ k, lo ≤ k → k < hi → Y.heap[k]? = X.heap[k]?
theorem Fix.refl (lo hi : Nat) (X : World) : Fix lo hi X X := fun _ _ _ => rfl
theorem Fix.trans {lo hi : Nat} {X Y Z : World} (h : Fix lo hi X Y) (k : Fix lo hi Y Z) : Fix lo hi X Z := fun i a b => (k i a b).trans (h i a b)
theorem Fix.part {lo hi hi' : Nat} {X Y : World} (h : Fix lo hi X Y) (le : hi' ≤ hi) : Fix lo hi' X Y := fun i a b => h i a (by omega)
theorem Fix.put {lo hi l : Nat} (X : World) (o : Obj) (hl : hi ≤ l) : Fix lo hi X (X.putObj l o) := fun i _ b => World.putObj_heap_other (by omega)
theorem Fix.below {lo hi B : Nat} {X Y : World} (h : Below B X Y) (hB : hi ≤ B) : Fix lo hi X Y := fun i _ b => h.block i (by omega)
theorem Fix.cell {lo hi : Nat} {X Y : World} (h : Fix lo hi X Y) {b : Nat} (hb : b < lo) (u : Value) : Fix lo hi X (Y.setCell ⟨b, 0, none⟩ u) := h.trans fun i a _ => Below.heap_setCell _ _ _ _ (by simp; omega)
theorem Fix.box {lo hi k : Nat} {t : TypeId} {v : Value} {X Y : World} (h : Fix lo hi X Y) (b : Boxed X k t v) (h1 : lo ≤ k) (h2 : k < hi) : Boxed Y k t v := (h k h1 h2).trans b

/-- What an iterator of that kind does, its box being the block lo and two more behind it: it hands xs over, one by one, until it is told to stop. -/
def Hands {α : Type} (F : Fence) (n : Nat) (P : Program) (gf : Nat) (lb : Array Value) (lo : Nat) (enc : α → Value) (xs : List α) (w : World) : Prop :=
  ∀ (l : Nat) (J Jx : List α → World → Prop) (W : World), Fix lo (lo + 3) w W →
    (∀ pre X v, J pre X → J pre (X.setCell ⟨lo, 0, none⟩ v)) →
    (∀ pre x X, pre ++ [x] <+: xs → J pre X → YieldAt F (n - 1) P l #[enc x] X fun e Y =>
      (e = .returned (.bool true) ∧ J (pre ++ [x]) Y ∧ Fix lo (lo + 3) X Y) ∨ (e = .returned (.bool false) ∧ Jx (pre ++ [x]) Y)) →
    J [] W →
    CallsIn F n P gf (#[.func (.yield l) #[] #[]] ++ lb) W fun e Y => (∃ v, e = .returned v) ∧ (J xs Y ∨ ∃ pre, Jx pre Y)

variable {F : Fence} {n : Nat} {P : Program}

/-- How a round may be left. -/
def Left {α : Type} (lo hi : Nat) (I Ix : List α → World → Prop) (ys : List α) (X : World) : Exit → Act → World → Prop
  | .normal, _, Y => Fix lo hi X Y ∧ I ys Y
  | .ret, _, Y => Fix lo hi X Y ∧ Ix ys Y
  | _, _, _ => False

theorem range_hands {α : Type} {g : Operand} {ps : Array Tmp} {assign body : Code} {Q : Exit → Act → World → Prop} {a : Act} {w : World}
    (hro : F.round = none) (h1 : 1 ≤ n) {gf : Nat} {lb : Array Value} (hg : a.eval g = .func (.func gf) #[] lb) (hFg : F.fn gf) (eg : ∀ args w, (callFunc gf args).run P w = .ok (.enter gf args) w)
    (lo : Nat) (hlo : lo + 3 = w.heap.size) {enc : α → Value} {xs : List α} (hit : Hands F (n - 1) P gf lb lo enc xs w) (hps : ps.size = 1)
    (I Ix : List α → World → Prop) (hI : Steady lo (lo + 5) I) (hIx : Steady lo (lo + 5) Ix) (h0 : I [] w)
    (a₁ : α → Act)
    (hassign : ∀ l x X (K : Act → World → Prop), K (a₁ x) X → assign.wpIn (F.inRound l) (n - 1 - 1) P (Exit.then K (fun _ _ _ => False)) { tmps := (ps.zip #[enc x]).foldl (fun t (p, v) => t.setIfInBounds p v) a.tmps, defers := [] } X)
    (hbody : ∀ l pre x X, pre ++ [x] <+: xs → lo + 5 ≤ X.heap.size → I pre X → body.wpIn (F.inRound l) (n - 1 - 1) P (Left lo (lo + 5) I Ix (pre ++ [x]) X) (a₁ x) X)
    (hdone : ∀ X, I xs X → X.heap[lo + 3]? = some (.deferred (some [])) → Q .normal { a with defers := { target := .collected (lo + 3), args := #[] } :: a.defers } X)
    (hstop : ∀ pre X, Ix pre X → X.heap[lo + 3]? = some (.deferred (some [])) → Code.ret.wpIn F n P Q { a with defers := { target := .collected (lo + 3), args := #[] } :: a.defers } X) :
    (Code.rangeFunc g ps assign body).wpIn F n P Q a w := by
  refine wpIn_rangeFunc fun fn hfn => ?_
  rw [hro]
  -- the record of this loop, in whatever state
  let R : LoopState → Option Code → Obj := fun st j => .loop { state := st, pending := j, fn := fn, tmps := a.tmps, params := ps, assign := assign, body := body, defers := w.heap.size }
  have eD : w.heap.size = lo + 3 := hlo.symm
  let w1 : World := (w.alloc (.deferred (some []))).alloc (R .ready none)
  have s1 : w1.heap.size = lo + 5 := by simp [w1]; omega
  have r1 : w1.heap[lo + 4]? = some (R .ready none) := by
    have := World.alloc_heap_new (w.alloc (.deferred (some []))) (R .ready none)
    rwa [World.size_alloc, eD] at this
  have d1 : w1.heap[lo + 3]? = some (.deferred (some [])) := by
    have := World.alloc_heap_new w (.deferred (some []))
    rw [eD] at this
    exact (Below.heap_alloc _ _ _ (by simp; omega)).trans this
  have i1 : I [] w1 := hI _ _ _ none (hI _ _ _ none h0 (World.grownBy_alloc _ _ _) (fun r e => by cases e)) (World.grownBy_alloc _ _ _) (fun r e => by cases e)
  have f1 : Fix lo (lo + 3) w w1 := fun k _ hk => (Below.heap_alloc _ _ _ (by simp; omega)).trans (Below.heap_alloc _ _ _ (by omega))
  have turn : ∀ {Z : List α → World → Prop}, Steady lo (lo + 5) Z → ∀ {ys X} k o, lo ≤ k → k < lo + 5 → Z ys X → Z ys (X.putObj k o) := fun hZ _ _ k o a b hx => hZ _ _ _ (some k) hx (grownBy_putObj' _ _ _) (fun r e => by cases e; exact ⟨a, b⟩)
  -- between two rounds
  let J : List α → World → Prop := fun ys X => I ys X ∧ X.heap[lo + 4]? = some (R .ready none) ∧ X.heap[lo + 3]? = some (.deferred (some []))
  let Jx : List α → World → Prop := fun ys X => Ix ys X ∧ X.heap[lo + 4]? = some (R .done (some .ret)) ∧ X.heap[lo + 3]? = some (.deferred (some []))
  refine ⟨lo + 4, [{ target := .collected (lo + 3), args := #[] }], w1, { target := .fn (.func gf) lb, args := #[.func (.yield (lo + 4)) #[] #[]] }, w1, gf, #[.func (.yield (lo + 4)) #[] #[]] ++ lb, w1, ?_, ?_, ?_, ?_, fun _ => h1, ?_⟩
  · have := run_enterLoop_outer (P := P) (w := w) fn a.tmps ps assign body
    rw [this, eD]
    simp only [w1, R, eD]
  · simp only [resolve, hg]
    simp [go_sem]
  · intro f' e
    simp [Target.leads] at e
    subst e
    exact hFg
  · simp [invoke, go_sem, eg]
  · refine (hit (lo + 4) J Jx w1 f1 (fun ys X v hx => ?_) (fun pre x X hpre hx => ?_) ⟨i1, r1, d1⟩).mono ?_
    · refine ⟨hI _ _ _ (some lo) hx.1 (grownBy_setCell' _ _ _) (fun r e => by cases e; omega), ?_, ?_⟩
      · rw [Below.heap_setCell _ _ _ _ (by simp)]; exact hx.2.1
      · rw [Below.heap_setCell _ _ _ _ (by simp)]; exact hx.2.2
    · obtain ⟨hi, hr, hd⟩ := hx
      have hsz : lo + 5 ≤ X.heap.size := (Array.getElem?_eq_some_iff.1 hr).1
      refine ⟨fn, _, assign, body, run_yield hr (by simp [hps]), roundIn_of_wpIn hfn (hassign _ x X _ ⟨_, run_beginRound hr rfl, ?_⟩)⟩
      have hr2 := World.putObj_heap_same (w := X) (r := lo + 4) (o := R .busy none) (by omega)
      have hd2 := (World.putObj_heap_other (w := X) (r := lo + 4) (o := R .busy none) (k := lo + 3) (by omega)).trans hd
      refine wpIn_mono (hbody _ pre x _ hpre (by simpa using hsz) (turn hI (lo + 4) (R .busy none) (by omega) (by omega) hi)) ?_
      rintro e a3 Y hp
      have fin : ∀ (j : Option Code), Fix lo (lo + 5) (X.putObj (lo + 4) (R .busy none)) Y → (Instr.endRound (lo + 4) j).run P Y = .ok (.bool j.isNone) (Y.putObj (lo + 4) (R (if j.isNone then .ready else .done) j)) ∧
          (Y.putObj (lo + 4) (R (if j.isNone then .ready else .done) j)).heap[lo + 4]? = some (R (if j.isNone then .ready else .done) j) ∧ (Y.putObj (lo + 4) (R (if j.isNone then .ready else .done) j)).heap[lo + 3]? = some (.deferred (some [])) := by
        intro j hfx
        have hr3 := (hfx (lo + 4) (by omega) (by omega)).trans hr2
        have hd3 := (hfx (lo + 3) (by omega) (by omega)).trans hd2
        exact ⟨run_endRound j hr3, World.putObj_heap_same (Array.getElem?_eq_some_iff.1 hr3).1, (World.putObj_heap_other (by omega)).trans hd3⟩
      cases e with
      | normal =>
        obtain ⟨hfx, hi2⟩ := hp
        obtain ⟨q1, q2, q3⟩ := fin none hfx
        exact ⟨_, _, q1, .inl ⟨rfl, ⟨turn hI (lo + 4) _ (by omega) (by omega) hi2, q2, q3⟩, (((Fix.put X _ (by omega)).trans (hfx.part (by omega))).trans (Fix.put Y _ (by omega)))⟩⟩
      | ret =>
        obtain ⟨hfx, hi2⟩ := hp
        obtain ⟨q1, q2, q3⟩ := fin (some .ret) hfx
        exact ⟨_, _, q1, .inr ⟨rfl, turn hIx (lo + 4) _ (by omega) (by omega) hi2, q2, q3⟩⟩
      | exit id => exact hp.elim
      | goto t => exact hp.elim
      | panic c => exact hp.elim
      | outgrown => exact hp.elim
    · rintro e Y ⟨⟨v, rfl⟩, ⟨hi, hr, hd⟩ | ⟨pre, hi, hr, hd⟩⟩
      · exact ⟨none, _, run_endLoop hr (by simp), hdone _ (turn hI (lo + 4) _ (by omega) (by omega) hi) ((World.putObj_heap_other (by omega)).trans hd)⟩
      · exact ⟨some .ret, _, run_endLoop hr (by simp), hstop pre _ (turn hIx (lo + 4) _ (by omega) (by omega) hi) ((World.putObj_heap_other (by omega)).trans hd)⟩
end Go.Proofs.YtjekibhaabkecaaDoor
