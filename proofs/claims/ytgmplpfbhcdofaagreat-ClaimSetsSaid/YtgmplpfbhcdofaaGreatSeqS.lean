/- Proved here: a law for a range over a function whose iterator makes all its memory when it is called, and only reads it behind that. -/
import Derived.Test.YtgmplpfbhcdofaaGreatSeq
namespace Go.Proofs.YtgmplpfbhcdofaaGreat
open Go.RowKit Go.Shelf

/-- What an iterator of that kind does: called in W it makes memory, told by s, and hands xs over, one by one, until it is told to stop; R: the blocks of its memory. -/
def HandsS {α σ : Type} (F : Fence) (n : Nat) (P : Program) (gf : Nat) (lb : Array Value) (G : World → σ → World → Prop) (R : World → σ → Nat → Prop) (E : World → σ → α → Array Value → Prop) (xs : List α) (w : World) : Prop :=
  ∀ (l : Nat) (J Jx : σ → List α → World → Prop) (W : World), Below w.heap.size w W →
    (∀ s X, G W s X → J s [] X) →
    (∀ s pre X Y, J s pre X → Below X.heap.size X Y → J s pre Y) →
    (∀ s pre x args X, pre ++ [x] <+: xs → E W s x args → J s pre X → YieldAt F (n - 1) P l args X fun e Y =>
      (e = .returned (.bool true) ∧ J s (pre ++ [x]) Y ∧ Fix (R W s) X Y ∧ X.heap.size ≤ Y.heap.size) ∨ (e = .returned (.bool false) ∧ Jx s (pre ++ [x]) Y)) →
    CallsIn F n P gf (#[.func (.yield l) #[] #[]] ++ lb) W fun e Y => (∃ v, e = .returned v) ∧ ((∃ s, J s xs Y) ∨ ∃ s pre, Jx s pre Y)

variable {F : Fence} {n : Nat} {P : Program}

/-- How a round may be left. -/
def LeftS {α σ : Type} (Z : Nat → Prop) (D : Nat) (I Ix : σ → List α → World → Prop) (s : σ) (ys : List α) (X : World) : Exit → Act → World → Prop
  | .normal, _, Y => Fix Z X Y ∧ Fix (fun k => k = D ∨ k = D + 1) X Y ∧ X.heap.size ≤ Y.heap.size ∧ I s ys Y
  | .ret, _, Y => Fix (fun k => k = D ∨ k = D + 1) X Y ∧ Ix s ys Y
  | _, _, _ => False

theorem range_handsS {α σ : Type} {g : Operand} {ps : Array Tmp} {assign body : Code} {Q : Exit → Act → World → Prop} {a : Act} {w : World}
    (hro : F.round = none) (h1 : 1 ≤ n) {gf : Nat} {lb : Array Value} (hg : a.eval g = .func (.func gf) #[] lb) (hFg : F.fn gf) (eg : ∀ args w, (callFunc gf args).run P w = .ok (.enter gf args) w)
    (D : Nat) (hD : D = w.heap.size) {G : World → σ → World → Prop} {R : World → σ → Nat → Prop} {E : World → σ → α → Array Value → Prop} {xs : List α} (hit : HandsS F (n - 1) P gf lb G R E xs w) (hps : ∀ W s x args, E W s x args → ps.size = args.size)
    (hR : ∀ W s k, W.heap.size = D + 2 → R W s k → D + 2 ≤ k)
    (hG : ∀ W s X, G W s X → Below W.heap.size W X)
    (I Ix : σ → List α → World → Prop)
    (hI : ∀ s ys X Y (row : Option Nat), I s ys X → X.grownBy Y row → (∀ r, row = some r → r = D ∨ r = D + 1) → I s ys Y)
    (hIx : ∀ s ys X Y (row : Option Nat), Ix s ys X → X.grownBy Y row → (∀ r, row = some r → r = D ∨ r = D + 1) → Ix s ys Y)
    (h0 : ∀ W s X, Below w.heap.size w W → W.heap.size = D + 2 → G W s X → I s [] X)
    (hRI : ∀ W s ys X k, W.heap.size = D + 2 → I s ys X → R W s k → k < X.heap.size)
    (A : α → Array Value → Act → World → Prop)
    (hA : ∀ x args a' X Y (row : Option Nat), A x args a' X → X.grownBy Y row → (∀ r, row = some r → r = D ∨ r = D + 1) → A x args a' Y)
    (hassign : ∀ W l s x args X (K : Act → World → Prop), D + 2 ≤ X.heap.size → E W s x args → (∀ a' X', Below X.heap.size X X' → A x args a' X' → K a' X') → assign.wpIn (F.inRound l) (n - 1 - 1) P (Exit.then K (fun _ _ _ => False)) { tmps := (ps.zip args).foldl (fun t (p, v) => t.setIfInBounds p v) a.tmps, defers := [] } X)
    (hbody : ∀ W l s pre x args a' X, W.heap.size = D + 2 → pre ++ [x] <+: xs → E W s x args → D + 2 ≤ X.heap.size → I s pre X → A x args a' X → body.wpIn (F.inRound l) (n - 1 - 1) P (LeftS (R W s) D I Ix s (pre ++ [x]) X) a' X)
    (hdone : ∀ s X, I s xs X → D + 2 ≤ X.heap.size → X.heap[D]? = some (.deferred (some [])) → Q .normal { a with defers := { target := .collected D, args := #[] } :: a.defers } X)
    (hstop : ∀ s pre X, Ix s pre X → D + 2 ≤ X.heap.size → X.heap[D]? = some (.deferred (some [])) → Code.ret.wpIn F n P Q { a with defers := { target := .collected D, args := #[] } :: a.defers } X) :
    (Code.rangeFunc g ps assign body).wpIn F n P Q a w := by
  refine wpIn_rangeFunc fun fn hfn => ?_
  rw [hro]
  let O : LoopState → Option Code → Obj := fun st j => .loop { state := st, pending := j, fn := fn, tmps := a.tmps, params := ps, assign := assign, body := body, defers := w.heap.size }
  let w1 : World := (w.alloc (.deferred (some []))).alloc (O .ready none)
  have s1 : w1.heap.size = D + 2 := by simp [w1]; omega
  have r1 : w1.heap[D + 1]? = some (O .ready none) := by
    have := World.alloc_heap_new (w.alloc (.deferred (some []))) (O .ready none)
    rwa [World.size_alloc, ← hD] at this
  have d1 : w1.heap[D]? = some (.deferred (some [])) := by
    have := World.alloc_heap_new w (.deferred (some []))
    rw [← hD] at this
    exact (Below.heap_alloc _ _ _ (by simp; omega)).trans this
  have b1 : Below w.heap.size w w1 := ((Below.refl _ w).alloc (Nat.le_refl _) _).alloc (by simp) _
  have turn : ∀ {S : σ → List α → World → Prop}, (∀ s ys X Y (row : Option Nat), S s ys X → X.grownBy Y row → (∀ r, row = some r → r = D ∨ r = D + 1) → S s ys Y) → ∀ {s ys X} o, S s ys X → S s ys (X.putObj (D + 1) o) := fun hV _ _ _ o hx => hV _ _ _ _ (some (D + 1)) hx (grownBy_putObj' _ _ _) (fun r e => by cases e; exact .inr rfl)
  let J : σ → List α → World → Prop := fun s ys X => I s ys X ∧ X.heap[D + 1]? = some (O .ready none) ∧ X.heap[D]? = some (.deferred (some []))
  let Jx : σ → List α → World → Prop := fun s ys X => Ix s ys X ∧ X.heap[D + 1]? = some (O .done (some .ret)) ∧ X.heap[D]? = some (.deferred (some []))
  refine ⟨D + 1, [{ target := .collected D, args := #[] }], w1, { target := .fn (.func gf) lb, args := #[.func (.yield (D + 1)) #[] #[]] }, w1, gf, #[.func (.yield (D + 1)) #[] #[]] ++ lb, w1, ?_, ?_, ?_, ?_, fun _ => h1, ?_⟩
  · have := run_enterLoop_outer (P := P) (w := w) fn a.tmps ps assign body
    rw [this, ← hD]
    simp only [w1, O, hD]
  · simp only [resolve, hg]
    simp [go_sem]
  · intro f' e
    simp [Target.leads] at e
    subst e
    exact hFg
  · simp [invoke, go_sem, eg]
  · refine (hit (D + 1) J Jx w1 b1 (fun s X hg0 => ?_) (fun s pre X Y hx hb => ?_) (fun s pre x args X hpre hE hx => ?_)).mono ?_
    · have hb := hG _ _ _ hg0
      rw [s1] at hb
      exact ⟨h0 w1 s X b1 s1 hg0, (hb.block _ (by omega)).trans r1, (hb.block _ (by omega)).trans d1⟩
    · obtain ⟨hi, hr, hd⟩ := hx
      exact ⟨hI _ _ _ _ none hi ⟨hb.os, hb.tape, hb.output, hb.size, fun k hk _ => hb.block k hk⟩ (fun r e => by cases e), (hb.block _ (Array.getElem?_eq_some_iff.1 hr).1).trans hr, (hb.block _ (Array.getElem?_eq_some_iff.1 hd).1).trans hd⟩
    · obtain ⟨hi, hr, hd⟩ := hx
      have hsz : D + 2 ≤ X.heap.size := by have := (Array.getElem?_eq_some_iff.1 hr).1; omega
      refine ⟨fn, _, assign, body, run_yield hr (hps _ _ x args hE).symm, roundIn_of_wpIn hfn (hassign w1 _ s x args X _ hsz hE fun a' X' hb' hA' => ⟨_, run_beginRound ((hb'.block _ (by omega)).trans hr) rfl, ?_⟩)⟩
      have hsz' : D + 2 ≤ X'.heap.size := Nat.le_trans hsz hb'.size
      have hd' := (hb'.block D (by omega)).trans hd
      have hr' := (hb'.block (D + 1) (by omega)).trans hr
      have hi' : I s pre X' := hI _ _ _ _ none hi ⟨hb'.os, hb'.tape, hb'.output, hb'.size, fun k hk _ => hb'.block k hk⟩ (fun r e => by cases e)
      have hr2 := World.putObj_heap_same (w := X') (r := D + 1) (o := O .busy none) (by omega)
      have hd2 := (World.putObj_heap_other (w := X') (r := D + 1) (o := O .busy none) (k := D) (by omega)).trans hd'
      have hA2 := hA _ _ _ _ _ (some (D + 1)) hA' (grownBy_putObj' X' (D + 1) (O .busy none)) (fun r e => by cases e; exact .inr rfl)
      refine wpIn_mono (hbody w1 _ s pre x args a' _ s1 hpre hE (by simpa using hsz') (turn hI (O .busy none) hi') hA2) ?_
      rintro e a3 Y hp
      have fin : ∀ (j : Option Code), Fix (fun k => k = D ∨ k = D + 1) (X'.putObj (D + 1) (O .busy none)) Y → (Instr.endRound (D + 1) j).run P Y = .ok (.bool j.isNone) (Y.putObj (D + 1) (O (if j.isNone then .ready else .done) j)) ∧
          (Y.putObj (D + 1) (O (if j.isNone then .ready else .done) j)).heap[D + 1]? = some (O (if j.isNone then .ready else .done) j) ∧ (Y.putObj (D + 1) (O (if j.isNone then .ready else .done) j)).heap[D]? = some (.deferred (some [])) := by
        intro j hfx
        have hr3 := (hfx (D + 1) (.inr rfl)).trans hr2
        have hd3 := (hfx D (.inl rfl)).trans hd2
        exact ⟨run_endRound j hr3, World.putObj_heap_same (Array.getElem?_eq_some_iff.1 hr3).1, (World.putObj_heap_other (by omega)).trans hd3⟩
      cases e with
      | normal =>
        obtain ⟨hfx, hfd, hsY, hi2⟩ := hp
        obtain ⟨q1, q2, q3⟩ := fin none hfd
        refine ⟨_, _, q1, .inl ⟨rfl, ⟨turn hI _ hi2, q2, q3⟩, fun k hk => ?_, ?_⟩⟩
        · have k1 := hR _ _ _ s1 hk
          have k2 := hRI _ _ _ _ _ s1 hi hk
          rw [World.putObj_heap_other (by omega), hfx k hk, World.putObj_heap_other (by omega), hb'.block k k2]
        · have := hb'.size
          simp at hsY ⊢
          omega
      | ret =>
        obtain ⟨hfd, hi2⟩ := hp
        obtain ⟨q1, q2, q3⟩ := fin (some .ret) hfd
        exact ⟨_, _, q1, .inr ⟨rfl, turn hIx _ hi2, q2, q3⟩⟩
      | exit id => exact hp.elim
      | goto t => exact hp.elim
      | panic c => exact hp.elim
      | outgrown => exact hp.elim
    · rintro e Y ⟨⟨v, rfl⟩, ⟨s, hi, hr, hd⟩ | ⟨s, pre, hi, hr, hd⟩⟩
      · exact ⟨none, _, run_endLoop hr (by simp), hdone _ _ (turn hI _ hi) (by have := (Array.getElem?_eq_some_iff.1 hr).1; simp; omega) ((World.putObj_heap_other (by omega)).trans hd)⟩
      · exact ⟨some .ret, _, run_endLoop hr (by simp), hstop _ pre _ (turn hIx _ hi) (by have := (Array.getElem?_eq_some_iff.1 hr).1; simp; omega) ((World.putObj_heap_other (by omega)).trans hd)⟩
end Go.Proofs.YtgmplpfbhcdofaaGreat
