/- Proved here: a region that draws its order may be walked in a round of a range over a function as it is walked elsewhere. -/
import Derived.Test.YtiakedoebecgpaaDoorWRange
namespace Go.Proofs.YtiakedoebecgpaaDoor
open Go.RowKit Go.Shelf

/-- Nothing but the plain end. -/
def Plainly (Post : Act → World → Prop) : Exit → Act → World → Prop
  | .normal, a, w => Post a w
  | _, _, _ => False
theorem plainly_in (Post : Act → World → Prop) : ¬ LetsOut (Plainly Post) := fun ⟨_, _, h⟩ => h
theorem rowsIn_wide {P : Program} {n : Nat} {row : String} {args : Array Value} {w : World} {R : Value → World → Prop} (l : Nat) (h : Rows P row args w R) : RowsIn (Fence.wide.inRound l) n P row args w R := fun c cs _ => by
  obtain ⟨v, w', hr, hs⟩ := h c cs
  exact ⟨v, w', hr, StepsIn.mono (fun m _ => fenced_wide P m) (StepsIn.of_steps hs)⟩
theorem upon_round {P : Program} {o : Oper} {a : Act} {K K' : Act → World → Prop} {Q : Exit → Act → World → Prop} {n : Nat} (l : Nat) (hk : ∀ a w, K a w → K' a w) (r : Result Next) (h : o.upon P a K Q r) : o.uponIn (Fence.wide.inRound l) n P a K' Q r := by
  cases r with
  | ok x w' =>
    cases x with
    | value v => exact hk _ _ h
    | skip => exact hk _ _ h
    | defer d => exact hk _ _ h
    | enter f args =>
      refine ⟨fun k => (by cases k), CallsIn.inRound l (callsIn_wide.2 ?_)⟩
      refine Calls.mono h ?_
      intro e w'' he
      cases e with
      | returned v => exact hk _ _ he
      | panicked c => exact he
      | outgrown => exact he
    | row rw args =>
      refine ⟨fun k => (by cases k), rowsIn_wide l ?_⟩
      exact Rows.mono h fun v w'' hv => hk _ _ hv
    | _ => exact h.elim
  | halt x w' =>
    cases x with
    | panic v => exact h
    | _ => exact h.elim
theorem ops_round {P : Program} {ops : Array Oper} {Post : Act → World → Prop} {n : Nat} (l : Nat) (hd : ∀ (i : Nat) (o : Oper), ops[i]? = some o → ∀ c, o.op ≠ Op.defer c) : ∀ (L : List Nat) (a : Act) (w : World), wpOps P ops (Plainly Post) L a w → wpOpsIn (Fence.wide.inRound l) n P ops (Plainly Post) L a w := by
  intro L
  induction L with
  | nil => exact fun a w h => h
  | cons i rest ih =>
    intro a w h
    unfold wpOps at h
    unfold wpOpsIn
    cases e : ops[i]? with
    | none => rw [e] at h; exact ih _ _ h
    | some o =>
      rw [e] at h
      simp only at h ⊢
      split
      · rename_i hw
        rw [if_pos hw] at h
        rcases h with h | ⟨_, h⟩
        · refine ⟨fun _ _ => trivial, ?_⟩
          rw [Oper.semAt_eq _ _ _ (hd i o e)]
          exact upon_round l ih _ h
        · exact (plainly_in Post h).elim
      · rename_i hw
        rw [if_neg hw] at h
        exact ⟨fun _ _ => trivial, ih _ _ h⟩
theorem region_round {P : Program} {ops : Array Oper} {id n l : Nat} {a : Act} {w : World} {Q : Exit → Act → World → Prop} {S : World → Prop} (hm : P.follows .mixedOrders = true) (hd : ops.all (fun o : Oper => match o.op with | .defer _ => false | _ => true) = true) (hS : S w.drew)
    (h : S w.drew → wpAnyH P .any ops (Plainly fun a' w' => Q .normal a' w') S ops.size (Array.replicate ops.size false) a w.drew) : (Code.region id ops true).wpIn (Fence.wide.inRound l) n P Q a w := by
  have hd' : ∀ (i : Nat) (o : Oper), ops[i]? = some o → ∀ c, o.op ≠ Op.defer c := by
    intro i o ho c hc
    have hi := (Array.getElem?_eq_some_iff.1 ho).1
    have := Array.all_eq_true.1 hd i hi
    rw [(Array.getElem?_eq_some_iff.1 ho).2, hc] at this
    cases this
  refine Code.wpIn_mono (Q := Plainly fun a' w' => Q .normal a' w') ?_ (wpIn_region_draw fun t => ?_)
  · intro e a' w' he
    cases e with
    | normal => exact he
    | _ => exact he.elim
  · simp only [Region.schedule, hm, Bool.true_or, if_true]
    exact ops_round l hd' _ _ _ (wpAny_sound ops.size t _ a _ (wpAny_of_held _ _ _ _ (h hS)))
end Go.Proofs.YtiakedoebecgpaaDoor
