/- Proved here: a region that draws its order may be walked in a round of a range over a function, and in an iterator's own text, as it is walked elsewhere. -/
import Derived.Test.YtgmplpfbhcdofaaGreatSeqE
import Derived.StillTailTactics
import Derived.OrdersHeld
namespace Go.Proofs.YtgmplpfbhcdofaaGreat
open Go.RowKit Go.Shelf

/-- Nothing but the plain end. -/
def Plainly (Post : Act → World → Prop) : Exit → Act → World → Prop
  | .normal, a, w => Post a w
  | _, _, _ => False
theorem plainly_in (Post : Act → World → Prop) : ¬ LetsOut (Plainly Post) := fun ⟨_, _, h⟩ => h
theorem rowsIn_wide {P : Program} {n : Nat} {row : String} {args : Array Value} {w : World} {R : Value → World → Prop} (l : Nat) (h : Rows P row args w R) : RowsIn (Fence.wide.inRound l) n P row args w R := fun c cs _ => by
  obtain ⟨v, w', hr, hs⟩ := h c cs
  exact ⟨v, w', hr, StepsIn.mono (fun m _ => fenced_wide P m) (StepsIn.of_steps hs)⟩
theorem upon_round {P : Program} {o : Oper} {a : Act} {K K' : Act → World → Prop} {Q : Exit → Act → World → Prop} {n : Nat} (l : Nat) (hk : ∀ a w, K a w → K' a w) (r : Result Next) (h : o.upon P a K Q r) : o.uponIn (Fence.wide.inRound l) n P a K' Q r := by
  cases r with
  | ok x w' =>
    cases x with
    | value v => exact hk _ _ h
    | skip => exact hk _ _ h
    | defer d => exact hk _ _ h
    | enter f args =>
      refine ⟨fun k => (by cases k), CallsIn.inRound l (callsIn_wide.2 ?_)⟩
      refine Calls.mono h ?_
      intro e w'' he
      cases e with
      | returned v => exact hk _ _ he
      | panicked c => exact he
      | outgrown => exact he
    | row rw args =>
      refine ⟨fun k => (by cases k), rowsIn_wide l ?_⟩
      exact Rows.mono h fun v w'' hv => hk _ _ hv
    | _ => exact h.elim
  | halt x w' =>
    cases x with
    | panic v => exact h
    | _ => exact h.elim
theorem ops_round {P : Program} {ops : Array Oper} {Post : Act → World → Prop} {n : Nat} (l : Nat) (hd : ∀ (i : Nat) (o : Oper), ops[i]? = some o → ∀ c, o.op ≠ Op.defer c) : ∀ (L : List Nat) (a : Act) (w : World), wpOps P ops (Plainly Post) L a w → wpOpsIn (Fence.wide.inRound l) n P ops (Plainly Post) L a w := by
  intro L
  induction L with
  | nil => exact fun a w h => h
  | cons i rest ih =>
    intro a w h
    unfold wpOps at h
    unfold wpOpsIn
    cases e : ops[i]? with
    | none => rw [e] at h; exact ih _ _ h
    | some o =>
      rw [e] at h
      simp only at h ⊢
      split
      · rename_i hw
        rw [if_pos hw] at h
        rcases h with h | ⟨_, h⟩
        · refine ⟨fun _ _ => trivial, ?_⟩
          rw [Oper.semAt_eq _ _ _ (hd i o e)]
          exact upon_round l ih _ h
        · exact (plainly_in Post h).elim
      · rename_i hw
        rw [if_neg hw] at h
        exact ⟨fun _ _ => trivial, ih _ _ h⟩

def noDefer (ops : Array Oper) : Bool := ops.all (fun o : Oper => match o.op with | .defer _ => false | _ => true)
theorem noDefer_spec {ops : Array Oper} (hd : noDefer ops = true) : ∀ (i : Nat) (o : Oper), ops[i]? = some o → ∀ c, o.op ≠ Op.defer c := by
  intro i o ho c hc
  have hi := (Array.getElem?_eq_some_iff.1 ho).1
  have := Array.all_eq_true.1 hd i hi
  rw [(Array.getElem?_eq_some_iff.1 ho).2, hc] at this
  cases this
theorem round_any {P : Program} {ops : Array Oper} {id n l : Nat} {a : Act} {w : World} {Q : Exit → Act → World → Prop} (hm : P.follows .mixedOrders = true) (hd : noDefer ops = true)
    (h : wpAny P .any ops (Plainly fun a' w' => Q .normal a' w') ops.size (Array.replicate ops.size false) a w.drew) : (Code.region id ops true).wpIn (Fence.wide.inRound l) n P Q a w := by
  refine Code.wpIn_mono (Q := Plainly fun a' w' => Q .normal a' w') ?_ (wpIn_region_draw fun t => ?_)
  · intro e a' w' he
    cases e with
    | normal => exact he
    | _ => exact he.elim
  · simp only [Region.schedule, hm, Bool.true_or, if_true]
    exact ops_round l (noDefer_spec hd) _ _ _ (wpAny_sound ops.size t _ a _ h)
/-- Reads in whatever order, and then the rest in order: the region's operations are the reads l1, and l2. -/
theorem any_reads_then {P : Program} {Q : Exit → Act → World → Prop} {a : Act} {w : World} (l1 l2 : List Oper) (hB : Region.lexTailB .any (l1 ++ l2).toArray l1.length = true)
    (h : wpStill P (l1 ++ l2).toArray w (fun a' => wpList P (l1 ++ l2).toArray Q l2 a' w) l1 a) : wpAny P .any (l1 ++ l2).toArray Q (l1.length + l2.length) (Array.replicate (l1 ++ l2).toArray.size false) a w := by
  have hg : (l1 ++ l2).toArray.size - l1.length = l2.length := by simp
  unfold Region.lexTailB at hB
  rw [hg] at hB
  simp only [Bool.and_eq_true] at hB
  have hlt := of_decide_eq_true hB.1.1.1.2
  refine wpAny_of_head ?_ l1.length _ a (wpAnyL_lex hB.1.1.1.1 hB.1.1.2 hB.1.2 hlt l1 0 _ a (fun j hj => ?_) (Nat.zero_add _) ⟨by simp, ?_, ?_⟩ hB.2 h)
  · rintro listed a' ⟨h1, h2⟩
    exact wpAny_of_seq l2 l1.length listed a' w (fun j => by rw [List.getElem?_toArray, List.getElem?_append_right (Nat.le_add_right _ _), Nat.add_sub_cancel_left]) h1 h2
  · rw [Nat.zero_add, List.getElem?_toArray, List.getElem?_append_left hj]
  · intro j oj _ hf
    rw [getD_replicate_false] at hf
    exact Bool.noConfusion hf
  · intro t _ ht
    exact getD_in (by simpa using ht) (getD_replicate_false _ t)
theorem round_still_tail {P : Program} {id n lp : Nat} {Q : Exit → Act → World → Prop} {a : Act} {w : World} {l : List Oper} (N : Nat) (hm : P.follows .mixedOrders = true) (hd : noDefer l.toArray = true) (hB : Region.lexTailB .any l.toArray N = true)
    (h : wpStill P l.toArray w.drew (fun a' => wpList P l.toArray (Plainly fun a' w' => Q .normal a' w') (l.drop N) a' w.drew) (l.take N) a) : (Code.region id l.toArray true).wpIn (Fence.wide.inRound lp) n P Q a w :=
  round_any hm hd (by
    have hN : N < l.length := by
      unfold Region.lexTailB at hB
      simp only [Bool.and_eq_true] at hB
      simpa using hB.1.1.1.2
    have e : l.take N ++ l.drop N = l := List.take_append_drop N l
    have e1 : (l.take N).length = N := by rw [List.length_take]; omega
    have e2 : (l.take N).length + (l.drop N).length = l.toArray.size := by rw [← List.length_append, e]; simp
    have k := any_reads_then (P := P) (Q := Plainly fun a' w' => Q .normal a' w') (a := a) (w := w.drew) (l.take N) (l.drop N) (by rw [e, e1]; exact hB) (by rw [e]; exact h)
    rw [e2, e] at k
    exact k)
theorem rowsIn_wide0 {P : Program} {n : Nat} {row : String} {args : Array Value} {w : World} {R : Value → World → Prop} (h : Rows P row args w R) : RowsIn Fence.wide n P row args w R := fun c cs _ => by
  obtain ⟨v, w', hr, hs⟩ := h c cs
  exact ⟨v, w', hr, StepsIn.mono (fun m _ => fenced_wide P m) (StepsIn.of_steps hs)⟩
theorem upon_wide {P : Program} {o : Oper} {a : Act} {K K' : Act → World → Prop} {Q : Exit → Act → World → Prop} {n : Nat} (hk : ∀ a w, K a w → K' a w) (r : Result Next) (h : o.upon P a K Q r) : o.uponIn Fence.wide n P a K' Q r := by
  cases r with
  | ok x w' =>
    cases x with
    | value v => exact hk _ _ h
    | skip => exact hk _ _ h
    | defer d => exact hk _ _ h
    | enter f args =>
      refine ⟨fun k => (by cases k), callsIn_wide.2 ?_⟩
      refine Calls.mono h ?_
      intro e w'' he
      cases e with
      | returned v => exact hk _ _ he
      | panicked c => exact he
      | outgrown => exact he
    | row rw args =>
      refine ⟨fun k => (by cases k), rowsIn_wide0 ?_⟩
      exact Rows.mono h fun v w'' hv => hk _ _ hv
    | _ => exact h.elim
  | halt x w' =>
    cases x with
    | panic v => exact h
    | _ => exact h.elim
theorem ops_wide {P : Program} {ops : Array Oper} {Post : Act → World → Prop} {n : Nat} (hd : ∀ (i : Nat) (o : Oper), ops[i]? = some o → ∀ c, o.op ≠ Op.defer c) : ∀ (L : List Nat) (a : Act) (w : World), wpOps P ops (Plainly Post) L a w → wpOpsIn Fence.wide n P ops (Plainly Post) L a w := by
  intro L
  induction L with
  | nil => exact fun a w h => h
  | cons i rest ih =>
    intro a w h
    unfold wpOps at h
    unfold wpOpsIn
    cases e : ops[i]? with
    | none => rw [e] at h; exact ih _ _ h
    | some o =>
      rw [e] at h
      simp only at h ⊢
      split
      · rename_i hw
        rw [if_pos hw] at h
        rcases h with h | ⟨_, h⟩
        · refine ⟨fun _ _ => trivial, ?_⟩
          rw [Oper.semAt_eq _ _ _ (hd i o e)]
          exact upon_wide ih _ h
        · exact (plainly_in Post h).elim
      · rename_i hw
        rw [if_neg hw] at h
        exact ⟨fun _ _ => trivial, ih _ _ h⟩
theorem region_wide {P : Program} {ops : Array Oper} {id n : Nat} {a : Act} {w : World} {Q : Exit → Act → World → Prop} {S : World → Prop} (hm : P.follows .mixedOrders = true) (hd : noDefer ops = true) (hS : S w.drew)
    (h : S w.drew → wpAnyH P .any ops (Plainly fun a' w' => Q .normal a' w') S ops.size (Array.replicate ops.size false) a w.drew) : (Code.region id ops true).wpIn Fence.wide n P Q a w := by
  refine Code.wpIn_mono (Q := Plainly fun a' w' => Q .normal a' w') ?_ (wpIn_region_draw fun t => ?_)
  · intro e a' w' he
    cases e with
    | normal => exact he
    | _ => exact he.elim
  · simp only [Region.schedule, hm, Bool.true_or, if_true]
    exact ops_wide (noDefer_spec hd) _ _ _ (wpAny_sound ops.size t _ a _ (wpAny_of_held _ _ _ _ (h hS)))
end Go.Proofs.YtgmplpfbhcdofaaGreat
