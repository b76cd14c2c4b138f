/- Proved here: a law for a range over a function whose iterator keeps what is left in a captured variable and writes it between two rounds. | Proved here: strings.SplitSeq at one byte hands over the pieces of a text, one by one, for texts of at most 140737488355328 bytes. | Proved here: begin and Behind of package version. | Proved here: readNumbers of package version, for texts of at most 140737488355328 bytes. | Proved here: readTag of package version. | Proved here: boxes and results of versions; the version whose last number is one more, as plain words. | Proved here: read and Read of package version, for texts of at most 140737488355328 bytes. | Proved here: what a call of WriteString leaves of a strings.Builder of the caller's own: a row of bytes, and some more of them behind it. In between stands one word, 'Lies': the builder was written to, and its second field is this slice. | Proved here: say of package version, at a version that may be: its text. | Proved here: Text of package version; == of two versions. -/
import Derived.RangeFuncNested
import Derived.RangeFuncRecord
import Derived.OwnWalkIn
import Derived.WalkKit
import Derived.TacticsInMore
import Derived.LoopNIn
import Derived.LoopIn
import Derived.RangeFuncCalls
import Derived.RangeFuncLeaves
import Derived.Laws.CopyRow
import Derived.BigGuardPartIn
import Derived.Shelf.RegionOpen
import Derived.Shelf.Abstract
import Derived.Deep.DeepCutAuto
import Derived.Lib.UnsafeStr
import Derived.Lib.Hide
import Derived.WalkSpells
import Derived.WalkLawsBesides
import Derived.Lib.AppendIntMem
import Derived.Laws.StructEq
import Derived.Test.YtlfehjjnepiljaaGreatDoorM1
import Derived.Test.YtlfehjjnepiljaaGreatDoorRows
namespace Go.Proofs.YtlfehjjnepiljaaGreatDoor
open Go.RowKit Go.Shelf

/-- It hangs on no block from lo up to hi: whatever is done to these, or laid anew. -/
def Steady {β : Type} (lo hi : Nat) (I : β → World → Prop) : Prop :=
  ∀ s X Y (row : Option Nat), I s X → X.grownBy Y row → (∀ r, row = some r → lo ≤ r ∧ r < hi) → I s Y
/-- The blocks from lo up to hi are as they were. -/
def Fix (lo hi : Nat) (X Y : World) : Prop := ∀ k, lo ≤ k → k < hi → Y.heap[k]? = X.heap[k]?
theorem Fix.refl (lo hi : Nat) (X : World) : Fix lo hi X X := fun _ _ _ => rfl
theorem Fix.trans {lo hi : Nat} {X Y Z : World} (h : Fix lo hi X Y) (k : Fix lo hi Y Z) : Fix lo hi X Z := fun i a b => (k i a b).trans (h i a b)
theorem Fix.part {lo hi hi' : Nat} {X Y : World} (h : Fix lo hi X Y) (le : hi' ≤ hi) : Fix lo hi' X Y := fun i a b => h i a (by omega)
theorem Fix.put {lo hi l : Nat} (X : World) (o : Obj) (hl : hi ≤ l) : Fix lo hi X (X.putObj l o) := fun i _ b => World.putObj_heap_other (by omega)
theorem Fix.below {lo hi B : Nat} {X Y : World} (h : Below B X Y) (hB : hi ≤ B) : Fix lo hi X Y := fun i _ b => h.block i (by omega)
theorem Fix.cell {lo hi : Nat} {X Y : World} (h : Fix lo hi X Y) {b : Nat} (hb : b < lo) (u : Value) : Fix lo hi X (Y.setCell ⟨b, 0, none⟩ u) := h.trans fun i a _ => Below.heap_setCell _ _ _ _ (by simp; omega)
theorem Fix.box {lo hi k : Nat} {t : TypeId} {v : Value} {X Y : World} (h : Fix lo hi X Y) (b : Boxed X k t v) (h1 : lo ≤ k) (h2 : k < hi) : Boxed Y k t v := (h k h1 h2).trans b

/-- What an iterator of that kind does, its box being the block lo and two more behind it: it hands xs over, one by one, until it is told to stop. -/
def Hands {α : Type} (F : Fence) (n : Nat) (P : Program) (gf : Nat) (lb : Array Value) (lo : Nat) (enc : α → Value) (xs : List α) (w : World) : Prop :=
  ∀ (l : Nat) (J Jx : List α → World → Prop) (W : World), Fix lo (lo + 3) w W →
    (∀ pre X v, J pre X → J pre (X.setCell ⟨lo, 0, none⟩ v)) →
    (∀ pre x X, pre ++ [x] <+: xs → J pre X → YieldAt F (n - 1) P l #[enc x] X fun e Y =>
      (e = .returned (.bool true) ∧ J (pre ++ [x]) Y ∧ Fix lo (lo + 3) X Y) ∨ (e = .returned (.bool false) ∧ Jx (pre ++ [x]) Y)) →
    J [] W →
    CallsIn F n P gf (#[.func (.yield l) #[] #[]] ++ lb) W fun e Y => (∃ v, e = .returned v) ∧ (J xs Y ∨ ∃ pre, Jx pre Y)

variable {F : Fence} {n : Nat} {P : Program}

/-- How a round may be left. -/
def Left {α : Type} (lo hi : Nat) (I Ix : List α → World → Prop) (ys : List α) (X : World) : Exit → Act → World → Prop
  | .normal, _, Y => Fix lo hi X Y ∧ I ys Y
  | .ret, _, Y => Fix lo hi X Y ∧ Ix ys Y
  | _, _, _ => False

theorem range_hands {α : Type} {g : Operand} {ps : Array Tmp} {assign body : Code} {Q : Exit → Act → World → Prop} {a : Act} {w : World}
    (hro : F.round = none) (h1 : 1 ≤ n) {gf : Nat} {lb : Array Value} (hg : a.eval g = .func (.func gf) #[] lb) (hFg : F.fn gf) (eg : ∀ args w, (callFunc gf args).run P w = .ok (.enter gf args) w)
    (lo : Nat) (hlo : lo + 3 = w.heap.size) {enc : α → Value} {xs : List α} (hit : Hands F (n - 1) P gf lb lo enc xs w) (hps : ps.size = 1)
    (I Ix : List α → World → Prop) (hI : Steady lo (lo + 5) I) (hIx : Steady lo (lo + 5) Ix) (h0 : I [] w)
    (a₁ : α → Act)
    (hassign : ∀ l x X (K : Act → World → Prop), K (a₁ x) X → assign.wpIn (F.inRound l) (n - 1 - 1) P (Exit.then K (fun _ _ _ => False)) { tmps := (ps.zip #[enc x]).foldl (fun t (p, v) => t.setIfInBounds p v) a.tmps, defers := [] } X)
    (hbody : ∀ l pre x X, pre ++ [x] <+: xs → lo + 5 ≤ X.heap.size → I pre X → body.wpIn (F.inRound l) (n - 1 - 1) P (Left lo (lo + 5) I Ix (pre ++ [x]) X) (a₁ x) X)
    (hdone : ∀ X, I xs X → X.heap[lo + 3]? = some (.deferred (some [])) → Q .normal { a with defers := { target := .collected (lo + 3), args := #[] } :: a.defers } X)
    (hstop : ∀ pre X, Ix pre X → X.heap[lo + 3]? = some (.deferred (some [])) → Code.ret.wpIn F n P Q { a with defers := { target := .collected (lo + 3), args := #[] } :: a.defers } X) :
    (Code.rangeFunc g ps assign body).wpIn F n P Q a w := by
  refine wpIn_rangeFunc fun fn hfn => ?_
  rw [hro]
  -- the record of this loop, in whatever state
  let R : LoopState → Option Code → Obj := fun st j => .loop { state := st, pending := j, fn := fn, tmps := a.tmps, params := ps, assign := assign, body := body, defers := w.heap.size }
  have eD : w.heap.size = lo + 3 := hlo.symm
  let w1 : World := (w.alloc (.deferred (some []))).alloc (R .ready none)
  have s1 : w1.heap.size = lo + 5 := by simp [w1]; omega
  have r1 : w1.heap[lo + 4]? = some (R .ready none) := by
    have := World.alloc_heap_new (w.alloc (.deferred (some []))) (R .ready none)
    rwa [World.size_alloc, eD] at this
  have d1 : w1.heap[lo + 3]? = some (.deferred (some [])) := by
    have := World.alloc_heap_new w (.deferred (some []))
    rw [eD] at this
    exact (Below.heap_alloc _ _ _ (by simp; omega)).trans this
  have i1 : I [] w1 := hI _ _ _ none (hI _ _ _ none h0 (World.grownBy_alloc _ _ _) (fun r e => by cases e)) (World.grownBy_alloc _ _ _) (fun r e => by cases e)
  have f1 : Fix lo (lo + 3) w w1 := fun k _ hk => (Below.heap_alloc _ _ _ (by simp; omega)).trans (Below.heap_alloc _ _ _ (by omega))
  have turn : ∀ {Z : List α → World → Prop}, Steady lo (lo + 5) Z → ∀ {ys X} k o, lo ≤ k → k < lo + 5 → Z ys X → Z ys (X.putObj k o) := fun hZ _ _ k o a b hx => hZ _ _ _ (some k) hx (grownBy_putObj' _ _ _) (fun r e => by cases e; exact ⟨a, b⟩)
  -- between two rounds
  let J : List α → World → Prop := fun ys X => I ys X ∧ X.heap[lo + 4]? = some (R .ready none) ∧ X.heap[lo + 3]? = some (.deferred (some []))
  let Jx : List α → World → Prop := fun ys X => Ix ys X ∧ X.heap[lo + 4]? = some (R .done (some .ret)) ∧ X.heap[lo + 3]? = some (.deferred (some []))
  refine ⟨lo + 4, [{ target := .collected (lo + 3), args := #[] }], w1, { target := .fn (.func gf) lb, args := #[.func (.yield (lo + 4)) #[] #[]] }, w1, gf, #[.func (.yield (lo + 4)) #[] #[]] ++ lb, w1, ?_, ?_, ?_, ?_, fun _ => h1, ?_⟩
  · have := run_enterLoop_outer (P := P) (w := w) fn a.tmps ps assign body
    rw [this, eD]
    simp only [w1, R, eD]
  · simp only [resolve, hg]
    simp [go_sem]
  · intro f' e
    simp [Target.leads] at e
    subst e
    exact hFg
  · simp [invoke, go_sem, eg]
  · refine (hit (lo + 4) J Jx w1 f1 (fun ys X v hx => ?_) (fun pre x X hpre hx => ?_) ⟨i1, r1, d1⟩).mono ?_
    · refine ⟨hI _ _ _ (some lo) hx.1 (grownBy_setCell' _ _ _) (fun r e => by cases e; omega), ?_, ?_⟩
      · rw [Below.heap_setCell _ _ _ _ (by simp)]; exact hx.2.1
      · rw [Below.heap_setCell _ _ _ _ (by simp)]; exact hx.2.2
    · obtain ⟨hi, hr, hd⟩ := hx
      have hsz : lo + 5 ≤ X.heap.size := (Array.getElem?_eq_some_iff.1 hr).1
      refine ⟨fn, _, assign, body, run_yield hr (by simp [hps]), roundIn_of_wpIn hfn (hassign _ x X _ ⟨_, run_beginRound hr rfl, ?_⟩)⟩
      have hr2 := World.putObj_heap_same (w := X) (r := lo + 4) (o := R .busy none) (by omega)
      have hd2 := (World.putObj_heap_other (w := X) (r := lo + 4) (o := R .busy none) (k := lo + 3) (by omega)).trans hd
      refine wpIn_mono (hbody _ pre x _ hpre (by simpa using hsz) (turn hI (lo + 4) (R .busy none) (by omega) (by omega) hi)) ?_
      rintro e a3 Y hp
      have fin : ∀ (j : Option Code), Fix lo (lo + 5) (X.putObj (lo + 4) (R .busy none)) Y → (Instr.endRound (lo + 4) j).run P Y = .ok (.bool j.isNone) (Y.putObj (lo + 4) (R (if j.isNone then .ready else .done) j)) ∧
          (Y.putObj (lo + 4) (R (if j.isNone then .ready else .done) j)).heap[lo + 4]? = some (R (if j.isNone then .ready else .done) j) ∧ (Y.putObj (lo + 4) (R (if j.isNone then .ready else .done) j)).heap[lo + 3]? = some (.deferred (some [])) := by
        intro j hfx
        have hr3 := (hfx (lo + 4) (by omega) (by omega)).trans hr2
        have hd3 := (hfx (lo + 3) (by omega) (by omega)).trans hd2
        exact ⟨run_endRound j hr3, World.putObj_heap_same (Array.getElem?_eq_some_iff.1 hr3).1, (World.putObj_heap_other (by omega)).trans hd3⟩
      cases e with
      | normal =>
        obtain ⟨hfx, hi2⟩ := hp
        obtain ⟨q1, q2, q3⟩ := fin none hfx
        exact ⟨_, _, q1, .inl ⟨rfl, ⟨turn hI (lo + 4) _ (by omega) (by omega) hi2, q2, q3⟩, (((Fix.put X _ (by omega)).trans (hfx.part (by omega))).trans (Fix.put Y _ (by omega)))⟩⟩
      | ret =>
        obtain ⟨hfx, hi2⟩ := hp
        obtain ⟨q1, q2, q3⟩ := fin (some .ret) hfx
        exact ⟨_, _, q1, .inr ⟨rfl, turn hIx (lo + 4) _ (by omega) (by omega) hi2, q2, q3⟩⟩
      | exit id => exact hp.elim
      | goto t => exact hp.elim
      | panic c => exact hp.elim
      | outgrown => exact hp.elim
    · rintro e Y ⟨⟨v, rfl⟩, ⟨hi, hr, hd⟩ | ⟨pre, hi, hr, hd⟩⟩
      · exact ⟨none, _, run_endLoop hr (by simp), hdone _ (turn hI (lo + 4) _ (by omega) (by omega) hi) ((World.putObj_heap_other (by omega)).trans hd)⟩
      · exact ⟨some .ret, _, run_endLoop hr (by simp), hstop pre _ (turn hIx (lo + 4) _ (by omega) (by omega) hi) ((World.putObj_heap_other (by omega)).trans hd)⟩
end Go.Proofs.YtlfehjjnepiljaaGreatDoor

namespace Go.Proofs.YtlfehjjnepiljaaGreatDoor
open Go.RowKit Go.Shelf
attribute [local go_sem] Oper.semAt_some

/-- The pieces of a text, cut at a byte. -/
def pcs (c : UInt8) : Nat → ByteArray → List ByteArray
  | 0, s => [s]
  | f + 1, s => if Lib.indexByte s.data.toList c < 0 then [s] else s.extract 0 (Lib.indexByte s.data.toList c).toNat :: pcs c f (s.extract ((Lib.indexByte s.data.toList c).toNat + 1) s.size)
def pieces (c : UInt8) (s : ByteArray) : List ByteArray := pcs c s.size s
theorem index_in (c : UInt8) (l : Str) : Lib.indexByte l c = -1 ∨ ∃ k : Nat, Lib.indexByte l c = (k : Int) ∧ k < l.length := by
  by_cases h : c ∈ l
  · exact .inr ⟨_, index_some c l h, take_lt c l h⟩
  · exact .inl (index_none c l h)
theorem boxed_same {W W' : World} {k : Nat} {t : TypeId} {v : Value} (h : Boxed W k t v) (hb : W'.heap[k]? = W.heap[k]?) : Boxed W' k t v := hb.trans h
def leftAt (k : Nat) (W : World) : Nat := match W.cell? ⟨k, 0, none⟩ with | some (.string r) => r.size | _ => 0
theorem leftAt_of {W : World} {k : Nat} {r : ByteArray} (h : Boxed W k 9 (.string r)) : leftAt k W = r.size := by unfold leftAt; rw [h.cell]

set_option maxRecDepth 100000 in
set_option maxHeartbeats 4000000 in
theorem split1_hands (c : UInt8) (n : Nat) (hn : 1 ≤ n) (B : Nat) (s : ByteArray) (hs : s.size ≤ 140737488355328) (w : World) (b0 : Boxed w B 9 (.string s)) (b1 : Boxed w (B + 1) 9 (.string ⟨#[c]⟩)) (b2 : Boxed w (B + 1 + 1) 3 (.int .i64 0)) :
    Hands Fence.wide n Tryz.prog 98 #[.pointer (some ⟨B + 1, 0, none⟩), .pointer (some ⟨B, 0, none⟩), .pointer (some ⟨B + 1 + 1, 0, none⟩)] B Value.string (pieces c s) w := fun l J Jx W hW hJ hY h0 => by
  have H0 := Lib.hid (hW.box b0 (by omega) (by omega))
  have H1 := Lib.hid (hW.box b1 (by omega) (by omega))
  have H2 := Lib.hid (hW.box b2 (by omega) (by omega))
  have hc0 := H0.out.cell
  have hc1 := H1.out.cell
  have hc2 := H2.out.cell
  have hz : ((1 : Int) == 0) = false := rfl
  clear b0 b1 b2 hW
  refine callsIn_of_wp Tryz.func98 rfl trivial ?_ rfl
  simp only [Tryz.ntmps98, List.size_toArray, List.length_cons, List.length_nil, Nat.reduceAdd, Nat.reduceSub, Array.replicate_succ, Array.replicate_zero, List.push_toArray, List.append_toArray, List.nil_append, List.cons_append]
  gi_wp2
  gi_loopw [7, 8, 29, 30, 31, 32, 33, 34, 35, 36, 37, 38, 39, 40, 41, 42, 43, 44, 45, 46, 47, 48] (fun _ _ _ _ _ _ _ _ _ _ _ _ _ _ _ _ _ _ _ _ _ _ wr => ∃ (r : ByteArray) (f : Nat) (pre : List ByteArray), r.size ≤ s.size ∧ Hid (r.size ≤ f ∧ pieces c s = pre ++ pcs c f r) ∧ J pre wr ∧ Hid (Boxed wr B 9 (.string r)) ∧ Hid (Boxed wr (B + 1) 9 (.string ⟨#[c]⟩)) ∧ Hid (Boxed wr (B + 1 + 1) 3 (.int .i64 0)))
    (fun _ _ _ _ _ _ _ _ _ _ _ _ _ _ _ _ _ _ _ _ _ _ wr => leftAt B wr)
  case atStart => exact ⟨s, s.size, [], Nat.le_refl _, Lib.hid ⟨by omega, rfl⟩, h0, H0, H1, H2⟩
  case round =>
    obtain ⟨r, f, pre, hr, HX, hJs, H3, H4, H5⟩ := hrel
    have hc3 := H3.out.cell
    have hc4 := H4.out.cell
    have hc5 := H5.out.cell
    have hc3f := H3.out.frozen
    clear hc0 hc1 hc2
    rcases index_in c r.data.toList with hi | ⟨k, hi, hk⟩
    · -- no such byte: what is left is the last piece
      have HI := Lib.hid hi
      have HE : Hid (pieces c s = pre ++ [r]) := Lib.hid (by
        rw [HX.out.2]
        cases f with
        | zero => rfl
        | succ f => unfold pcs; rw [if_pos (by rw [hi]; decide)])
      obtain ⟨fn, tmps, assign, body, hy, hR⟩ := hY pre r wr ⟨[], by rw [HE.out, List.append_nil]⟩ hJs
      clear hi
      gi_wp2_with (refine ⟨trivial, ?_⟩; gi_at_call 100; refine (callsIn_wide.2 (Tryz.strings_Index_one _ _ _)).mono ?_; rintro e w' ⟨rfl, rfl⟩; rw [HI.out])
      refine hR.mono ?_
      rintro e2 W3 (⟨rfl, hJ3, hk3⟩ | ⟨rfl, hJx3⟩)
      · gi_wp2
        go_end0
        exact ⟨⟨_, rfl⟩, .inl (by rw [HE.out]; exact hJ3)⟩
      · gi_wp2
        go_end0
        exact ⟨⟨_, rfl⟩, .inr ⟨_, hJx3⟩⟩
    · have HI := Lib.hid hi
      have hsz : r.data.toList.length = r.size := rfl
      rw [hsz] at hk
      obtain ⟨f', rfl⟩ : ∃ f', f = f' + 1 := ⟨f - 1, by have := HX.out.1; omega⟩
      have HE : Hid (pieces c s = pre ++ r.extract 0 k :: pcs c f' (r.extract (k + 1) r.size)) := Lib.hid (by
        rw [HX.out.2, pcs, if_neg (by rw [hi]; omega), hi]
        rfl)
      have d1 : decide ((k : Int) < 0) = false := decide_eq_false (by omega)
      have d2 : (0 : Int) ≤ (k : Int) := by omega
      have d3 : (k : Int) ≤ (r.size : Int) := by omega
      have d4 : IntKind.i64.wrap ((k : Int) + 1) = (k : Int) + 1 := IntWalk.i64_in _ (by omega)
      have d5 : (0 : Int) ≤ (k : Int) + 1 := by omega
      have d6 : (k : Int) + 1 ≤ (r.size : Int) := by omega
      have d7 : ((k : Int) + 1).toNat = k + 1 := by omega
      have d8 : IntKind.i64.wrap (k : Int) = (k : Int) := IntWalk.i64_in _ (by omega)
      obtain ⟨fn, tmps, assign, body, hy, hR⟩ := hY pre (r.extract 0 k) wr ⟨pcs c f' (r.extract (k + 1) r.size), by rw [HE.out, List.append_assoc]; rfl⟩ hJs
      clear hi hsz
      gi_wp2_with (refine ⟨trivial, ?_⟩; gi_at_call 100; refine (callsIn_wide.2 (Tryz.strings_Index_one _ _ _)).mono ?_; rintro e w' ⟨rfl, rfl⟩; rw [HI.out])
      refine hR.mono ?_
      rintro e2 W3 (⟨rfl, hJ3, hk3⟩ | ⟨rfl, hJx3⟩)
      · have g0 := Lib.hid (hk3.box H3.out (by omega) (by omega))
        have g1 := Lib.hid (hk3.box H4.out (by omega) (by omega))
        have g2 := Lib.hid (hk3.box H5.out (by omega) (by omega))
        have q0 := g0.out.cell
        have q1 := g1.out.cell
        have q0f := g0.out.frozen
        clear hk3
        gi_wp2
        go_roundw
        case rel => exact ⟨r.extract (k + 1) r.size, f', pre ++ [r.extract 0 k], by simp; omega, Lib.hid ⟨by simp; have := HX.out.1; omega, by rw [HE.out, List.append_assoc]; rfl⟩, hJ _ _ _ hJ3, Lib.hid (g0.out.set _), Lib.hid (g1.out.other (by omega) _), Lib.hid (g2.out.other (by omega) _)⟩
        case measure =>
          rw [leftAt_of H3.out, leftAt_of (g0.out.set _)]
          simp
          omega
      · gi_wp2
        refine bodyPost_ret (results_none rfl _ _ _) rfl ?_
        exact ⟨⟨_, rfl⟩, .inr ⟨_, hJx3⟩⟩
end Go.Proofs.YtlfehjjnepiljaaGreatDoor

namespace Go.Proofs.YtlfehjjnepiljaaGreatDoor
open Go.RowKit Go.Shelf


/-- The version of so many first numbers. -/
def Ver.first (v : Ver) (k : Nat) : Ver := ⟨if 0 < k then v.n0 else 0, if 1 < k then v.n1 else 0, if 2 < k then v.n2 else 0, if 3 < k then v.n3 else 0, k, ⟨#[]⟩, 0⟩
def Ver.nums (v : Ver) : List Value := [.int .i64 v.n0, .int .i64 v.n1, .int .i64 v.n2, .int .i64 v.n3]
theorem info3 : (Tryz.prog.info? 3).map (·.size) = some 1 := by kernel_rfl

/-- copy of some cells into the beginning of a box, at a step of a region that draws. -/
theorem wp_copy_if {op : Oper} {a : Act} {w : World} {K : Act → World → Prop} {Q : Exit → Act → World → Prop} {ops : Array Oper} (hw : Region.wanted op (yielded ops a.tmps) = true) (d s : Operand) (ho : op.op = .call { callee := .builtin .copy, args := #[d, s], argTypes := #[132, 132] })
    (g dl dc sg sl sc : Nat) (cur : Array Value) (cs : List Value) (hd : a.eval d = .slice (some ⟨g, 0, none⟩) dl dc) (hs : a.eval s = .slice (some ⟨sg, 0, none⟩) sl sc) (hg : Box w g 45 cur) (hn : cs.length = Nat.min sl dl)
    (hsrc : ∀ (j : Nat) (x : Value), cs[j]? = some x → w.cell? ⟨sg, j, none⟩ = some x) (hfit : cs.length ≤ cur.size) (h1 : ∀ x ∈ cs, x.oneCell' = true)
    (h : K (a.put op.dst (.int .i64 (cs.length : Int))) (w.setRow g (cs ++ cur.toList.drop cs.length).toArray)) : if Region.wanted op (yielded ops a.tmps) = true then op.wp Tryz.prog a w K Q else K (a.put op.dst undef) w := by
  rw [if_pos hw]
  have hr := run_copy_row (P := Tryz.prog) w 132 132 op.type 3 g 0 dl dc ⟨sg, 0, none⟩ sl sc cur 45 cs Tryz.underlying132 info3 hg hn (fun j x hx => by
    have e : (⟨sg, 0, none⟩ : Addr).add j = ⟨sg, j, none⟩ := by
      unfold Addr.add
      split <;> simp_all
    rw [e]
    exact hsrc j x hx) (by omega) h1
  simp only [Nat.zero_add, List.take_zero, List.nil_append] at hr
  unfold Oper.wp execOp
  simp only [ho, resolve, invoke, builtin, Sem.run_bind, Sem.run_pure, Result.andThen_ok, List.map_toArray, List.map_cons, List.map_nil, hd, hs, hr]
  exact h
theorem Box.drew {w : World} {g : Nat} {t : TypeId} {cs : Array Value} (h : Box w g t cs) : Box w.drew g t cs := h
theorem Box.row {w : World} {g : Nat} {t : TypeId} {old : Array Value} (h : Box w g t old) (cs : Array Value) : Box (w.setRow g cs) g t cs := setRow_heap w g old cs t _ h
theorem Box.far_row {w : World} {g k : Nat} {t : TypeId} {cs : Array Value} (h : Box w k t cs) (hk : k ≠ g) (new : Array Value) : Box (w.setRow g new) k t cs := (setRow_other w g k new hk).trans h
theorem below_row {B g : Nat} {a w : World} (h : Below B a w) (hg : B ≤ g) (cs : Array Value) : Below B a (w.setRow g cs) :=
  ⟨h.os, h.tape, h.output, by simpa using h.size, fun k hk => (setRow_other w g k cs (by omega)).trans (h.block k hk)⟩
theorem first_row (v : Ver) (k : Nat) (h1 : 1 ≤ k) (h4 : k ≤ 4) : (v.nums.take k ++ (#[Value.int .i64 0, .int .i64 0, .int .i64 0, .int .i64 0, .int .i64 (k : Int), .string ⟨#[]⟩, .int .i64 0]).toList.drop (v.nums.take k).length).toArray = (v.first k).arr := by
  rcases (by omega : k = 1 ∨ k = 2 ∨ k = 3 ∨ k = 4) with rfl | rfl | rfl | rfl <;> rfl
theorem nums_len (v : Ver) (k : Nat) (h4 : k ≤ 4) : (v.nums.take k).length = k := by
  rw [List.length_take]
  show min k 4 = k
  omega
theorem nums_cell {w : World} {g : Nat} {v : Ver} (h : VBox w g v) (k j : Nat) (x : Value) (hx : (v.nums.take k)[j]? = some x) : w.cell? ⟨g, j, none⟩ = some x := by
  rw [List.getElem?_take] at hx
  split at hx
  · have hj : j < 4 := (List.getElem?_eq_some_iff.1 hx).1
    rcases (by omega : j = 0 ∨ j = 1 ∨ j = 2 ∨ j = 3) with rfl | rfl | rfl | rfl
    · cases hx; exact h.c0
    · cases hx; exact h.c1
    · cases hx; exact h.c2
    · cases hx; exact h.c3
  · cases hx
theorem nums_one (v : Ver) (k : Nat) (x : Value) (hx : x ∈ v.nums.take k) : x.oneCell' = true := by
  have := List.mem_of_mem_take hx
  simp [Ver.nums] at this
  rcases this with rfl | rfl | rfl | rfl <;> rfl

theorem info26 (v : Ver) : (Tryz.prog.info? 45).map (·.size) = some v.arr.size := by
  show _ = some 7
  kernel_rfl
theorem arr_one (v : Ver) : v.arr.all (·.oneCell') = true := by
  unfold Ver.arr
  simp [Value.oneCell']

set_option maxRecDepth 100000 in
set_option maxHeartbeats 2000000 in
theorem begin_any (v : Ver) (k : Nat) (h1 : 1 ≤ k) (h4 : k ≤ 4) (w : World) : Calls Tryz.prog 143 #[.agg v.arr, .int .i64 (k : Int)] w fun e w' => e = .returned (.agg (v.first k).arr) ∧ Below w.heap.size w w' := by
  have X1 : Box (w.alloc (.cells v.arr 45)) w.heap.size 45 v.arr := box_new
  have HC0 : VBox (((w.alloc (.cells v.arr 45)).alloc (.cells #[.int .i64 0, .int .i64 0, .int .i64 0, .int .i64 0, .int .i64 0, .string ⟨#[]⟩, .int .i64 0] 45)).alloc (.cells #[.int .i64 0, .int .i64 0, .int .i64 0, .int .i64 0, .int .i64 (k : Int), .string ⟨#[]⟩, .int .i64 0] 45)) w.heap.size v := (X1.ver.alloc _).alloc _
  have Z0 : Box (((w.alloc (.cells v.arr 45)).alloc (.cells #[.int .i64 0, .int .i64 0, .int .i64 0, .int .i64 0, .int .i64 0, .string ⟨#[]⟩, .int .i64 0] 45)).alloc (.cells #[.int .i64 0, .int .i64 0, .int .i64 0, .int .i64 0, .int .i64 (k : Int), .string ⟨#[]⟩, .int .i64 0] 45)) (w.heap.size + 1 + 1) 45 #[.int .i64 0, .int .i64 0, .int .i64 0, .int .i64 0, .int .i64 (k : Int), .string ⟨#[]⟩, .int .i64 0] := by
    have := box_new (w := (w.alloc (.cells v.arr 45)).alloc (.cells #[.int .i64 0, .int .i64 0, .int .i64 0, .int .i64 0, .int .i64 0, .string ⟨#[]⟩, .int .i64 0] 45)) (t := 45) (cs := #[.int .i64 0, .int .i64 0, .int .i64 0, .int .i64 0, .int .i64 (k : Int), .string ⟨#[]⟩, .int .i64 0])
    simpa using this
  have W0 : Box (((w.alloc (.cells v.arr 45)).alloc (.cells #[.int .i64 0, .int .i64 0, .int .i64 0, .int .i64 0, .int .i64 0, .string ⟨#[]⟩, .int .i64 0] 45)).alloc (.cells #[.int .i64 0, .int .i64 0, .int .i64 0, .int .i64 0, .int .i64 (k : Int), .string ⟨#[]⟩, .int .i64 0] 45)) (w.heap.size + 1) 45 #[.int .i64 0, .int .i64 0, .int .i64 0, .int .i64 0, .int .i64 0, .string ⟨#[]⟩, .int .i64 0] := Box.alloc (by
    have := box_new (w := (w.alloc (.cells v.arr 45))) (t := 45) (cs := #[.int .i64 0, .int .i64 0, .int .i64 0, .int .i64 0, .int .i64 0, .string ⟨#[]⟩, .int .i64 0])
    simpa using this) _
  have B0 : Below w.heap.size w (((w.alloc (.cells v.arr 45)).alloc (.cells #[.int .i64 0, .int .i64 0, .int .i64 0, .int .i64 0, .int .i64 0, .string ⟨#[]⟩, .int .i64 0] 45)).alloc (.cells #[.int .i64 0, .int .i64 0, .int .i64 0, .int .i64 0, .int .i64 (k : Int), .string ⟨#[]⟩, .int .i64 0] 45)) := (((Below.refl _ w).alloc (Nat.le_refl _) _).alloc (by simp) _).alloc (by simp; omega) _
  have HL := Lib.hid (nums_len v k h4)
  have HK := Lib.hid h4
  have HR := Lib.hid (first_row v k h1 h4)
  have HO := Lib.hid (nums_one v k)
  have HC := Lib.hid (nums_cell HC0 k)
  have HZ := Lib.hid Z0
  have HW := Lib.hid W0
  have HB := Lib.hid B0
  have k1 : (0 : Int) ≤ (k : Int) := by omega
  have k2 : (k : Int) ≤ 4 := by omega
  clear X1 HC0 Z0 W0 B0 h1 h4
  go_enter Tryz.func143, Tryz.ntmps143
  go_wp2
  obtain ⟨wq, hwq⟩ : ∃ x, x = (((w.alloc (.cells v.arr 45)).alloc (.cells #[.int .i64 0, .int .i64 0, .int .i64 0, .int .i64 0, .int .i64 0, .string ⟨#[]⟩, .int .i64 0] 45)).alloc (.cells #[.int .i64 0, .int .i64 0, .int .i64 0, .int .i64 0, .int .i64 (k : Int), .string ⟨#[]⟩, .int .i64 0] 45)) := ⟨_, rfl⟩
  rw [← hwq] at HC HZ HW HB ⊢
  clear hwq
  have Z := HZ.out.drew
  refine wp_region_held_drew (S := fun _ => True) (by kernel_rfl) trivial (fun hHeld => ?_)
  refine wpAnyH_take (i := 0) (oi := { dst := some 8, op := Op.fieldAddr 45 (Operand.tmp 5) 0, type := 0, pos := "order.go:38", after := #[], guard := none }) (v := ?_) rfl (by kernel_rfl) (by kernel_rfl) (by kernel_rfl) (fun _ _ _ h => h) (Or.inl ⟨by rfl, ?_⟩) hHeld ?_
  rotate_left
  · (intro w hSw; go_simp; try with_reducible rfl)
  (try simp only [Act.put, List.setIfInBounds_toArray, List.set_cons_zero, List.set_cons_succ])
  refine wpAnyH_take (i := 1) (oi := { dst := some 9, op := Op.slice 43 (Operand.tmp 8) none none none, type := 132, pos := "order.go:38", after := #[{ on := 0, ground := Ground.data }], guard := none }) (v := ?_) rfl (by kernel_rfl) (by kernel_rfl) (by kernel_rfl) (fun _ _ _ h => h) (Or.inl ⟨by rfl, ?_⟩) hHeld ?_
  rotate_left
  · (intro w hSw; go_simp; try with_reducible rfl)
  (try simp only [Act.put, List.setIfInBounds_toArray, List.set_cons_zero, List.set_cons_succ])
  refine wpAnyH_take (i := 2) (oi := { dst := some 10, op := Op.fieldAddr 45 (Operand.tmp 2) 0, type := 0, pos := "order.go:38", after := #[], guard := none }) (v := ?_) rfl (by kernel_rfl) (by kernel_rfl) (by kernel_rfl) (fun _ _ _ h => h) (Or.inl ⟨by rfl, ?_⟩) hHeld ?_
  rotate_left
  · (intro w hSw; go_simp; try with_reducible rfl)
  (try simp only [Act.put, List.setIfInBounds_toArray, List.set_cons_zero, List.set_cons_succ])
  refine wpAnyH_take (i := 3) (oi := { dst := some 11, op := Op.move (Operand.tmp 1), type := 3, pos := "order.go:38", after := #[], guard := none }) (v := ?_) rfl (by kernel_rfl) (by kernel_rfl) (by kernel_rfl) (fun _ _ _ h => h) (Or.inl ⟨by rfl, ?_⟩) hHeld ?_
  rotate_left
  · (intro w hSw; go_simp; try with_reducible rfl)
  (try simp only [Act.put, List.setIfInBounds_toArray, List.set_cons_zero, List.set_cons_succ])
  refine wpAnyH_take (i := 4) (oi := { dst := some 12, op := Op.slice 43 (Operand.tmp 10) none (some (Operand.tmp 11)) none, type := 132, pos := "order.go:38", after := #[{ on := 2, ground := Ground.data }, { on := 3, ground := Ground.data }], guard := none }) (v := ?_) rfl (by kernel_rfl) (by kernel_rfl) (by kernel_rfl) (fun _ _ _ h => h) (Or.inl ⟨by rfl, ?_⟩) hHeld ?_
  rotate_left
  · (intro w hSw; go_simp; try with_reducible rfl)
  (try simp only [Act.put, List.setIfInBounds_toArray, List.set_cons_zero, List.set_cons_succ])
  refine wpAnyH_ready (rs := [5]) (by kernel_rfl) (by simp) (AllReadyH.cons (o := { dst := some 13, op := Op.call { callee := Callee.builtin Builtin.copy, args := #[Operand.tmp 9, Operand.tmp 12], argTypes := #[132, 132] }, type := 3, pos := "order.go:38", after := #[{ on := 1, ground := Ground.data }, { on := 4, ground := Ground.data }], guard := none }) rfl (fun K hK => ?_) AllReadyH.nil)
  · refine wp_copy_if (by rfl) (.tmp 9) (.tmp 12) rfl (w.heap.size + 1 + 1) 4 4 w.heap.size k 4 #[.int .i64 0, .int .i64 0, .int .i64 0, .int .i64 0, .int .i64 (k : Int), .string ⟨#[]⟩, .int .i64 0] (v.nums.take k) rfl rfl Z (by rw [HL.out]; exact (Nat.min_eq_left HK.out).symm) (fun j x hx => HC.out j x hx) (by rw [HL.out]; have := HK.out; simp; omega) (fun x hx => HO.out x hx) ?_
    rw [HR.out]
    refine hK.out _ _ trivial (fun hHeld => ?_)
    (try simp only [Act.put, List.setIfInBounds_toArray, List.set_cons_zero, List.set_cons_succ])
    refine wpAnyH_done (by kernel_rfl) ?_ _
    have Y := Lib.hid (Z.row (v.first k).arr)
    have YW := Lib.hid (HW.out.drew.far_row (show w.heap.size + 1 ≠ w.heap.size + 1 + 1 by omega) (v.first k).arr)
    have YB := Lib.hid (below_row HB.out.drew (show w.heap.size ≤ w.heap.size + 1 + 1 by omega) (v.first k).arr)
    clear hHeld Z HZ HW HB HC HO HR HL
    go_wp2_with (first
      | (refine wpList_load_row rfl 45 (.tmp 5) rfl (w.heap.size + 1 + 1) rfl 45 (v.first k).arr (0, 0) _ Y.out Tryz.underlying45 rfl (info26 _) ?_)
      | (refine wpList_store_row rfl 45 (.tmp 4) (.tmp 14) rfl (w.heap.size + 1) (v.first k).arr rfl rfl 45 _ YW.out (info26 _) rfl (arr_one _) ?_))
    exact bodyPost_ret (results_cell_row rfl _ _ (w.heap.size + 1) 45 (v.first k).arr (0, 0) _ rfl (setRow_heap _ _ _ _ _ _ YW.out) Tryz.underlying45 rfl (info26 _)) rfl ⟨rfl, below_row YB.out (by omega) _⟩
end Go.Proofs.YtlfehjjnepiljaaGreatDoor

namespace Go.Proofs.YtlfehjjnepiljaaGreatDoor
open Go.RowKit Go.Shelf
attribute [local go_sem] Oper.semAt_some

theorem sseq_any (s t : ByteArray) (w : World) : Calls Tryz.prog 85 #[.string s, .string t, .int .i64 0] w fun e w' => e = .returned (.func (.func 98) #[] #[.pointer (some ⟨w.heap.size + 1, 0, none⟩), .pointer (some ⟨w.heap.size, 0, none⟩), .pointer (some ⟨w.heap.size + 1 + 1, 0, none⟩)]) ∧ ((w.alloc (.cells #[.string s] 9)).alloc (.cells #[.string t] 9)).alloc (.cells #[.int .i64 0] 3) = w' := by
  go_enter Tryz.func85, Tryz.ntmps85
  go_wp2
  go_ret
  exact ⟨rfl, rfl⟩
theorem splitseq_any (s t : ByteArray) (w : World) : Calls Tryz.prog 64 #[.string s, .string t] w fun e w' => e = .returned (.func (.func 98) #[] #[.pointer (some ⟨w.heap.size + 1, 0, none⟩), .pointer (some ⟨w.heap.size, 0, none⟩), .pointer (some ⟨w.heap.size + 1 + 1, 0, none⟩)]) ∧ ((w.alloc (.cells #[.string s] 9)).alloc (.cells #[.string t] 9)).alloc (.cells #[.int .i64 0] 3) = w' := by
  go_enter Tryz.func64, Tryz.ntmps64
  go_wp2_with (go_at_call 85; refine (sseq_any s t w).mono ?_; rintro e w' ⟨rfl, rfl⟩)
  go_ret
  exact ⟨rfl, rfl⟩

def okP (p : ByteArray) : Bool := (numR p.data.toList 9999).2
def valP (p : ByteArray) : Nat := (numR p.data.toList 9999).1
def slotP (ps : List ByteArray) (j : Nat) : Int := ((ps.map valP).getD j 0 : Nat)
def cellsP (ps : List ByteArray) : Array Value := #[.int .i64 (slotP ps 0), .int .i64 (slotP ps 1), .int .i64 (slotP ps 2), .int .i64 (slotP ps 3)]
def ints4 (a b c d : Int) : Array Value := #[.int .i64 a, .int .i64 b, .int .i64 c, .int .i64 d]
/-- Are these pieces numbers of a version? -/
def readsP (ps : List ByteArray) : Bool := ps.all okP && decide (ps.length ≤ 4)

def nI (w : World) (pre : List ByteArray) (W : World) : Prop :=
  (pre.all okP = true ∧ pre.length ≤ 4) ∧ Box W w.heap.size 43 (ints4 0 0 0 0) ∧ Boxed W (w.heap.size + 1) 3 (.int .i64 0) ∧ Boxed W (w.heap.size + 1 + 1) 4 (.bool false) ∧ Box W (w.heap.size + 1 + 1 + 1) 43 (cellsP pre) ∧ Boxed W (w.heap.size + 1 + 1 + 1 + 1) 3 (.int .i64 (pre.length : Int)) ∧ Below w.heap.size w W
def nX (w : World) (s : ByteArray) (_ : List ByteArray) (W : World) : Prop :=
  ∃ a b c d m, readsP (pieces 46 s) = false ∧ Box W w.heap.size 43 (ints4 a b c d) ∧ Boxed W (w.heap.size + 1) 3 (.int .i64 m) ∧ Boxed W (w.heap.size + 1 + 1) 4 (.bool false) ∧ Below w.heap.size w W
theorem Box.kept {W W' : World} {row : Option Nat} {g : Nat} {t : TypeId} {cs : Array Value} (h : Box W g t cs) (hg : W.grownBy W' row) (hne : some g ≠ row) : Box W' g t cs := (hg.block g h.lt hne).trans h
theorem nI_steady (w : World) (lo hi : Nat) (h : w.heap.size + 5 ≤ lo) : Steady lo hi (nI w) := by
  rintro pre X Y row ⟨h0, h1, h2, h3, h4, h5, hb⟩ hg hr
  have far : ∀ k, k < lo → some k ≠ row := fun k hk e => by have := (hr k e.symm).1; omega
  exact ⟨h0, h1.kept hg (far _ (by omega)), h2.kept hg (far _ (by omega)), h3.kept hg (far _ (by omega)), h4.kept hg (far _ (by omega)), h5.kept hg (far _ (by omega)), hb.grown hg hb.size (fun k e => by have := (hr k e).1; omega)⟩
theorem nX_steady (w : World) (s : ByteArray) (lo hi : Nat) (h : w.heap.size + 5 ≤ lo) : Steady lo hi (nX w s) := by
  rintro pre X Y row ⟨a, b, c, d, m, h0, h1, h2, h3, hb⟩ hg hr
  have far : ∀ k, k < lo → some k ≠ row := fun k hk e => by have := (hr k e.symm).1; omega
  exact ⟨a, b, c, d, m, h0, h1.kept hg (far _ (by omega)), h2.kept hg (far _ (by omega)), h3.kept hg (far _ (by omega)), hb.grown hg hb.size (fun k e => by have := (hr k e).1; omega)⟩

theorem nI_on {w : World} {pre : List ByteArray} {X Y : World} (h : nI w pre X) (hb : Below X.heap.size X Y) : nI w pre Y := by
  obtain ⟨h0, h1, h2, h3, h4, h5, hbb⟩ := h
  exact ⟨h0, h1.on hb, boxed_same h2 (hb.block _ h2.lt), boxed_same h3 (hb.block _ h3.lt), h4.on hb, boxed_same h5 (hb.block _ h5.lt), bch hbb hb⟩

def NumsR (s : ByteArray) (w : World) (e : Ending) (w' : World) : Prop :=
  ∃ a b c d m, e = .returned (.tuple #[.agg (ints4 a b c d), .int .i64 m, .bool (readsP (pieces 46 s))]) ∧ (readsP (pieces 46 s) = true → ints4 a b c d = cellsP (pieces 46 s) ∧ m = ((pieces 46 s).length : Int)) ∧ Below w.heap.size w w'

theorem num9 (x : ByteArray) (w : World) : Calls Tryz.prog 158 #[.string x, .int .i64 9999] w fun e w' => e = .returned (.tuple #[.int .i64 (valP x : Int), .bool (okP x)]) ∧ Below w.heap.size w w' := number_any x 9999 (by omega) w
/-- Where the loop begins. -/
def nW (s : ByteArray) (w : World) : World :=
  (((((((w.alloc (.cells #[.int .i64 0, .int .i64 0, .int .i64 0, .int .i64 0] 43)).alloc (.cells #[.int .i64 0] 3)).alloc (.cells #[.bool false] 4)).alloc (.cells #[.int .i64 0, .int .i64 0, .int .i64 0, .int .i64 0] 43)).alloc (.cells #[.int .i64 0] 3)).alloc (.cells #[.string s] 9)).alloc (.cells #[.string ⟨#[46]⟩] 9)).alloc (.cells #[.int .i64 0] 3)
theorem nW_boxes (s : ByteArray) (w : World) : nI w [] (nW s w) ∧ Boxed (nW s w) (w.heap.size + 5) 9 (.string s) ∧ Boxed (nW s w) (w.heap.size + 5 + 1) 9 (.string ⟨#[46]⟩) ∧ Boxed (nW s w) (w.heap.size + 5 + 1 + 1) 3 (.int .i64 0) ∧ (nW s w).heap.size = w.heap.size + 5 + 3 := by
  unfold nW
  have b0 := ((((((((box_new (w := w) (t := 43) (cs := ints4 0 0 0 0)).alloc (.cells #[.int .i64 0] 3)).alloc (.cells #[.bool false] 4)).alloc (.cells #[.int .i64 0, .int .i64 0, .int .i64 0, .int .i64 0] 43)).alloc (.cells #[.int .i64 0] 3)).alloc (.cells #[.string s] 9)).alloc (.cells #[.string ⟨#[46]⟩] 9)).alloc (.cells #[.int .i64 0] 3))
  have b1 := (((((((Boxed.new (w.alloc (.cells (ints4 0 0 0 0) 43)) 3 (.int .i64 0)).alloc (.cells #[.bool false] 4)).alloc (.cells #[.int .i64 0, .int .i64 0, .int .i64 0, .int .i64 0] 43)).alloc (.cells #[.int .i64 0] 3)).alloc (.cells #[.string s] 9)).alloc (.cells #[.string ⟨#[46]⟩] 9)).alloc (.cells #[.int .i64 0] 3))
  have b2 := ((((((Boxed.new ((w.alloc (.cells (ints4 0 0 0 0) 43)).alloc (.cells #[.int .i64 0] 3)) 4 (.bool false)).alloc (.cells #[.int .i64 0, .int .i64 0, .int .i64 0, .int .i64 0] 43)).alloc (.cells #[.int .i64 0] 3)).alloc (.cells #[.string s] 9)).alloc (.cells #[.string ⟨#[46]⟩] 9)).alloc (.cells #[.int .i64 0] 3))
  have b3 := (((((box_new (w := ((w.alloc (.cells (ints4 0 0 0 0) 43)).alloc (.cells #[.int .i64 0] 3)).alloc (.cells #[.bool false] 4)) (t := 43) (cs := ints4 0 0 0 0)).alloc (.cells #[.int .i64 0] 3)).alloc (.cells #[.string s] 9)).alloc (.cells #[.string ⟨#[46]⟩] 9)).alloc (.cells #[.int .i64 0] 3))
  have b4 := ((((Boxed.new ((((w.alloc (.cells (ints4 0 0 0 0) 43)).alloc (.cells #[.int .i64 0] 3)).alloc (.cells #[.bool false] 4)).alloc (.cells (ints4 0 0 0 0) 43)) 3 (.int .i64 0)).alloc (.cells #[.string s] 9)).alloc (.cells #[.string ⟨#[46]⟩] 9)).alloc (.cells #[.int .i64 0] 3))
  have b5 := (((Boxed.new (((((w.alloc (.cells (ints4 0 0 0 0) 43)).alloc (.cells #[.int .i64 0] 3)).alloc (.cells #[.bool false] 4)).alloc (.cells (ints4 0 0 0 0) 43)).alloc (.cells #[.int .i64 0] 3)) 9 (.string s)).alloc (.cells #[.string ⟨#[46]⟩] 9)).alloc (.cells #[.int .i64 0] 3))
  have b6 := ((Boxed.new ((((((w.alloc (.cells (ints4 0 0 0 0) 43)).alloc (.cells #[.int .i64 0] 3)).alloc (.cells #[.bool false] 4)).alloc (.cells (ints4 0 0 0 0) 43)).alloc (.cells #[.int .i64 0] 3)).alloc (.cells #[.string s] 9)) 9 (.string ⟨#[46]⟩)).alloc (.cells #[.int .i64 0] 3))
  have b7 := Boxed.new (((((((w.alloc (.cells (ints4 0 0 0 0) 43)).alloc (.cells #[.int .i64 0] 3)).alloc (.cells #[.bool false] 4)).alloc (.cells (ints4 0 0 0 0) 43)).alloc (.cells #[.int .i64 0] 3)).alloc (.cells #[.string s] 9)).alloc (.cells #[.string ⟨#[46]⟩] 9)) 3 (.int .i64 0)
  simp only [World.size_alloc] at b1 b2 b3 b4 b5 b6 b7
  have hb : Below w.heap.size w (nW s w) := by
    unfold nW
    refine ((((((((Below.refl _ w).alloc (Nat.le_refl _) _).alloc ?_ _).alloc ?_ _).alloc ?_ _).alloc ?_ _).alloc ?_ _).alloc ?_ _).alloc ?_ _ <;> (simp only [World.size_alloc]; omega)
  exact ⟨⟨⟨rfl, by simp⟩, b0, b1, b2, b3, b4, hb⟩, b5, b6, b7, by simp only [World.size_alloc]⟩
theorem slot_snoc (pre : List ByteArray) (x : ByteArray) (h : pre.length < 4) : (cellsP pre).setIfInBounds pre.length (.int .i64 (valP x : Int)) = cellsP (pre ++ [x]) := by
  match pre, h with
  | [], _ => rfl
  | [a], _ => rfl
  | [a, b], _ => rfl
  | [a, b, c], _ => rfl
  | a :: b :: c :: d :: r, h => simp at h; omega

/-- The three results are set. -/
def put7 (w X : World) (a b c d m : Int) (o : Bool) : World :=
  ((((((X.setCell ⟨w.heap.size, 0, none⟩ (.int .i64 a)).setCell ⟨w.heap.size, 1, none⟩ (.int .i64 b)).setCell ⟨w.heap.size, 2, none⟩ (.int .i64 c)).setCell ⟨w.heap.size, 3, none⟩ (.int .i64 d)).setCell ⟨w.heap.size + 1, 0, none⟩ (.int .i64 m)).setCell ⟨w.heap.size + 1 + 1, 0, none⟩ (.bool o)).drew
theorem set4 (a b c d : Int) : ((((ints4 0 0 0 0).setIfInBounds 0 (.int .i64 a)).setIfInBounds 1 (.int .i64 b)).setIfInBounds 2 (.int .i64 c)).setIfInBounds 3 (.int .i64 d) = ints4 a b c d := rfl
theorem put7_boxes {w X : World} {pre : List ByteArray} (h : nI w pre X) (a b c d m : Int) (o : Bool) :
    Box (put7 w X a b c d m o) w.heap.size 43 (ints4 a b c d) ∧ Boxed (put7 w X a b c d m o) (w.heap.size + 1) 3 (.int .i64 m) ∧ Boxed (put7 w X a b c d m o) (w.heap.size + 1 + 1) 4 (.bool o) ∧ Below w.heap.size w (put7 w X a b c d m o) ∧ (∀ k, w.heap.size + 3 ≤ k → (put7 w X a b c d m o).heap[k]? = X.heap[k]?) := by
  obtain ⟨_, h1, h2, h3, _, _, hb⟩ := h
  refine ⟨?_, ?_, ?_, ?_, ?_⟩
  · rw [← set4 a b c d]
    unfold put7
    refine Box.drew ?_
    exact ((((((h1.set (k := 0) (.int .i64 a)).set (k := 1) (.int .i64 b)).set (k := 2) (.int .i64 c)).set (k := 3) (.int .i64 d)).far (p := ⟨w.heap.size + 1, 0, none⟩) (by simp) (.int .i64 m)).far (p := ⟨w.heap.size + 1 + 1, 0, none⟩) (by simp <;> omega) (.bool o))
  · have e : Box X (w.heap.size + 1) 3 #[.int .i64 0] := h2
    have e4 : Boxed ((((X.setCell ⟨w.heap.size, 0, none⟩ (.int .i64 a)).setCell ⟨w.heap.size, 1, none⟩ (.int .i64 b)).setCell ⟨w.heap.size, 2, none⟩ (.int .i64 c)).setCell ⟨w.heap.size, 3, none⟩ (.int .i64 d)) (w.heap.size + 1) 3 (.int .i64 0) := (((e.far (p := ⟨w.heap.size, 0, none⟩) (by simp) _).far (p := ⟨w.heap.size, 1, none⟩) (by simp) _).far (p := ⟨w.heap.size, 2, none⟩) (by simp) _).far (p := ⟨w.heap.size, 3, none⟩) (by simp) _
    unfold put7
    exact Box.drew ((e4.set (.int .i64 m)).other (by omega) _)
  · have e : Box X (w.heap.size + 1 + 1) 4 #[.bool false] := h3
    have e5 : Boxed (((((X.setCell ⟨w.heap.size, 0, none⟩ (.int .i64 a)).setCell ⟨w.heap.size, 1, none⟩ (.int .i64 b)).setCell ⟨w.heap.size, 2, none⟩ (.int .i64 c)).setCell ⟨w.heap.size, 3, none⟩ (.int .i64 d)).setCell ⟨w.heap.size + 1, 0, none⟩ (.int .i64 m)) (w.heap.size + 1 + 1) 4 (.bool false) := ((((e.far (p := ⟨w.heap.size, 0, none⟩) (by simp <;> omega) _).far (p := ⟨w.heap.size, 1, none⟩) (by simp <;> omega) _).far (p := ⟨w.heap.size, 2, none⟩) (by simp <;> omega) _).far (p := ⟨w.heap.size, 3, none⟩) (by simp <;> omega) _).far (p := ⟨w.heap.size + 1, 0, none⟩) (by simp) _
    unfold put7
    exact Box.drew (e5.set (.bool o))
  · unfold put7
    have l1 : w.heap.size ≤ w.heap.size + 1 := by omega
    have l2 : w.heap.size ≤ w.heap.size + 1 + 1 := by omega
    have e1 := hb.setCell (p := ⟨w.heap.size, 0, none⟩) (Nat.le_refl _) (.int .i64 a)
    have e2 := e1.setCell (p := ⟨w.heap.size, 1, none⟩) (Nat.le_refl _) (.int .i64 b)
    have e3 := e2.setCell (p := ⟨w.heap.size, 2, none⟩) (Nat.le_refl _) (.int .i64 c)
    have e4 := e3.setCell (p := ⟨w.heap.size, 3, none⟩) (Nat.le_refl _) (.int .i64 d)
    have e5 := e4.setCell (p := ⟨w.heap.size + 1, 0, none⟩) l1 (.int .i64 m)
    have e6 := e5.setCell (p := ⟨w.heap.size + 1 + 1, 0, none⟩) l2 (.bool o)
    exact e6.drew
  · intro k hk
    unfold put7
    rw [show ∀ Z : World, Z.drew.heap = Z.heap from fun _ => rfl]
    rw [Below.heap_setCell _ _ _ _ (by simp <;> omega), Below.heap_setCell _ _ _ _ (by simp <;> omega), Below.heap_setCell _ _ _ _ (by simp <;> omega), Below.heap_setCell _ _ _ _ (by simp <;> omega), Below.heap_setCell _ _ _ _ (by simp <;> omega), Below.heap_setCell _ _ _ _ (by simp <;> omega)]
theorem put7_stop {w X : World} {pre ys : List ByteArray} {s : ByteArray} (h : nI w pre X) (hno : readsP (pieces 46 s) = false) (a b c d m : Int) : Fix (w.heap.size + 5) (w.heap.size + 5 + 5) X (put7 w X a b c d m false) ∧ nX w s ys (put7 w X a b c d m false) := by
  obtain ⟨h1, h2, h3, h4, h5⟩ := put7_boxes h a b c d m false
  exact ⟨fun k hk _ => h5 k (by omega), a, b, c, d, m, hno, h1, h2, h3, h4⟩
/-- One number more. -/
def step7 (w X : World) (k : Nat) (x : Int) : World := (X.setCell ⟨w.heap.size + 1 + 1 + 1, k, none⟩ (.int .i64 x)).setCell ⟨w.heap.size + 1 + 1 + 1 + 1, 0, none⟩ (.int .i64 ((k : Int) + 1))
theorem step7_on {w X : World} {pre : List ByteArray} {x : ByteArray} (h : nI w pre X) (hx : okP x = true) (hl : pre.length < 4) : Fix (w.heap.size + 5) (w.heap.size + 5 + 5) X (step7 w X pre.length (valP x)) ∧ nI w (pre ++ [x]) (step7 w X pre.length (valP x)) := by
  obtain ⟨⟨h0, _⟩, h1, h2, h3, h4, h5, hb⟩ := h
  refine ⟨fun k hk _ => ?_, ⟨by rw [List.all_append, h0]; simp [hx], by simp; omega⟩, ?_, ?_, ?_, ?_, ?_, ?_⟩
  · unfold step7
    rw [Below.heap_setCell _ _ _ _ (by simp <;> omega), Below.heap_setCell _ _ _ _ (by simp <;> omega)]
  · exact (h1.far (p := ⟨w.heap.size + 1 + 1 + 1, pre.length, none⟩) (by simp <;> omega) _).far (p := ⟨w.heap.size + 1 + 1 + 1 + 1, 0, none⟩) (by simp <;> omega) _
  · have e : Box X (w.heap.size + 1) 3 #[.int .i64 0] := h2
    exact (e.far (p := ⟨w.heap.size + 1 + 1 + 1, pre.length, none⟩) (by simp <;> omega) _).far (p := ⟨w.heap.size + 1 + 1 + 1 + 1, 0, none⟩) (by simp <;> omega) _
  · have e : Box X (w.heap.size + 1 + 1) 4 #[.bool false] := h3
    exact (e.far (p := ⟨w.heap.size + 1 + 1 + 1, pre.length, none⟩) (by simp) _).far (p := ⟨w.heap.size + 1 + 1 + 1 + 1, 0, none⟩) (by simp <;> omega) _
  · rw [← slot_snoc pre x hl]
    exact (h4.set (k := pre.length) _).far (p := ⟨w.heap.size + 1 + 1 + 1 + 1, 0, none⟩) (by simp) _
  · have e : Box X (w.heap.size + 1 + 1 + 1 + 1) 3 #[.int .i64 (pre.length : Int)] := h5
    have e2 : Boxed (X.setCell ⟨w.heap.size + 1 + 1 + 1, pre.length, none⟩ (.int .i64 (valP x : Int))) (w.heap.size + 1 + 1 + 1 + 1) 3 (.int .i64 (pre.length : Int)) := e.far (p := ⟨w.heap.size + 1 + 1 + 1, pre.length, none⟩) (by simp) _
    have e3 := e2.set (.int .i64 ((pre.length : Int) + 1))
    rw [List.length_append]
    exact e3
  · exact (hb.setCell (p := ⟨w.heap.size + 1 + 1 + 1, pre.length, none⟩) (by show w.heap.size ≤ w.heap.size + 1 + 1 + 1; omega) _).setCell (p := ⟨w.heap.size + 1 + 1 + 1 + 1, 0, none⟩) (by show w.heap.size ≤ w.heap.size + 1 + 1 + 1 + 1; omega) _
theorem res37 (W : World) (g : Nat) (a b c d m : Int) (o : Bool) (h2 : Box W g 43 (ints4 a b c d)) (h3 : Boxed W (g + 1) 3 (.int .i64 m)) (h4 : Boxed W (g + 1 + 1) 4 (.bool o)) (tmps : Array Value) (t2 : tmps.getD 2 undef = .pointer (some ⟨g, 0, none⟩)) (t3 : tmps.getD 3 undef = .pointer (some ⟨g + 1, 0, none⟩)) (t4 : tmps.getD 4 undef = .pointer (some ⟨g + 1 + 1, 0, none⟩)) : (results Tryz.f151 tmps).run Tryz.prog W = .ok (.tuple #[.agg (ints4 a b c d), .int .i64 m, .bool o]) W := by
  have c0 : W.cell? ⟨g, 0, none⟩ = some (.int .i64 a) := h2.cell (k := 0) rfl
  have c1 : W.cell? ⟨g, 1, none⟩ = some (.int .i64 b) := h2.cell (k := 1) rfl
  have c2 : W.cell? ⟨g, 2, none⟩ = some (.int .i64 c) := h2.cell (k := 2) rfl
  have c3 : W.cell? ⟨g, 3, none⟩ = some (.int .i64 d) := h2.cell (k := 3) rfl
  have c4 := h3.cell
  have c5 := h4.cell
  have ee : Tryz.f151.results = #[.cell 2 43, .cell 3 3, .cell 4 4] := rfl
  rw [Array.getD_eq_getD_getElem?] at t2 t3 t4
  unfold results
  rw [ee]
  simp [go_sem, t2, t3, t4, c0, c1, c2, c3, c4, c5, ints4]

set_option maxRecDepth 100000 in
set_option maxHeartbeats 4000000 in
theorem nums_any (s : ByteArray) (hs : s.size ≤ 140737488355328) (w : World) : Calls Tryz.prog 151 #[.string s] w (NumsR s w) := by
  refine (callsIn_wide (n := 5)).1 ?_
  refine callsIn_of_wp_marks Tryz.func151 rfl trivial ?_ rfl
  simp only [Tryz.ntmps151, List.size_toArray, List.length_cons, List.length_nil, Nat.reduceAdd, Nat.reduceSub, Array.replicate_succ, Array.replicate_zero, List.push_toArray, List.append_toArray, List.nil_append, List.cons_append]
  gi_wp2_with (refine ⟨trivial, ?_⟩; gi_at_call 64; refine (callsIn_wide.2 (splitseq_any s ⟨#[46]⟩ _)).mono ?_; rintro e w' ⟨rfl, rfl⟩)
  obtain ⟨h0, b5, b6, b7, hsz⟩ := nW_boxes s w
  have HW0 : Hid (nW s w = _) := Lib.hid rfl
  obtain ⟨W0, hW0⟩ : ∃ W0, nW s w = W0 := ⟨_, rfl⟩
  have hW0' := hW0
  unfold nW at hW0'
  rw [hW0']
  rw [hW0] at h0 b5 b6 b7 hsz
  clear HW0 hW0 hW0'
  refine range_hands rfl (by omega) (gf := 98) (lb := #[.pointer (some ⟨w.heap.size + 5 + 1, 0, none⟩), .pointer (some ⟨w.heap.size + 5, 0, none⟩), .pointer (some ⟨w.heap.size + 5 + 1 + 1, 0, none⟩)]) rfl trivial (enters_of Tryz.func98 (by kernel_rfl) rfl)
    (w.heap.size + 5) hsz.symm (split1_hands 46 _ (by omega) (w.heap.size + 5) s hs W0 b5 b6 b7) rfl (nI w) (nX w s) (nI_steady w _ _ (Nat.le_refl _)) (nX_steady w s _ _ (Nat.le_refl _)) h0
    (fun x => { tmps := #[.string s, undef, .pointer (some ⟨w.heap.size, 0, none⟩), .pointer (some ⟨w.heap.size + 1, 0, none⟩), .pointer (some ⟨w.heap.size + 1 + 1, 0, none⟩), .pointer (some ⟨w.heap.size + 1 + 1 + 1, 0, none⟩), .pointer (some ⟨w.heap.size + 1 + 1 + 1 + 1, 0, none⟩), .string x, undef, undef, .string s,
      .func (.func 98) #[] #[.pointer (some ⟨w.heap.size + 5 + 1, 0, none⟩), .pointer (some ⟨w.heap.size + 5, 0, none⟩), .pointer (some ⟨w.heap.size + 5 + 1 + 1, 0, none⟩)],
      .string x, undef, undef, undef, undef, undef, undef, undef, undef, undef, undef, undef, undef, undef, undef, undef, undef, undef, undef, undef, undef], defers := [] }) ?assign ?body ?done ?stop
  case assign =>
    intro l x X K hK
    gi_wp2
    exact hK
  case body =>
    rintro l pre x X hpre hsx ⟨⟨hok, hlen⟩, h1, h2, h3, h4, h5, hb⟩
    have c6 := h5.cell
    have f6 := h5.frozen
    obtain ⟨q, hq⟩ : ∃ q, q = okP x := ⟨_, rfl⟩
    have HN : Hid (∀ W, Calls Tryz.prog 158 #[.string x, .int .i64 9999] W fun e w' => e = .returned (.tuple #[.int .i64 (valP x : Int), .bool q]) ∧ Below W.heap.size W w') := Lib.hid (fun W => by rw [hq]; exact num9 x W)
    cases q with
    | false =>
      have HQ := Lib.hid hq
      have HNO : Hid (readsP (pieces 46 s) = false) := Lib.hid (by
        obtain ⟨t, ht⟩ := hpre
        unfold readsP
        rw [← ht, List.all_append, List.all_append, List.all_cons, ← hq]
        simp)
      have HI := Lib.hid (show nI w pre X from ⟨⟨hok, hlen⟩, h1, h2, h3, h4, h5, hb⟩)
      have HS := Lib.hid hsx
      clear hq hpre hok hlen h1 h2 h3 h4 h5 hb c6 f6 hsx hsz b5 b6 b7 h0 hs
      gi_wp2_with (refine ⟨trivial, ?_⟩; gi_at_call 158; refine (CallsIn.inRound l (callsIn_wide.2 (HN.out _))).mono ?_; rintro e w1 ⟨rfl, hb1⟩; refine Hid.out ?_)
      refine Lib.hid ?_
      have HI1 := Lib.hid (nI_on HI.out hb1)
      have HF := Lib.hid (Fix.below (lo := w.heap.size + 5) hb1 HS.out)
      obtain ⟨h0, h1, h2, h3, h4, h5, hb⟩ := HI1.out
      obtain ⟨p0, hp0⟩ : ∃ p, p = slotP pre 0 := ⟨_, rfl⟩
      obtain ⟨p1, hp1⟩ : ∃ p, p = slotP pre 1 := ⟨_, rfl⟩
      obtain ⟨p2, hp2⟩ : ∃ p, p = slotP pre 2 := ⟨_, rfl⟩
      obtain ⟨p3, hp3⟩ : ∃ p, p = slotP pre 3 := ⟨_, rfl⟩
      have c6 := h5.cell
      have a0 : w1.cell? ⟨w.heap.size + 1 + 1 + 1, 0, none⟩ = some (.int .i64 p0) := by rw [hp0]; exact h4.cell (k := 0) rfl
      have a1 : w1.cell? ⟨w.heap.size + 1 + 1 + 1, 1, none⟩ = some (.int .i64 p1) := by rw [hp1]; exact h4.cell (k := 1) rfl
      have a2 : w1.cell? ⟨w.heap.size + 1 + 1 + 1, 2, none⟩ = some (.int .i64 p2) := by rw [hp2]; exact h4.cell (k := 2) rfl
      have a3 : w1.cell? ⟨w.heap.size + 1 + 1 + 1, 3, none⟩ = some (.int .i64 p3) := by rw [hp3]; exact h4.cell (k := 3) rfl
      have z0 : w1.cell? ⟨w.heap.size, 0, none⟩ = some (.int .i64 0) := h1.cell (k := 0) rfl
      have z1 : w1.cell? ⟨w.heap.size, 1, none⟩ = some (.int .i64 0) := h1.cell (k := 1) rfl
      have z2 : w1.cell? ⟨w.heap.size, 2, none⟩ = some (.int .i64 0) := h1.cell (k := 2) rfl
      have z3 : w1.cell? ⟨w.heap.size, 3, none⟩ = some (.int .i64 0) := h1.cell (k := 3) rfl
      have y0 := h2.cell
      have y1 := h3.cell
      have g0 := frozen_of_row w1 _ 0 _ _ h1
      have g1 := frozen_of_row w1 _ 1 _ _ h1
      have g2 := frozen_of_row w1 _ 2 _ _ h1
      have g3 := frozen_of_row w1 _ 3 _ _ h1
      have g4 := h2.frozen
      have g5 := h3.frozen
      clear hb1 h0 h1 h2 h3 h4 h5 hb HS HI HN HQ hp0 hp1 hp2 hp3
      gi_wp2
      gi_region
      all_goals
        gi_wp2
        have HO := put7_stop (ys := pre ++ [x]) HI1.out HNO.out p0 p1 p2 p3 (pre.length : Int)
        exact ⟨HF.out.trans HO.1, HO.2⟩
    | true =>
      have HX : Hid (okP x = true) := Lib.hid hq.symm
      have HI := Lib.hid (show nI w pre X from ⟨⟨hok, hlen⟩, h1, h2, h3, h4, h5, hb⟩)
      have HS := Lib.hid hsx
      have HP := Lib.hid hpre
      obtain ⟨k, hk⟩ : ∃ k, k = pre.length := ⟨_, rfl⟩
      have hk4 : k ≤ 4 := by omega
      have HK := Lib.hid hk
      clear hq hpre hok hlen h1 h2 h3 h4 h5 hb c6 f6 hsx hsz b5 b6 b7 h0 hs hk
      by_cases h4k : k = 4
      · have HNO : Hid (readsP (pieces 46 s) = false) := Lib.hid (by
          obtain ⟨t, ht⟩ := HP.out
          unfold readsP
          rw [← ht]
          have : ¬ (pre ++ [x] ++ t).length ≤ 4 := by simp; have := HK.out; omega
          rw [decide_eq_false this, Bool.and_false])
        subst h4k
        gi_wp2_with (refine ⟨trivial, ?_⟩; gi_at_call 158; refine (CallsIn.inRound l (callsIn_wide.2 (HN.out _))).mono ?_; rintro e w1 ⟨rfl, hb1⟩; refine Hid.out ?_)
        refine Lib.hid ?_
        have HI1 := Lib.hid (nI_on HI.out hb1)
        have HF := Lib.hid (Fix.below (lo := w.heap.size + 5) hb1 HS.out)
        obtain ⟨h0, h1, h2, h3, h4, h5, hb⟩ := HI1.out
        obtain ⟨p0, hp0⟩ : ∃ p, p = slotP pre 0 := ⟨_, rfl⟩
        obtain ⟨p1, hp1⟩ : ∃ p, p = slotP pre 1 := ⟨_, rfl⟩
        obtain ⟨p2, hp2⟩ : ∃ p, p = slotP pre 2 := ⟨_, rfl⟩
        obtain ⟨p3, hp3⟩ : ∃ p, p = slotP pre 3 := ⟨_, rfl⟩
        have c6 : w1.cell? ⟨w.heap.size + 1 + 1 + 1 + 1, 0, none⟩ = some (.int .i64 4) := by have := h5.cell; rw [← HK.out] at this; exact this
        have a0 : w1.cell? ⟨w.heap.size + 1 + 1 + 1, 0, none⟩ = some (.int .i64 p0) := by rw [hp0]; exact h4.cell (k := 0) rfl
        have a1 : w1.cell? ⟨w.heap.size + 1 + 1 + 1, 1, none⟩ = some (.int .i64 p1) := by rw [hp1]; exact h4.cell (k := 1) rfl
        have a2 : w1.cell? ⟨w.heap.size + 1 + 1 + 1, 2, none⟩ = some (.int .i64 p2) := by rw [hp2]; exact h4.cell (k := 2) rfl
        have a3 : w1.cell? ⟨w.heap.size + 1 + 1 + 1, 3, none⟩ = some (.int .i64 p3) := by rw [hp3]; exact h4.cell (k := 3) rfl
        have z0 : w1.cell? ⟨w.heap.size, 0, none⟩ = some (.int .i64 0) := h1.cell (k := 0) rfl
        have z1 : w1.cell? ⟨w.heap.size, 1, none⟩ = some (.int .i64 0) := h1.cell (k := 1) rfl
        have z2 : w1.cell? ⟨w.heap.size, 2, none⟩ = some (.int .i64 0) := h1.cell (k := 2) rfl
        have z3 : w1.cell? ⟨w.heap.size, 3, none⟩ = some (.int .i64 0) := h1.cell (k := 3) rfl
        have y0 := h2.cell
        have y1 := h3.cell
        have g0 := frozen_of_row w1 _ 0 _ _ h1
        have g1 := frozen_of_row w1 _ 1 _ _ h1
        have g2 := frozen_of_row w1 _ 2 _ _ h1
        have g3 := frozen_of_row w1 _ 3 _ _ h1
        have g4 := h2.frozen
        have g5 := h3.frozen
        clear hb1 h0 h1 h2 h3 h4 h5 hb HS HI HN HX HP HK hp0 hp1 hp2 hp3
        gi_wp2
        gi_region
        all_goals
          gi_wp2
          have HO := put7_stop (ys := pre ++ [x]) HI1.out HNO.out p0 p1 p2 p3 4
          exact ⟨HF.out.trans HO.1, HO.2⟩
      · have q1 : ((k : Int) == 4) = false := by rw [beq_eq_false_iff_ne]; omega
        have q2 : (0 : Int) ≤ (k : Int) := by omega
        have q3 : (k : Int) < 4 := by omega
        have q4 : IntKind.i64.wrap ((k : Int) + 1) = (k : Int) + 1 := IntWalk.i64_in _ (by omega)
        gi_wp2_with (refine ⟨trivial, ?_⟩; gi_at_call 158; refine (CallsIn.inRound l (callsIn_wide.2 (HN.out _))).mono ?_; rintro e w1 ⟨rfl, hb1⟩; refine Hid.out ?_)
        refine Lib.hid ?_
        have HI1 := Lib.hid (nI_on HI.out hb1)
        have HF := Lib.hid (Fix.below (lo := w.heap.size + 5) hb1 HS.out)
        obtain ⟨h0, h1, h2, h3, h4, h5, hb⟩ := HI1.out
        have c6 : w1.cell? ⟨w.heap.size + 1 + 1 + 1 + 1, 0, none⟩ = some (.int .i64 (k : Int)) := by rw [HK.out]; exact h5.cell
        have f6 := h5.frozen
        obtain ⟨pk, hpk⟩ : ∃ pk : Int, (cellsP pre)[k]? = some (.int .i64 pk) := by
          rcases (by omega : k = 0 ∨ k = 1 ∨ k = 2 ∨ k = 3) with rfl | rfl | rfl | rfl <;> exact ⟨_, rfl⟩
        have ak := h4.cell hpk
        have fk := frozen_of_row w1 _ k _ _ h4
        clear hb1 h0 h1 h2 h3 h4 h5 hb HS HI HN HP h4k hpk
        gi_wp2
        have HO := step7_on HI1.out HX.out (by have := HK.out; omega)
        rw [← HK.out] at HO
        exact ⟨HF.out.trans HO.1, HO.2⟩
  case done =>
    rintro X HX hK
    have HI := Lib.hid HX
    obtain ⟨h0, h1, h2, h3, h4, h5, hb⟩ := HX
    have HR : Hid (readsP (pieces 46 s) = true) := Lib.hid (by unfold readsP; rw [h0.1, decide_eq_true h0.2]; rfl)
    obtain ⟨p0, hp0⟩ : ∃ p, p = slotP (pieces 46 s) 0 := ⟨_, rfl⟩
    obtain ⟨p1, hp1⟩ : ∃ p, p = slotP (pieces 46 s) 1 := ⟨_, rfl⟩
    obtain ⟨p2, hp2⟩ : ∃ p, p = slotP (pieces 46 s) 2 := ⟨_, rfl⟩
    obtain ⟨p3, hp3⟩ : ∃ p, p = slotP (pieces 46 s) 3 := ⟨_, rfl⟩
    obtain ⟨k, hk⟩ : ∃ k, k = (pieces 46 s).length := ⟨_, rfl⟩
    have HP : Hid (ints4 p0 p1 p2 p3 = cellsP (pieces 46 s) ∧ (k : Int) = ((pieces 46 s).length : Int)) := Lib.hid ⟨by rw [hp0, hp1, hp2, hp3]; rfl, by rw [hk]⟩
    have c6 : X.cell? ⟨w.heap.size + 1 + 1 + 1 + 1, 0, none⟩ = some (.int .i64 (k : Int)) := by rw [hk]; exact h5.cell
    have a0 : X.cell? ⟨w.heap.size + 1 + 1 + 1, 0, none⟩ = some (.int .i64 p0) := by rw [hp0]; exact h4.cell (k := 0) rfl
    have a1 : X.cell? ⟨w.heap.size + 1 + 1 + 1, 1, none⟩ = some (.int .i64 p1) := by rw [hp1]; exact h4.cell (k := 1) rfl
    have a2 : X.cell? ⟨w.heap.size + 1 + 1 + 1, 2, none⟩ = some (.int .i64 p2) := by rw [hp2]; exact h4.cell (k := 2) rfl
    have a3 : X.cell? ⟨w.heap.size + 1 + 1 + 1, 3, none⟩ = some (.int .i64 p3) := by rw [hp3]; exact h4.cell (k := 3) rfl
    have z0 : X.cell? ⟨w.heap.size, 0, none⟩ = some (.int .i64 0) := h1.cell (k := 0) rfl
    have z1 : X.cell? ⟨w.heap.size, 1, none⟩ = some (.int .i64 0) := h1.cell (k := 1) rfl
    have z2 : X.cell? ⟨w.heap.size, 2, none⟩ = some (.int .i64 0) := h1.cell (k := 2) rfl
    have z3 : X.cell? ⟨w.heap.size, 3, none⟩ = some (.int .i64 0) := h1.cell (k := 3) rfl
    have y0 := h2.cell
    have y1 := h3.cell
    have g0 := frozen_of_row X _ 0 _ _ h1
    have g1 := frozen_of_row X _ 1 _ _ h1
    have g2 := frozen_of_row X _ 2 _ _ h1
    have g3 := frozen_of_row X _ 3 _ _ h1
    have g4 := h2.frozen
    have g5 := h3.frozen
    have HK := Lib.hid hK
    clear h0 h1 h2 h3 h4 h5 hb hp0 hp1 hp2 hp3 hk hK hsz b5 b6 b7 hs
    gi_wp2
    gi_region
    all_goals
      gi_wp2
      obtain ⟨o1, o2, o3, o4, o5⟩ := put7_boxes HI.out p0 p1 p2 p3 (k : Int) true
      have hK2 := (o5 (w.heap.size + 5 + 3) (by omega)).trans HK.out
      refine ⟨by simp, .inl ⟨_, _, rfl, run_takeDeferred hK2, ?_⟩⟩
      refine ⟨_, res37 _ w.heap.size p0 p1 p2 p3 k true (o1.kept (grownBy_putObj' _ _ _) (by simp <;> omega)) (o2.kept (grownBy_putObj' _ _ _) (by simp <;> omega)) (o3.kept (grownBy_putObj' _ _ _) (by simp <;> omega)) _ rfl rfl rfl, ?_⟩
      exact ⟨p0, p1, p2, p3, k, by rw [HR.out], fun _ => HP.out, o4.grown (grownBy_putObj' _ _ _) o4.size (fun r e => by cases e; omega)⟩
  case stop =>
    rintro pre X ⟨a, b, c, d, m, hno, h1, h2, h3, hb⟩ hK
    have HNO := Lib.hid hno
    clear hno hsz b5 b6 b7 hs h0
    gi_wp2
    refine ⟨by simp, .inl ⟨_, _, rfl, run_takeDeferred hK, ?_⟩⟩
    refine ⟨_, res37 _ w.heap.size a b c d m false (h1.kept (grownBy_putObj' _ _ _) (by simp <;> omega)) (h2.kept (grownBy_putObj' _ _ _) (by simp <;> omega)) (h3.kept (grownBy_putObj' _ _ _) (by simp <;> omega)) _ rfl rfl rfl, ?_⟩
    exact ⟨a, b, c, d, m, by rw [HNO.out], fun h => (by rw [HNO.out] at h; cases h), hb.grown (grownBy_putObj' _ _ _) hb.size (fun r e => by cases e; omega)⟩
end Go.Proofs.YtlfehjjnepiljaaGreatDoor

namespace Go.Proofs.YtlfehjjnepiljaaGreatDoor
open Go.RowKit Go.Shelf

/-- What readTag hands back: the tag, the step, and whether they are such. -/
def tagR (l : Str) : Str × Nat × Bool :=
  if tagB (l.takeWhile lowB) = true then
    (if l.dropWhile lowB = [] then (l.takeWhile lowB, 0, true) else (l.takeWhile lowB, (numR (l.dropWhile lowB) 999).1, (numR (l.dropWhile lowB) 999).2 && decide ((numR (l.dropWhile lowB) 999).1 ≠ 0)))
  else ([], 0, false)
theorem ret_tag {t : Str} {n : Nat} {b : Bool} {s : ByteArray} {r : Str × Nat × Bool} (hs : s.data.toList = t) (h : r = (t, n, b)) : Ending.returned (.tuple #[.string s, .int .i64 (n : Int), .bool b]) = .returned (.tuple #[.string ⟨r.1.toArray⟩, .int .i64 (r.2.1 : Int), .bool r.2.2]) := by
  rw [h, ba_eq s t hs]

set_option maxRecDepth 100000 in
set_option maxHeartbeats 2000000 in
theorem readTag_any (s : ByteArray) (w : World) : Calls Tryz.prog 152 #[.string s] w fun e w' => e = .returned (.tuple #[.string ⟨(tagR s.data.toList).1.toArray⟩, .int .i64 ((tagR s.data.toList).2.1 : Int), .bool (tagR s.data.toList).2.2]) ∧ Below w.heap.size w w' := by
  go_enter Tryz.func152, Tryz.ntmps152
  go_wp2_with fail
  refine (letters_any s w).mono ?_
  rintro e w1 ⟨a, b, rfl, ha, hb, hB1⟩
  have HA := Lib.hid ha
  have HB := Lib.hid hb
  have H1 := Lib.hid hB1
  clear ha hb hB1
  go_wp2_with fail
  refine (vtag_any a w1).mono ?_
  rintro e w2 ⟨rfl, hb2⟩
  have H2 := Lib.hid (bch H1.out hb2)
  obtain ⟨tb, htb⟩ : ∃ tb, tb = tagB a.data.toList := ⟨_, rfl⟩
  rw [← htb]
  have HTB : Hid (tb = tagB (s.data.toList.takeWhile lowB)) := Lib.hid (by rw [htb, HA.out])
  clear htb hb2
  cases tb with
  | false =>
    have HR : Hid (tagR s.data.toList = ([], 0, false)) := Lib.hid (if_neg (by rw [← HTB.out]; decide))
    go_wp2_with fail
    go_ret3
    exact ⟨ret_tag (s := ⟨#[]⟩) rfl HR.out, H2.out⟩
  | true =>
    by_cases hd : b.toList = []
    · have f1 := isEmpty_yes hd
      have HR : Hid (tagR s.data.toList = (s.data.toList.takeWhile lowB, 0, true)) := Lib.hid (by
        unfold tagR
        rw [if_pos HTB.out.symm, if_pos (by rw [← HB.out, ← Lib.toList_data]; exact hd)])
      clear hd
      go_wp2_with fail
      go_ret3
      exact ⟨ret_tag HA.out HR.out, H2.out⟩
    · have f1 := isEmpty_no hd
      have HR : Hid (tagR s.data.toList = (s.data.toList.takeWhile lowB, (numR b.data.toList 999).1, (numR b.data.toList 999).2 && decide ((numR b.data.toList 999).1 ≠ 0))) := Lib.hid (by
        unfold tagR
        rw [if_pos HTB.out.symm, if_neg (by rw [← HB.out, ← Lib.toList_data]; exact hd), HB.out])
      clear hd
      go_wp2_with fail
      refine (number_any b 999 (by omega) w2).mono ?_
      rintro e w3 ⟨rfl, hb3⟩
      have H3 := Lib.hid (bch H2.out hb3)
      generalize numR b.data.toList 999 = p at HR
      obtain ⟨n, ok⟩ := p
      dsimp only at HR ⊢
      clear hb3
      cases ok with
      | false =>
        go_wp2_with fail
        go_ret3
        exact ⟨ret_tag HA.out HR.out, H3.out⟩
      | true =>
        by_cases h0 : n = 0
        · have z1 : ((n : Int) != 0) = false := by simp [h0]
          have HR2 : Hid (tagR s.data.toList = (s.data.toList.takeWhile lowB, n, false)) := Lib.hid (by rw [HR.out]; simp [h0])
          clear h0
          go_wp2_with fail
          go_ret3
          exact ⟨ret_tag HA.out HR2.out, H3.out⟩
        · have z1 : ((n : Int) != 0) = true := by simp [h0]
          have HR2 : Hid (tagR s.data.toList = (s.data.toList.takeWhile lowB, n, true)) := Lib.hid (by rw [HR.out]; simp [h0])
          clear h0
          go_wp2_with fail
          go_ret3
          exact ⟨ret_tag HA.out HR2.out, H3.out⟩
end Go.Proofs.YtlfehjjnepiljaaGreatDoor

namespace Go.Proofs.YtlfehjjnepiljaaGreatDoor
open Go.RowKit Go.Shelf

/-- A variable of an array's type is made. -/
theorem wpList_zero {P : Program} {ops : Array Oper} {rest : List Oper} {o : Oper} {a : Act} {w : World} {Q : Exit → Act → World → Prop} (hg : o.guard = none) (t : TypeId) (ho : o.op = .alloc t) (cs : Array Value) (hz : (P.info? t).map (·.zero) = some (some (.agg cs)))
    (h : wpList P ops Q rest (a.put o.dst (.pointer (some ⟨w.heap.size, 0, none⟩))) (w.alloc (.cells cs t))) : wpList P ops Q (o :: rest) a w :=
  wpList_plain hg fun _ hK => by
    unfold Oper.wp execOp
    cases hq : P.info? t with
    | none => simp [hq] at hz
    | some i =>
      have hz' : i.zero = some (.agg cs) := by simpa [hq] using hz
      simp [ho, Instr.alloc, zeroValue, typeInfo, hq, hz', newVar, Value.cells]
      exact hK _ _ h

/-- One more at this place. -/
def Ver.incr (v : Ver) (j : Nat) : Ver := ⟨if j = 0 then v.n0 + 1 else v.n0, if j = 1 then v.n1 + 1 else v.n1, if j = 2 then v.n2 + 1 else v.n2, if j = 3 then v.n3 + 1 else v.n3, v.many, v.tag, v.step⟩
/-- What Behind hands back: the version, and the error. -/
def Ver.behind (v : Ver) : Ver × Int := if v.ok = true then (if v.num (v.many.toNat - 1) = 9999 then (Ver.zero, 2) else ((v.first v.many.toNat).incr (v.many.toNat - 1), 0)) else (Ver.zero, 140)

theorem num_first (v : Ver) (k j : Nat) (hj : j < k) (hk : k ≤ 4) : (v.first k).num j = v.num j := by
  rcases (by omega : j = 0 ∨ j = 1 ∨ j = 2 ∨ j = 3) with rfl | rfl | rfl | rfl <;> simp [Ver.num, Ver.first] <;> omega
theorem incr_row (v : Ver) (j : Nat) (hj : j < 4) (x : Int) (hx : x = v.num j + 1) : v.arr.setIfInBounds j (.int .i64 x) = (v.incr j).arr := by
  subst hx
  rcases (by omega : j = 0 ∨ j = 1 ∨ j = 2 ∨ j = 3) with rfl | rfl | rfl | rfl <;> rfl
theorem ok_many {v : Ver} (h : v.ok = true) : 1 ≤ v.many ∧ v.many ≤ 4 := by
  unfold Ver.ok at h
  simp only [Bool.and_eq_true, decide_eq_true_eq] at h
  exact h.1.1
theorem ok_num {v : Ver} (h : v.ok = true) {j : Nat} (hj : j < 4) : 0 ≤ v.num j ∧ v.num j ≤ 9999 := by
  unfold Ver.ok Ver.numsB at h
  simp only [Bool.and_eq_true] at h
  obtain ⟨⟨_, ⟨⟨h0, h1⟩, h2⟩, h3⟩, _⟩ := h
  have f : ∀ {i : Nat} {x : Int}, numB v.many i x = true → 0 ≤ x ∧ x ≤ 9999 := fun hx => ⟨(of_decide_eq_true hx).1, (of_decide_eq_true hx).2.1⟩
  rcases (by omega : j = 0 ∨ j = 1 ∨ j = 2 ∨ j = 3) with rfl | rfl | rfl | rfl
  · exact f h0
  · exact f h1
  · exact f h2
  · exact f h3
theorem begin_q (v : Ver) (k : Nat) (hk : v.many = (k : Int)) (h1 : 1 ≤ k) (h4 : k ≤ 4) (w : World) : Calls Tryz.prog 143 #[.agg v.arr, .int .i64 v.many] w fun e w' => e = .returned (.agg (v.first k).arr) ∧ Below w.heap.size w w' := by
  rw [hk]
  exact begin_any v k h1 h4 w
set_option maxRecDepth 100000 in
theorem zeroV : Tryz.prog.built 45 [] = some Ver.zero.arr := by kernel_rfl
set_option maxRecDepth 100000 in
theorem zero26 : (Tryz.prog.info? 45).map (·.zero) = some (some (.agg Ver.zero.arr)) := by kernel_rfl
theorem ret_beh {v : Ver} {e : Int} {r : Ver × Int} (h : r = (v, e)) : Ending.returned (.tuple #[.agg v.arr, .int .i64 e]) = .returned (.tuple #[.agg r.1.arr, .int .i64 r.2]) := by rw [h]

set_option maxRecDepth 100000 in
theorem builds_none26 {ops : Array Oper} {rest : List Oper} {o : Oper} {a : Act} {w : World} {Q : Exit → Act → World → Prop} (hg : o.guard = none) (ho : o.op = .build 45 #[]) (h : wpList Tryz.prog ops Q rest (a.put o.dst (.agg Ver.zero.arr)) w) : wpList Tryz.prog ops Q (o :: rest) a w := by
  have e : Tryz.prog.built 45 ((#[] : Array (Nat × Operand)).map fun (i, x) => (i, a.eval x)).toList = some Ver.zero.arr := (congrArg (Tryz.prog.built 45) (by simp)).trans zeroV
  exact wpList_build hg 45 #[] ho (by rw [e]; rfl) (by rw [e]; exact h)
/-- Two results: a version out of its variable, and a slot. -/
theorem results_ver {P : Program} {fn : Func} {p q : Tmp} {ty : TypeId} (h : fn.results = #[.cell p ty, .tmp q]) (tmps : Array Value) (w : World) (g : Nat) (hp : tmps.getD p undef = .pointer (some ⟨g, 0, none⟩)) (cs : Array Value) (hr : (loadVar ty ⟨g, 0, none⟩).run P w = .ok (.agg cs) w) :
    (results fn tmps).run P w = .ok (.tuple #[.agg cs, tmps.getD q undef]) w := by
  have e : tmps[p]?.getD undef = .pointer (some ⟨g, 0, none⟩) := by rw [← hp]; simp
  simp [results, h, e, asAddr, hr]
end Go.Proofs.YtlfehjjnepiljaaGreatDoor

namespace Go.Proofs.YtlfehjjnepiljaaGreatDoor
open Go.RowKit Go.Shelf

def ofB (l : Str) : ByteArray := ⟨l.toArray⟩
/-- The pieces of what stands ahead of the first "-". -/
def headP (s : ByteArray) : List ByteArray := pieces 46 (ofB (cutAt 45 s.data.toList).1)
def verP (ps : List ByteArray) (tag : Str) (step : Int) : Ver := ⟨slotP ps 0, slotP ps 1, slotP ps 2, slotP ps 3, (ps.length : Int), ofB tag, step⟩
/-- The version of a text. -/
def readV (s : ByteArray) : Option Ver :=
  if readsP (headP s) = true then
    (if (cutAt 45 s.data.toList).2.2 = true then
      (if (tagR (cutAt 45 s.data.toList).2.1).2.2 = true then some (verP (headP s) (tagR (cutAt 45 s.data.toList).2.1).1 (tagR (cutAt 45 s.data.toList).2.1).2.1) else none)
    else some (verP (headP s) [] 0))
  else none
theorem cut_len (c : UInt8) (l : Str) : (cutAt c l).1.length ≤ l.length ∧ (cutAt c l).2.1.length ≤ l.length := by
  unfold cutAt
  split
  · refine ⟨(List.takeWhile_sublist _).length_le, ?_⟩
    have := (List.dropWhile_sublist (fun x => x != c) (l := l)).length_le
    simp
    omega
  · exact ⟨Nat.le_refl _, Nat.zero_le _⟩
theorem builtV (a b c d m : Int) : Tryz.prog.built 45 [(0, .agg (ints4 a b c d)), (1, .int .i64 m)] = some (Ver.arr ⟨a, b, c, d, m, ⟨#[]⟩, 0⟩) := by kernel_rfl
theorem zero24 : (Tryz.prog.info? 43).map (·.zero) = some (some (.agg (ints4 0 0 0 0))) := by kernel_rfl
theorem info24 (a b c d : Int) : (Tryz.prog.info? 43).map (·.size) = some (ints4 a b c d).size := by
  show _ = some 4
  kernel_rfl
theorem ints_one (a b c d : Int) : (ints4 a b c d).all (·.oneCell') = true := by
  unfold ints4
  simp [Value.oneCell']
theorem builds_ver26 {ops : Array Oper} {rest : List Oper} {o : Oper} {ac : Act} {w : World} {Q : Exit → Act → World → Prop} (hg : o.guard = none) (x y : Operand) (ho : o.op = .build 45 #[(0, x), (1, y)]) (a b c d m : Int) (hx : ac.eval x = .agg (ints4 a b c d)) (hy : ac.eval y = .int .i64 m)
    (h : wpList Tryz.prog ops Q rest (ac.put o.dst (.agg (Ver.arr ⟨a, b, c, d, m, ⟨#[]⟩, 0⟩))) w) : wpList Tryz.prog ops Q (o :: rest) ac w := by
  have e : Tryz.prog.built 45 ((#[(0, x), (1, y)] : Array (Nat × Operand)).map fun (i, x) => (i, ac.eval x)).toList = some (Ver.arr ⟨a, b, c, d, m, ⟨#[]⟩, 0⟩) := by
    refine Eq.trans (congrArg (Tryz.prog.built 45) ?_) (builtV a b c d m)
    simp [hx, hy]
  exact wpList_build hg 45 _ ho (by rw [e]; rfl) (by rw [e]; exact h)

/-- What read hands back. -/
def ReadR (s : ByteArray) (w : World) (e : Ending) (w' : World) : Prop := ∃ (v : Ver) (b : Bool), e = .returned (.tuple #[.agg v.arr, .bool b]) ∧ readV s = (if b = true then some v else none) ∧ Below w.heap.size w w'

set_option maxRecDepth 100000 in
set_option maxHeartbeats 4000000 in
theorem read_any (s : ByteArray) (hs : s.size ≤ 140737488355328) (w : World) : Calls Tryz.prog 142 #[.string s] w (ReadR s w) := by
  have hcl := cut_len 45 s.data.toList
  have hsl : s.data.toList.length = s.size := rfl
  obtain ⟨p, hp⟩ : ∃ p, p = cutAt 45 s.data.toList := ⟨_, rfl⟩
  obtain ⟨l, r, t⟩ := p
  have HP := Lib.hid hp
  rw [← hp] at hcl
  have hl : (ofB l).size ≤ 140737488355328 := by
    have e : (ofB l).size = l.length := by unfold ofB; simp [ByteArray.size]
    rw [e]
    have := hcl.1
    dsimp only at this
    omega
  have HC : Hid (∀ W, Calls Tryz.prog 150 #[.string s, .string ⟨#[45]⟩] W fun e w' => e = .returned (.tuple #[.string (ofB l), .string (ofB r), .bool t]) ∧ Below W.heap.size W w') := Lib.hid (fun W => (cut_any s hs W).mono fun e w' h => ⟨h.1.trans (by rw [← hp]; rfl), h.2⟩)
  have HN : Hid (∀ W, Calls Tryz.prog 151 #[.string (ofB l)] W (NumsR (ofB l) W)) := Lib.hid (fun W => nums_any (ofB l) hl W)
  have HT : Hid (∀ W, Calls Tryz.prog 152 #[.string (ofB r)] W fun e w' => e = .returned (.tuple #[.string (ofB (tagR r).1), .int .i64 ((tagR r).2.1 : Int), .bool (tagR r).2.2]) ∧ Below W.heap.size W w') := Lib.hid (fun W => by
    have := readTag_any (ofB r) W
    rw [show (ofB r).data.toList = r from rfl] at this
    exact this)
  have X0 : Hid (Box (w.alloc (.cells Ver.zero.arr 45)) w.heap.size 45 Ver.zero.arr) := Lib.hid box_new
  have B0 : Hid (Below w.heap.size w (w.alloc (.cells Ver.zero.arr 45))) := Lib.hid (below_new _ _)
  clear hcl hsl hp hl hs
  go_enter Tryz.func142, Tryz.ntmps142
  go_wp2_with (with_reducible refine wpList_zero rfl 45 rfl Ver.zero.arr zero26 ?_)
  refine (HC.out _).mono ?_
  rintro e w1 ⟨rfl, hb⟩
  have X1 := Lib.hid (X0.out.on hb)
  have B1 := Lib.hid (bch B0.out hb)
  clear X0 B0 HC hb
  go_wp2_with fail
  refine (HN.out _).mono ?_
  rintro e w2 ⟨a, b, c, d, m, rfl, hok, hb⟩
  have X2 := Lib.hid (X1.out.on hb)
  have B2 := Lib.hid (bch B1.out hb)
  have HOK := Lib.hid hok
  clear X1 B1 HN hb hok
  have Y0 : Hid (Box (w2.alloc (.cells (ints4 0 0 0 0) 43)) w2.heap.size 43 (ints4 0 0 0 0)) := Lib.hid box_new
  obtain ⟨w3, hw3⟩ : ∃ q, q = (w2.alloc (.cells (ints4 0 0 0 0) 43)).setRow w2.heap.size (ints4 a b c d) := ⟨_, rfl⟩
  have Y1 : Hid (Box w3 w2.heap.size 43 (ints4 a b c d)) := Lib.hid (by rw [hw3]; exact Y0.out.row _)
  have l2 := X2.out.lt
  have X3 : Hid (Box w3 w.heap.size 45 Ver.zero.arr) := Lib.hid (by rw [hw3]; exact (X2.out.alloc _).far_row (by omega) _)
  have B3 : Hid (Below w.heap.size w w3) := Lib.hid (by rw [hw3]; exact below_row (B2.out.alloc B2.out.size _) B2.out.size _)
  obtain ⟨o, ho⟩ : ∃ o, o = readsP (pieces 46 (ofB l)) := ⟨_, rfl⟩
  rw [← ho]
  have HO := Lib.hid ho
  clear ho
  go_upto_region 3 with (first
    | (with_reducible refine wpList_zero rfl 43 rfl (ints4 0 0 0 0) zero24 ?_)
    | (refine wpList_store_row rfl 43 (.tmp 7) (.tmp 20) rfl w2.heap.size (ints4 a b c d) rfl rfl 43 _ Y0.out (info24 _ _ _ _) rfl (ints_one _ _ _ _) ?_))
  rw [← hw3]
  clear hw3 X2 B2 Y0
  obtain ⟨v, hv⟩ : ∃ v : Ver, v = ⟨a, b, c, d, m, ⟨#[]⟩, 0⟩ := ⟨_, rfl⟩
  have Z0 : Hid (Box (w3.alloc (.cells Ver.zero.arr 45)) w3.heap.size 45 Ver.zero.arr) := Lib.hid box_new
  obtain ⟨w4, hw4⟩ : ∃ q, q = (w3.alloc (.cells Ver.zero.arr 45)).setRow w3.heap.size v.arr := ⟨_, rfl⟩
  have Z1 : Hid (Box w4 w3.heap.size 45 v.arr) := Lib.hid (by rw [hw4]; exact Z0.out.row _)
  have l3 := X3.out.lt
  have X4 : Hid (Box w4 w.heap.size 45 Ver.zero.arr) := Lib.hid (by rw [hw4]; exact (X3.out.alloc _).far_row (by omega) _)
  have B4 : Hid (Below w.heap.size w w4) := Lib.hid (by rw [hw4]; exact below_row (B3.out.alloc B3.out.size _) B3.out.size _)
  have HV := Lib.hid hv
  go_upto_region 4 with (first
    | (with_reducible refine wpList_zero rfl 45 rfl Ver.zero.arr zero26 ?_)
    | (refine wpList_load_row rfl 43 (.tmp 7) rfl w2.heap.size rfl 43 (ints4 a b c d) (0, 0) _ Y1.out Tryz.underlying43 rfl (info24 _ _ _ _) ?_)
    | (refine builds_ver26 rfl (.tmp 23) (.tmp 24) rfl a b c d m rfl rfl ?_; rw [← HV.out])
    | (refine wpList_store_row rfl 45 (.tmp 10) (.tmp 25) rfl w3.heap.size v.arr rfl rfl 45 _ Z0.out (info26 _) rfl (arr_one _) ?_))
  rw [← hw4]
  clear hw4 X3 B3 Z0 Y1 hv
  have HE1 : Hid (o = false → readV s = none) := Lib.hid (fun h => by
    unfold readV headP
    rw [← HP.out, ← HO.out, h]
    rfl)
  have HE2 : Hid (o = true → v = verP (headP s) [] 0) := Lib.hid (fun h => by
    obtain ⟨q1, q2⟩ := HOK.out (by rw [← HO.out, h])
    have e : headP s = pieces 46 (ofB l) := by unfold headP; rw [← HP.out]
    rw [HV.out, q2, e]
    unfold ints4 cellsP at q1
    simp at q1
    obtain ⟨r0, r1, r2, r3⟩ := q1
    rw [r0, r1, r2, r3]
    rfl)
  have HE3 : Hid (o = true → t = false → readV s = some (verP (headP s) [] 0)) := Lib.hid (fun h1 h2 => by
    have e : headP s = pieces 46 (ofB l) := by unfold headP; rw [← HP.out]
    unfold readV
    rw [e, ← HO.out, h1, ← HP.out, h2]
    rfl)
  have HE4 : Hid (o = true → t = true → readV s = (if (tagR r).2.2 = true then some (verP (headP s) (tagR r).1 (tagR r).2.1) else none)) := Lib.hid (fun h1 h2 => by
    have e : headP s = pieces 46 (ofB l) := by unfold headP; rw [← HP.out]
    unfold readV
    rw [e, ← HO.out, h1, ← HP.out, h2]
    rfl)
  clear HP HO HOK HV
  have last : ∀ (W : World) (u : Ver) (q : Bool) (tmps : Array Value), Box W w.heap.size 45 u.arr → tmps.getD 2 undef = .pointer (some ⟨w.heap.size, 0, none⟩) → tmps.getD 3 undef = .bool q → (results Tryz.f142 tmps).run Tryz.prog W = .ok (.tuple #[.agg u.arr, .bool q]) W := fun W u q tmps hx h2 h3 => by
    rw [← h3]
    exact results_ver rfl tmps W w.heap.size h2 u.arr (run_loadVar_row _ w.heap.size 45 45 u.arr (0, 0) _ hx Tryz.underlying45 rfl (info26 _))
  cases o with
  | false =>
    have F0 := Lib.hid (HE1.out rfl)
    clear HE1 HE2 HE3 HE4 HT
    go_wp2_with (first
      | (refine wpList_load_row rfl 45 (.tmp 10) rfl w3.heap.size rfl 45 v.arr (0, 0) _ Z1.out Tryz.underlying45 rfl (info26 _) ?_)
      | (refine wpList_store_row rfl 45 (.tmp 2) (.tmp 38) rfl w.heap.size v.arr rfl rfl 45 _ X4.out (info26 _) rfl (arr_one _) ?_))
    refine bodyPost_ret (last _ v false _ (X4.out.row _) rfl rfl) rfl ⟨v, false, rfl, F0.out, below_row B4.out (Nat.le_refl _) _⟩
  | true =>
    have G0 := Lib.hid (HE2.out rfl)
    cases t with
    | false =>
      have F0 := Lib.hid (HE3.out rfl rfl)
      clear HE1 HE2 HE3 HE4 HT
      go_wp2_with (first
        | (refine wpList_load_row rfl 45 (.tmp 10) rfl w3.heap.size rfl 45 v.arr (0, 0) _ Z1.out Tryz.underlying45 rfl (info26 _) ?_)
        | (refine wpList_store_row rfl 45 (.tmp 2) (.tmp 38) rfl w.heap.size v.arr rfl rfl 45 _ X4.out (info26 _) rfl (arr_one _) ?_))
      refine bodyPost_ret (last _ v true _ (X4.out.row _) rfl rfl) rfl ⟨v, true, rfl, by rw [F0.out, G0.out]; rfl, below_row B4.out (Nat.le_refl _) _⟩
    | true =>
      have F0 := Lib.hid (HE4.out rfl rfl)
      clear HE1 HE2 HE3 HE4
      obtain ⟨p, hp⟩ : ∃ p, p = tagR r := ⟨_, rfl⟩
      obtain ⟨g, n, q⟩ := p
      have HG : Hid (∀ W, Calls Tryz.prog 152 #[.string (ofB r)] W fun e w' => e = .returned (.tuple #[.string (ofB g), .int .i64 (n : Int), .bool q]) ∧ Below W.heap.size W w') := Lib.hid (fun W => by have := HT.out W; rw [← hp] at this; exact this)
      have F1 : Hid (readV s = (if q = true then some (verP (headP s) g n) else none)) := Lib.hid (by rw [F0.out, ← hp])
      clear HT F0 hp
      go_wp2_with fail
      refine (HG.out _).mono ?_
      rintro e w5 ⟨rfl, hb⟩
      have Z2 := Lib.hid (Z1.out.on hb)
      have X5 := Lib.hid (X4.out.on hb)
      have B5 := Lib.hid (bch B4.out hb)
      clear Z1 X4 B4 hb HG
      have c5 : w5.cell? ⟨w3.heap.size, 5, none⟩ = some (.string v.tag) := Z2.out.ver.c5
      have f5 : w5.frozen? ⟨w3.heap.size, 5, none⟩ = false := frozen_of_row w5 _ 5 _ _ Z2.out
      have Z3 : Hid (Box (w5.setCell ⟨w3.heap.size, 5, none⟩ (.string (ofB g))) w3.heap.size 45 ({v with tag := ofB g} : Ver).arr) := Lib.hid (Z2.out.set (k := 5) (.string (ofB g)))
      have c6 : (w5.setCell ⟨w3.heap.size, 5, none⟩ (.string (ofB g))).cell? ⟨w3.heap.size, 6, none⟩ = some (.int .i64 v.step) := Z3.out.ver.c6
      have f6 : (w5.setCell ⟨w3.heap.size, 5, none⟩ (.string (ofB g))).frozen? ⟨w3.heap.size, 6, none⟩ = false := frozen_of_row _ _ 6 _ _ Z3.out
      have c6' : w5.cell? ⟨w3.heap.size, 6, none⟩ = some (.int .i64 v.step) := Z2.out.ver.c6
      have f6' : w5.frozen? ⟨w3.heap.size, 6, none⟩ = false := frozen_of_row _ _ 6 _ _ Z2.out
      obtain ⟨u, hu⟩ : ∃ u : Ver, u = {v with tag := ofB g, step := (n : Int)} := ⟨_, rfl⟩
      obtain ⟨w6, hw6⟩ : ∃ q, q = (w5.setCell ⟨w3.heap.size, 5, none⟩ (.string (ofB g))).setCell ⟨w3.heap.size, 6, none⟩ (.int .i64 (n : Int)) := ⟨_, rfl⟩
      have Z4 : Hid (Box w6 w3.heap.size 45 u.arr) := Lib.hid (by rw [hw6, hu]; exact Z3.out.set (k := 6) (.int .i64 (n : Int)))
      have X6 : Hid (Box w6 w.heap.size 45 Ver.zero.arr) := Lib.hid (by rw [hw6]; exact (X5.out.far (by simp; omega) _).far (by simp; omega) _)
      have B6 : Hid (Below w.heap.size w w6) := Lib.hid (by rw [hw6]; exact (B5.out.setCell (p := ⟨w3.heap.size, 5, none⟩) (Nat.le_of_lt l3) _).setCell (p := ⟨w3.heap.size, 6, none⟩) (Nat.le_of_lt l3) _)
      have HU : Hid (u = verP (headP s) g n) := Lib.hid (by rw [hu, G0.out]; rfl)
      clear hu Z2 Z3 X5 B5
      go_upto_region 6 with fail
      rw [← hw6]
      clear hw6 c5 f5 c6 f6 c6' f6'
      go_wp2_with (first
        | (refine wpList_load_row rfl 45 (.tmp 10) rfl w3.heap.size rfl 45 u.arr (0, 0) _ Z4.out Tryz.underlying45 rfl (info26 _) ?_)
        | (refine wpList_store_row rfl 45 (.tmp 2) (.tmp 38) rfl w.heap.size u.arr rfl rfl 45 _ X6.out (info26 _) rfl (arr_one _) ?_))
      refine bodyPost_ret (last _ u q _ (X6.out.row _) rfl rfl) rfl ⟨u, q, rfl, by rw [F1.out, HU.out], below_row B6.out (Nat.le_refl _) _⟩

/-- What Read hands back. -/
def readO (s : ByteArray) : Ver × Int := match readV s with | some v => (v, 0) | none => (Ver.zero, 140)

set_option maxRecDepth 100000 in
set_option maxHeartbeats 2000000 in
theorem Read_any (s : ByteArray) (hs : s.size ≤ 140737488355328) (w : World) : Calls Tryz.prog 127 #[.string s] w fun e w' => e = .returned (.tuple #[.agg (readO s).1.arr, .int .i64 (readO s).2]) ∧ Below w.heap.size w w' := by
  have HR : Hid (∀ W, Calls Tryz.prog 142 #[.string s] W (ReadR s W)) := Lib.hid (fun W => read_any s hs W)
  have X0 : Hid (Box (w.alloc (.cells Ver.zero.arr 45)) w.heap.size 45 Ver.zero.arr) := Lib.hid box_new
  have B0 : Hid (Below w.heap.size w (w.alloc (.cells Ver.zero.arr 45))) := Lib.hid (below_new _ _)
  clear hs
  go_enter Tryz.func127, Tryz.ntmps127
  go_wp2_with (with_reducible refine wpList_zero rfl 45 rfl Ver.zero.arr zero26 ?_)
  refine (HR.out _).mono ?_
  rintro e w1 ⟨v, b, rfl, hv, hb⟩
  have X1 := Lib.hid (X0.out.on hb)
  have B1 := Lib.hid (bch B0.out hb)
  have HV := Lib.hid hv
  clear X0 B0 HR hb hv
  have l1 := X1.out.lt
  have Y0 : Hid (Box (w1.alloc (.cells Ver.zero.arr 45)) w1.heap.size 45 Ver.zero.arr) := Lib.hid box_new
  obtain ⟨w2, hw2⟩ : ∃ q, q = (w1.alloc (.cells Ver.zero.arr 45)).setRow w1.heap.size v.arr := ⟨_, rfl⟩
  have Y1 : Hid (Box w2 w1.heap.size 45 v.arr) := Lib.hid (by rw [hw2]; exact Y0.out.row _)
  have X2 : Hid (Box w2 w.heap.size 45 Ver.zero.arr) := Lib.hid (by rw [hw2]; exact (X1.out.alloc _).far_row (by omega) _)
  have B2 : Hid (Below w.heap.size w w2) := Lib.hid (by rw [hw2]; exact below_row (B1.out.alloc B1.out.size _) B1.out.size _)
  go_upto_region 2 with (first
    | (with_reducible refine wpList_zero rfl 45 rfl Ver.zero.arr zero26 ?_)
    | (refine wpList_store_row rfl 45 (.tmp 4) (.tmp 9) rfl w1.heap.size v.arr rfl rfl 45 _ Y0.out (info26 _) rfl (arr_one _) ?_))
  rw [← hw2]
  clear hw2 X1 B1 Y0
  cases b with
  | false =>
    have HE : Hid (readO s = (Ver.zero, 140)) := Lib.hid (by unfold readO; rw [HV.out]; rfl)
    clear HV
    go_wp2_with (first
      | (refine builds_none26 rfl rfl ?_)
      | (refine wpList_store_row rfl 45 (.tmp 2) (.tmp 13) rfl w.heap.size Ver.zero.arr rfl rfl 45 _ X2.out (info26 _) rfl (arr_one _) ?_))
    refine bodyPost_ret (results_ver rfl _ _ w.heap.size rfl Ver.zero.arr (run_loadVar_row _ w.heap.size 45 45 Ver.zero.arr (0, 0) _ (X2.out.row _) Tryz.underlying45 rfl (info26 _))) rfl ⟨?_, below_row B2.out (Nat.le_refl _) _⟩
    exact ret_beh HE.out
  | true =>
    have HE : Hid (readO s = (v, 0)) := Lib.hid (by unfold readO; rw [HV.out]; rfl)
    clear HV
    go_wp2_with (first
      | (refine wpList_load_row rfl 45 (.tmp 4) rfl w1.heap.size rfl 45 v.arr (0, 0) _ Y1.out Tryz.underlying45 rfl (info26 _) ?_)
      | (refine wpList_store_row rfl 45 (.tmp 2) (.tmp 14) rfl w.heap.size v.arr rfl rfl 45 _ X2.out (info26 _) rfl (arr_one _) ?_))
    refine bodyPost_ret (results_ver rfl _ _ w.heap.size rfl v.arr (run_loadVar_row _ w.heap.size 45 45 v.arr (0, 0) _ (X2.out.row _) Tryz.underlying45 rfl (info26 _))) rfl ⟨?_, below_row B2.out (Nat.le_refl _) _⟩
    exact ret_beh HE.out
end Go.Proofs.YtlfehjjnepiljaaGreatDoor

namespace Go.Proofs.YtlfehjjnepiljaaGreatDoor
open Go.RowKit Go.Shelf

def Bld (B b : Nat) (l : Str) (w : World) : Prop := Lib.IsBuilderF 114 5 B b (Lib.byteCells l) w
/-- What a builder's calls leave: below its base all is as it was, and every block but its own and rows of bytes, too. -/
def BStep (B b : Nat) (w w' : World) : Prop := Below B w w' ∧ Lib.OthersKept 5 (some b) w w'
theorem BStep.trans {B b : Nat} {u v w : World} (h : BStep B b u v) (k : BStep B b v w) : BStep B b u w := ⟨h.1.trans k.1, h.2.trans k.2⟩
theorem BStep.rfl' (B b : Nat) (w : World) : BStep B b w w := ⟨Below.refl _ _, Lib.OthersKept.refl _ _ _⟩

/-- Written to: the first field is its own address, the second one this slice, in memory of the call's own that is no part of it. -/
structure Lies (B b : Nat) (v : Value) (l : Str) (w : World) : Prop where
  base : B ≤ b
  at_ : w.heap[b]? = some (.cells #[.pointer (some ⟨b, 0, none⟩), v] 114 (0, 0))
  row : w.ownsRowF B 5 1 v l.length (Lib.byteCells l)
  apart : v.ownBlock ≠ some b
namespace Lies
variable {B b : Nat} {v : Value} {l : Str} {w : World}
theorem lt (h : Lies B b v l w) : b < w.heap.size := (Array.getElem?_eq_some_iff.1 h.at_).1
theorem first (h : Lies B b v l w) : w.cell? ⟨b, 0, none⟩ = some (.pointer (some ⟨b, 0, none⟩)) := by rw [Lib.cell_of_heap h.at_]; rfl
theorem second (h : Lies B b v l w) : w.cell? ⟨b, 1, none⟩ = some v := by rw [Lib.cell_of_heap h.at_]; rfl
theorem free (h : Lies B b v l w) (k : Nat) : w.frozen? ⟨b, k, none⟩ = false := Lib.frozen_of_heap h.at_ k
theorem of (h : Lib.BuilderAtF 114 5 B b (.pointer (some ⟨b, 0, none⟩)) (Lib.byteCells l) w) : ∃ v, Lies B b v l w := by
  obtain ⟨k1, v, k2, k3, k4⟩ := h
  rw [Lib.byteCells_length] at k3
  exact ⟨v, k1, k2, k3, k4⟩
theorem fresh (h : Lies B b v l w) (o : Obj) : Lies B b v l (w.alloc o) := ⟨h.base, (Lib.alloc_old w o b h.lt).trans h.at_, h.row.alloc o, h.apart⟩
/-- The slice behind an append: another one, which goes into the second field. -/
theorem stored {v' : Value} {m : Str} {w' : World} (h : Lies B b v l w) (hg : w.grownBy w' v.ownBlock) (hr : w'.ownsRowF B 5 1 v' (l ++ m).length (Lib.byteCells (l ++ m))) (hB : B ≤ w.heap.size) :
    w'.heap[b]? = some (.cells #[.pointer (some ⟨b, 0, none⟩), v] 114 (0, 0)) ∧ Bld B b (l ++ m) (w'.setCell ⟨b, 1, none⟩ v') ∧ BStep B b w (w'.setCell ⟨b, 1, none⟩ v') := by

  have here : w'.heap[b]? = some (.cells #[.pointer (some ⟨b, 0, none⟩), v] 114 (0, 0)) := by
    rw [← h.at_]
    exact hg.block b h.lt fun e => h.apart e.symm
  have own : ∀ k, v.ownBlock = some k → B ≤ k := fun k hk => (h.row.lt k hk).1
  have kind := Lib.ownsRowF_kind h.row
  rw [← Lib.byteCells_length (l ++ m)] at hr
  have low := (BStep.rfl' B b w).1.grown hg hB own
  have rest := (BStep.rfl' B b w).2.grown hg kind
  exact ⟨here, .inr (Lib.BuilderAtF.put h.base here hr (by decide)), low.setCell (p := ⟨b, 1, none⟩) h.base v', rest.setCell ⟨b, 1, none⟩ rfl v'⟩
end Lies
/-- An own row of bytes that some were put behind is a slice of as many. -/
theorem slice_of {w : World} {B n : Nat} {v : Value} {xs : List Value} (h : w.ownsRowF B 5 1 v n xs) : ∃ a c, v = .slice a n c := by
  rcases h.2 with ⟨e, hn⟩ | ⟨_, c, _, _, e, _⟩
  · subst hn; exact ⟨_, _, e⟩
  · exact ⟨_, c, e⟩

theorem info64 : (Tryz.prog.info? 114).map (·.size) = some 2 := by kernel_rfl
theorem whole64 : liesAt Tryz.prog Tryz.prog.depth 114 (2 / Tryz.prog.cellsOf 114) 0 114 1 = true := by kernel_rfl
theorem info5 : (Tryz.prog.info? 5).map (fun i => (i.zero, i.size, i.bytes)) = some (some (.int .u8 0), 1, 1) := by kernel_rfl

set_option maxHeartbeats 1000000 in
set_option maxRecDepth 100000 in
/-- copyCheck: behind it the builder was written to. -/
theorem copied (B b : Nat) (l : Str) (w : World) (h : Bld B b l w) :
    Calls Tryz.prog 96 #[.pointer (some ⟨b, 0, none⟩)] w fun e w' => e = .returned (.tuple #[]) ∧ (∃ v, Lies B b v l w') ∧ BStep B b w w' := by
  obtain ⟨i64b, hi, hs⟩ := Option.map_eq_some_iff.1 info64
  have big : i64b.size ≠ 0 := by omega
  rcases h with new | used
  · have hc := new.cell0
    have hf := new.frozen0
    have up := Lib.run_to_unsafe w ⟨b, 0, none⟩ Tryz.underlying111 Tryz.underlying152 hi big new.shape (Nat.zero_lt_succ 1)
    have down := Lib.run_from_unsafe w ⟨b, 0, none⟩ Tryz.underlying152 Tryz.underlying111 hi new.shape whole64
    have ext : (callFunc 121 #[.pointer (some ⟨b, 0, none⟩)]).run Tryz.prog w = .ok (.value (.pointer (some ⟨b, 0, none⟩))) w := by
      rw [run_callFunc_extern Tryz.func121 (by kernel_rfl) (by kernel_rfl) (by kernel_rfl) (e := Extern.AbiNoEscape.same) (by kernel_rfl)]
      rfl
    go_enter Tryz.func96, Tryz.ntmps96
    go_wp2
    go_end0
    have st := BStep.rfl' B b w
    exact ⟨rfl, Lies.of (new.used _), st.1.setCell (p := ⟨b, 0, none⟩) new.1 _, st.2.setCell ⟨b, 0, none⟩ rfl _⟩
  · have hc := used.cell0
    have same := Lib.run_neq_ptr_same w ⟨b, 0, none⟩ Tryz.underlying111 hi
    go_enter Tryz.func96, Tryz.ntmps96
    go_wp2
    go_end0
    exact ⟨rfl, Lies.of used, BStep.rfl' B b w⟩

set_option maxHeartbeats 2000000 in
set_option maxRecDepth 100000 in
theorem ws_any (B b : Nat) (l s : Str) (w : World) (h : Bld B b l w) (hlen : l.length + s.length ≤ 140737488355328) (hBw : B ≤ w.heap.size) :
    Calls Tryz.prog 83 #[.pointer (some ⟨b, 0, none⟩), .string ⟨s.toArray⟩] w fun e w' => (∃ v, e = .returned v) ∧ Bld B b (l ++ s) w' ∧ BStep B b w w' := by
  obtain ⟨i5, hi, hz, hs, hy⟩ := info_parts info5
  have len : (⟨s.toArray⟩ : ByteArray).size = s.length := rfl
  go_enter Tryz.func83, Tryz.ntmps83
  go_wp2_with fail
  refine (copied B b l w h).mono ?_
  rintro e w1 ⟨rfl, ⟨v, L⟩, S⟩
  have a0 := L.first
  have a1 := L.second
  have up1 : B ≤ w1.heap.size := Nat.le_trans hBw S.1.size
  have LL := Lib.hid L
  clear L
  go_wp2_with (at_builtin; refine Lib.wpList_append_own_stringF _ rfl _ _ 112 9 rfl B 5 i5 Tryz.underlying112 Tryz.underlying9 hi hz hs hy v l.length _ rfl LL.out.row ⟨s.toArray⟩ rfl (by rw [len]; unfold maxLen; omega) (by rw [len]; exact hlen) up1 ?_; intro v' w2 hr hg _; refine Hid.out ?_)
  refine Lib.hid ?_
  have cells : Lib.strCells ⟨s.toArray⟩ = Lib.byteCells s := rfl
  rw [cells, len] at hr
  obtain ⟨here, done, T2⟩ := LL.out.stored (m := s) hg (by rw [Lib.byteCells_append, List.length_append]; exact hr) up1
  obtain ⟨ao, co, rfl⟩ := slice_of hr
  have d0 : w2.cell? ⟨b, 0, none⟩ = some (.pointer (some ⟨b, 0, none⟩)) := by rw [Lib.cell_of_heap here]; rfl
  have d1 : w2.cell? ⟨b, 1, none⟩ = some v := by rw [Lib.cell_of_heap here]; rfl
  have fr := Lib.frozen_of_heap here 1
  have HD := Lib.hid done
  have HT := Lib.hid (S.trans T2)
  clear done T2 here hr hg
  go_wp2
  go_ret2
  exact ⟨⟨_, rfl⟩, HD.out, HT.out⟩
end Go.Proofs.YtlfehjjnepiljaaGreatDoor

namespace Go.Proofs.YtlfehjjnepiljaaGreatDoor
open Go.RowKit Go.Shelf

/-- The first numbers, a dot between each two. -/
def dotsL (f : Nat → Int) : Nat → Str
  | 0 => []
  | k + 1 => dotsL f k ++ (if k = 0 then [] else [46]) ++ Lib.decDigits (f k).toNat
/-- The text of a version that may be. -/
def Ver.text (v : Ver) : Str := dotsL v.num v.many.toNat ++ (if v.tag.data.toList = [] then [] else 45 :: v.tag.data.toList) ++ (if v.step = 0 then [] else Lib.decDigits v.step.toNat)

def TabW (w : World) : Prop := Lib.TabIs Tryz.prog w "internal/strconv.uint64pow10" .u64 Lib.pow10Tab
theorem TabW.below {w w' : World} (h : TabW w) (hb : Below w.heap.size w w') : TabW w' := Lib.tabBelow_of_tabIs h w' hb
theorem itoa_any (x : Int) (h0 : 0 ≤ x) (h1 : x ≤ 9999) (w : World) (htab : TabW w) : Calls Tryz.prog 120 #[.int .i64 x] w fun e w' => e = .returned (.string ⟨(Lib.decDigits x.toNat).toArray⟩) ∧ Below w.heap.size w w' := by
  refine (Tryz.strconv_Itoa x (by omega) (by omega) w htab).mono ?_
  rintro e w' ⟨rfl, k, os, rfl⟩
  refine ⟨?_, Lib.below_grow _ w (Nat.le_refl _) k os⟩
  obtain ⟨n, rfl⟩ : ∃ n : Nat, x = (n : Int) := ⟨x.toNat, by omega⟩
  rw [Lib.itoa_nonneg]
  rfl
theorem nD_le (n : Nat) (h : n ≤ 9999) : (Lib.decDigits n).length ≤ 4 := by
  rw [Lib.decDigits_length]
  unfold Lib.nDigits
  split
  · omega
  · unfold Lib.nDigits
    split
    · omega
    · unfold Lib.nDigits
      split
      · omega
      · unfold Lib.nDigits
        split <;> omega
theorem dots_len (f : Nat → Int) (k : Nat) (h : ∀ j, j < k → 0 ≤ f j ∧ f j ≤ 9999) : (dotsL f k).length ≤ 5 * k := by
  induction k with
  | zero => simp [dotsL]
  | succ k ih =>
    have h1 := ih (fun j hj => h j (by omega))
    have h2 := h k (by omega)
    have h3 := nD_le (f k).toNat (by omega)
    rw [dotsL, List.length_append, List.length_append]
    split <;> simp <;> omega

theorem rowF_below {w w' : World} {B n : Nat} {v : Value} {xs : List Value} (h : w.ownsRowF B 5 1 v n xs) (hb : Below w.heap.size w w') : w'.ownsRowF B 5 1 v n xs := by
  have old := hb.block
  exact h.kept (row := none) { os := hb.os, tape := hb.tape, output := hb.output, size := hb.size, block := fun k hk _ => old k hk } (Classical.em _)
theorem Bld.below {B b : Nat} {l : Str} {W W' : World} (h : Bld B b l W) (hb : Below W.heap.size W W') : Bld B b l W' := by
  have keeps : ∀ p, Lib.BuilderAtF 114 5 B b p (Lib.byteCells l) W → Lib.BuilderAtF 114 5 B b p (Lib.byteCells l) W' := by
    intro p k
    have same := hb.block b k.lt
    obtain ⟨k1, v, k2, k3, k4⟩ := k
    rw [← same] at k2
    exact ⟨k1, v, k2, rowF_below k3 hb, k4⟩
  unfold Bld Lib.IsBuilderF at h ⊢
  exact h.imp (keeps _) (keeps _)
theorem others_below {b : Nat} {w w' : World} (h : Below w.heap.size w w') : Lib.OthersKept 5 (some b) w w' := fun k _ hk _ _ => (h.block k (Array.getElem?_eq_some_iff.1 hk).1).trans hk
theorem BStep.of_below {B b : Nat} {w w' : World} (h : Below w.heap.size w w') (hB : B ≤ w.heap.size) : BStep B b w w' := ⟨h.mono hB, others_below h⟩
theorem Box.step {w w' : World} {B b k : Nat} {cs : Array Value} (h : Box w k 45 cs) (hs : BStep B b w w') (hk : k ≠ b) : Box w' k 45 cs := hs.2 k _ h (fun e => hk (by cases e; rfl)) (fun c fz e => by cases e)

/-- While the text is put together: the builder holds this much, the version's box stands, all else is as it was. -/
structure Saying (v : Ver) (w : World) (g b : Nat) (l : Str) (W : World) : Prop where
  bld : Bld w.heap.size b l W
  box : Box W g 45 v.arr
  low : Below w.heap.size w W
  ne : g ≠ b
namespace Saying
variable {v : Ver} {w W W' : World} {g b : Nat} {l l' : Str}
theorem put (h : Saying v w g b l W) (hb : Bld w.heap.size b l' W') (hs : BStep w.heap.size b W W') : Saying v w g b l' W' := ⟨hb, h.box.step hs h.ne, h.low.trans hs.1, h.ne⟩
theorem on (h : Saying v w g b l W) (hb : Below W.heap.size W W') : Saying v w g b l W' := ⟨h.bld.below hb, h.box.on hb, bch h.low hb, h.ne⟩
end Saying
theorem ret_str {l m : Str} (h : l = m) : Ending.returned (.string ⟨l.toArray⟩) = .returned (.string ⟨m.toArray⟩) := by rw [h]

theorem ok_end {v : Ver} (h : v.ok = true) : v.endB = true := by
  unfold Ver.ok at h
  simp only [Bool.and_eq_true] at h
  exact h.2
theorem ok_step0 {v : Ver} (h : v.ok = true) (ht : v.tag.data.toList = []) : v.step = 0 := by
  have := ok_end h
  unfold Ver.endB at this
  rw [if_pos ht] at this
  exact of_decide_eq_true this
theorem ok_tag {v : Ver} (h : v.ok = true) (ht : v.tag.data.toList ≠ []) : v.tag.data.toList.length ≤ 6 := by
  have := ok_end h
  unfold Ver.endB tagB at this
  rw [if_neg ht] at this
  simp only [Bool.and_eq_true, decide_eq_true_eq] at this
  exact this.1.1.2
theorem ok_stepb {v : Ver} (h : v.ok = true) (ht : v.tag.data.toList ≠ []) : 0 ≤ v.step ∧ v.step ≤ 999 := by
  have := ok_end h
  unfold Ver.endB at this
  rw [if_neg ht] at this
  simp only [Bool.and_eq_true, decide_eq_true_eq] at this
  exact this.2

set_option maxRecDepth 100000 in
set_option maxHeartbeats 4000000 in
theorem say_any (v : Ver) (hv : v.ok = true) (w : World) (hT : TabW w) : Calls Tryz.prog 95 #[.agg v.arr] w fun e w' => e = .returned (.string ⟨v.text.toArray⟩) ∧ Below w.heap.size w w' := by
  obtain ⟨hm1, hm4⟩ := ok_many hv
  obtain ⟨k, hk⟩ : ∃ k : Nat, v.many = (k : Int) := ⟨v.many.toNat, by omega⟩
  have hnum : ∀ j, j < k → 0 ≤ v.num j ∧ v.num j ≤ 9999 := fun j hj => ok_num hv (by omega)
  have X0 : Box ((w.alloc (.cells v.arr 45)).alloc (.cells #[.pointer none, .slice none 0 0] 114)) w.heap.size 45 v.arr := box_new.alloc _
  have B0 : Below w.heap.size w ((w.alloc (.cells v.arr 45)).alloc (.cells #[.pointer none, .slice none 0 0] 114)) := ((Below.refl w.heap.size w).alloc (Nat.le_refl _) _).alloc (by simp) _
  have hd0 : Bld w.heap.size (w.heap.size + 1) [] ((w.alloc (.cells v.arr 45)).alloc (.cells #[.pointer none, .slice none 0 0] 114)) :=
    Lib.IsBuilderF.of (.inl ⟨Nat.le_succ _, .slice none 0 0, heap_alloc2_new w _ _, World.ownsRow_nil _ _ _ _, by simp [Value.ownBlock]⟩)
  have S0 : Hid (Saying v w w.heap.size (w.heap.size + 1) (dotsL v.num 0) ((w.alloc (.cells v.arr 45)).alloc (.cells #[.pointer none, .slice none 0 0] 114))) := Lib.hid ⟨hd0, X0, B0, by omega⟩
  have c4 := X0.ver.c4
  rw [hk] at c4
  have HT : Hid (TabW w) := Lib.hid hT
  have HNUM := Lib.hid hnum
  have HV := Lib.hid hv
  have HK := Lib.hid hk
  have k1 : (0 : Int) ≤ (k : Int) := by omega
  have k2 : (k : Int) ≤ 4 := by omega
  have HLEN : Hid (∀ j, j ≤ k → (dotsL v.num j).length ≤ 20) := Lib.hid (fun j hj => by
    have := dots_len v.num j (fun i hi => hnum i (by omega))
    omega)
  clear X0 B0 hd0 hT hnum hv hm1 hm4 hk
  go_enter Tryz.func95, Tryz.ntmps95
  go_wp2_with fail
  go_loopw [4, 5, 11, 12, 13, 14, 15, 16, 17, 18, 19, 20, 21, 22] (fun _ _ i _ _ _ _ _ _ _ _ _ _ _ W => ∃ j : Nat, j ≤ k ∧ i = .int .i64 j ∧ Hid (Saying v w w.heap.size (w.heap.size + 1) (dotsL v.num j) W)) (fun _ _ i _ _ _ _ _ _ _ _ _ _ _ _ => k - (Lib.intOf i).toNat)
  case atStart => exact ⟨0, Nat.zero_le _, rfl, S0⟩
  case round =>
    obtain ⟨j, hj, rfl, HS⟩ := hrel
    have hlow := HS.out.low.size
    by_cases hlt : j < k
    · have j1 : (j : Int) < (k : Int) := by omega
      have cj := HS.out.box.ver.num (k := j) (by omega)
      obtain ⟨x, hx⟩ : ∃ x, x = v.num j := ⟨_, rfl⟩
      rw [← hx] at cj
      have hxb := HNUM.out j hlt
      rw [← hx] at hxb
      have HX := Lib.hid hx
      have HXB := Lib.hid hxb
      have hl := HLEN.out j (by omega)
      have hdl := nD_le x.toNat (by omega)
      clear hx hxb
      by_cases h0 : j = 0
      · have HE : Hid (dotsL v.num (j + 1) = dotsL v.num j ++ Lib.decDigits x.toNat) := Lib.hid (by rw [dotsL, if_pos h0, List.append_nil, HX.out])
        subst h0
        go_wp2_with fail
        refine (itoa_any x HXB.out.1 HXB.out.2 wr (HT.out.below HS.out.low)).mono ?_
        rintro e w2 ⟨rfl, hb2⟩
        have S2 := Lib.hid (HS.out.on hb2)
        go_wp2_with fail
        refine (ws_any w.heap.size (w.heap.size + 1) _ (Lib.decDigits x.toNat) w2 S2.out.bld (by omega) S2.out.low.size).mono ?_
        rintro e w3 ⟨⟨u3, rfl⟩, hb3, hst3⟩
        have S3 := Lib.hid (S2.out.put hb3 hst3)
        go_wp2_with fail
        go_roundw
        case rel => exact ⟨1, hlt, rfl, Lib.hid (by rw [HE.out]; exact S3.out)⟩
        case measure => simp [Lib.intOf]; omega
      · have HE : Hid (dotsL v.num (j + 1) = dotsL v.num j ++ [46] ++ Lib.decDigits x.toNat) := Lib.hid (by rw [dotsL, if_neg h0, HX.out])
        have d1 : (j : Int) > 0 := by omega
        have d2 : decide ((j : Int) > 0) = true := decide_eq_true d1
        clear h0
        go_wp2_with fail
        refine (ws_any w.heap.size (w.heap.size + 1) _ [46] wr HS.out.bld (by simp; omega) HS.out.low.size).mono ?_
        rintro e w1 ⟨⟨u1, rfl⟩, hb1, hst1⟩
        have S1 := Lib.hid (HS.out.put hb1 hst1)
        go_wp2_with fail
        refine (itoa_any x HXB.out.1 HXB.out.2 w1 (HT.out.below S1.out.low)).mono ?_
        rintro e w2 ⟨rfl, hb2⟩
        have S2 := Lib.hid (S1.out.on hb2)
        go_wp2_with fail
        refine (ws_any w.heap.size (w.heap.size + 1) _ (Lib.decDigits x.toNat) w2 S2.out.bld (by simp; omega) S2.out.low.size).mono ?_
        rintro e w3 ⟨⟨u3, rfl⟩, hb3, hst3⟩
        have S3 := Lib.hid (S2.out.put hb3 hst3)
        go_wp2_with fail
        go_roundw
        case rel => exact ⟨j + 1, hlt, by go_num, Lib.hid (by rw [HE.out]; exact S3.out)⟩
        case measure => simp [Lib.intOf]; omega
    · have j1 : ¬ ((j : Int) < (k : Int)) := by omega
      have hjk : j = k := by omega
      have S1 : Hid (Saying v w w.heap.size (w.heap.size + 1) (dotsL v.num k) wr) := Lib.hid (by rw [← hjk]; exact HS.out)
      obtain ⟨wq, rfl⟩ : ∃ x, x = wr := ⟨_, rfl⟩
      have c5 := S1.out.box.ver.c5
      clear hjk hlow
      have HDL := HLEN.out k (Nat.le_refl _)
      have hkt : v.many.toNat = k := by have := HK.out; omega
      by_cases ht : v.tag.toList = []
      · have f1 := isEmpty_yes ht
        have hst0 : v.step = 0 := ok_step0 HV.out (by rw [← Lib.toList_data]; exact ht)
        have HTX : Hid (v.text = dotsL v.num k) := Lib.hid (by unfold Ver.text; rw [hkt, if_pos (by rw [← Lib.toList_data]; exact ht), if_pos hst0]; simp)
        have c6 := S1.out.box.ver.c6
        rw [hst0] at c6
        clear ht hst0 hkt
        go_wp2_with fail
        refine (Tryz.Builder_String_any_k w.heap.size (w.heap.size + 1) _ _ S1.out.bld S1.out.low.size).mono ?_
        rintro e wz ⟨rfl, _, hbz, _⟩
        go_wp2_with fail
        go_ret
        exact ⟨ret_str HTX.out.symm, S1.out.low.trans hbz⟩
      · have f1 := isEmpty_no ht
        have htl := ok_tag HV.out (by rw [← Lib.toList_data]; exact ht)
        have HTL := Lib.hid htl
        have HTT : Hid (v.tag.data.toList ≠ []) := Lib.hid (by rw [← Lib.toList_data]; exact ht)
        have HKT := Lib.hid hkt
        clear ht htl hkt
        go_wp2_with fail
        refine (ws_any w.heap.size (w.heap.size + 1) _ [45] wq S1.out.bld (by simp; omega) S1.out.low.size).mono ?_
        rintro e w1 ⟨⟨u1, rfl⟩, hb1, hst1⟩
        have S2 := Lib.hid (S1.out.put hb1 hst1)
        have d5 := S2.out.box.ver.c5
        clear c5
        go_wp2_with fail
        refine (ws_any w.heap.size (w.heap.size + 1) _ v.tag.data.toList w1 S2.out.bld (by have := HTL.out; have hs : v.tag.data.toList.length = v.tag.size := rfl; simp; omega) S2.out.low.size).mono ?_
        rintro e w2 ⟨⟨u2, rfl⟩, hb2, hst2⟩
        have S3 := Lib.hid (S2.out.put hb2 hst2)
        have d6 := S3.out.box.ver.c6
        clear d5
        by_cases h0 : v.step = 0
        · have HTX : Hid (v.text = dotsL v.num k ++ [45] ++ v.tag.data.toList) := Lib.hid (by unfold Ver.text; rw [HKT.out, if_neg HTT.out, if_pos h0]; simp)
          rw [h0] at d6
          clear h0
          go_wp2_with fail
          refine (Tryz.Builder_String_any_k w.heap.size (w.heap.size + 1) _ _ S3.out.bld S3.out.low.size).mono ?_
          rintro e wz ⟨rfl, _, hbz, _⟩
          go_wp2_with fail
          go_ret
          exact ⟨ret_str (by rw [HTX.out]; simp), S3.out.low.trans hbz⟩
        · have hsb := ok_stepb HV.out HTT.out
          have HSB := Lib.hid hsb
          have t6 : (v.step != 0) = true := by simp [h0]
          have HTX : Hid (v.text = dotsL v.num k ++ [45] ++ v.tag.data.toList ++ Lib.decDigits v.step.toNat) := Lib.hid (by unfold Ver.text; rw [HKT.out, if_neg HTT.out, if_neg h0]; simp)
          clear h0 hsb
          go_wp2_with fail
          refine (itoa_any v.step HSB.out.1 (by have := HSB.out; omega) w2 (HT.out.below S3.out.low)).mono ?_
          rintro e w3 ⟨rfl, hb3⟩
          have S4 := Lib.hid (S3.out.on hb3)
          have hdl := nD_le v.step.toNat (by have := HSB.out; omega)
          go_wp2_with fail
          refine (ws_any w.heap.size (w.heap.size + 1) _ (Lib.decDigits v.step.toNat) w3 S4.out.bld (by have := HTL.out; have hs : v.tag.data.toList.length = v.tag.size := rfl; simp; omega) S4.out.low.size).mono ?_
          rintro e w4 ⟨⟨u4, rfl⟩, hb4, hst4⟩
          have S5 := Lib.hid (S4.out.put hb4 hst4)
          clear d6
          go_wp2_with fail
          refine (Tryz.Builder_String_any_k w.heap.size (w.heap.size + 1) _ _ S5.out.bld S5.out.low.size).mono ?_
          rintro e wz ⟨rfl, _, hbz, _⟩
          go_wp2_with fail
          go_ret
          exact ⟨ret_str (by rw [HTX.out]; simp), S5.out.low.trans hbz⟩
end Go.Proofs.YtlfehjjnepiljaaGreatDoor

namespace Go.Proofs.YtlfehjjnepiljaaGreatDoor
open Go.RowKit Go.Shelf

/-- What Text hands back. -/
def Ver.textR (v : Ver) : Str × Int := if v.ok = true then (v.text, 0) else ([], 140)
theorem ret_text {l : Str} {e : Int} {r : Str × Int} (h : r = (l, e)) : Ending.returned (.tuple #[.string ⟨l.toArray⟩, .int .i64 e]) = .returned (.tuple #[.string ⟨r.1.toArray⟩, .int .i64 r.2]) := by rw [h]

set_option maxRecDepth 100000 in
set_option maxHeartbeats 1000000 in
theorem text_any (v : Ver) (w : World) (hT : TabW w) : Calls Tryz.prog 81 #[.agg v.arr] w fun e w' => e = .returned (.tuple #[.string ⟨v.textR.1.toArray⟩, .int .i64 v.textR.2]) ∧ Below w.heap.size w w' := by
  have X1 : Box (w.alloc (.cells v.arr 45)) w.heap.size 45 v.arr := box_new
  have hB := below_new w (.cells v.arr 45)
  obtain ⟨o, ho⟩ : ∃ o, o = v.ok := ⟨_, rfl⟩
  have HA := Lib.hid (tells_of ho)
  have HT := Lib.hid (hT.below hB)
  have HX := Lib.hid X1
  have HB := Lib.hid hB
  clear hT hB
  cases o with
  | true =>
    have HR : Hid (v.textR = (v.text, 0)) := Lib.hid (if_pos ho.symm)
    have HO := Lib.hid ho
    clear ho X1
    go_enter Tryz.func81, Tryz.ntmps81
    go_wp2_with (refine wpList_load_row rfl 45 (.tmp 1) rfl w.heap.size rfl 45 v.arr (0, 0) _ HX.out Tryz.underlying45 rfl (info26 _) ?_)
    refine (HA.out _).mono ?_
    rintro e w1 ⟨rfl, hb⟩
    have X2 := Lib.hid (HX.out.on hb)
    have T2 := Lib.hid (HT.out.below hb)
    have B2 := Lib.hid (bch HB.out hb)
    clear hb HX HT
    go_wp2_with (refine wpList_load_row rfl 45 (.tmp 1) rfl w.heap.size rfl 45 v.arr (0, 0) _ X2.out Tryz.underlying45 rfl (info26 _) ?_)
    refine (say_any v HO.out.symm w1 T2.out).mono ?_
    rintro e w2 ⟨rfl, hb⟩
    go_wp2_with fail
    go_ret2
    exact ⟨ret_text HR.out, bch B2.out hb⟩
  | false =>
    have HR : Hid (v.textR = ([], 140)) := Lib.hid (if_neg (by rw [← ho]; decide))
    clear ho X1
    go_enter Tryz.func81, Tryz.ntmps81
    go_wp2_with (refine wpList_load_row rfl 45 (.tmp 1) rfl w.heap.size rfl 45 v.arr (0, 0) _ HX.out Tryz.underlying45 rfl (info26 _) ?_)
    refine (HA.out _).mono ?_
    rintro e w1 ⟨rfl, hb⟩
    go_wp2_with fail
    go_ret2
    exact ⟨ret_text HR.out, bch HB.out hb⟩

theorem info3w : (Tryz.prog.info? 3).map (fun i => (i.zero, i.size, i.bytes)) = some (some (.int .i64 0), 1, 8) := by kernel_rfl
theorem eq24 (x0 x1 x2 x3 y0 y1 y2 y3 : Int) (w : World) : (Op.equalIn 9999 43 (.agg #[.int .i64 x0, .int .i64 x1, .int .i64 x2, .int .i64 x3]) (.agg #[.int .i64 y0, .int .i64 y1, .int .i64 y2, .int .i64 y3])).run Tryz.prog w = .ok (decide (x0 = y0 ∧ x1 = y1 ∧ x2 = y2 ∧ x3 = y3)) w := by
  obtain ⟨i0, hi, _⟩ := info_parts info3w
  have c3 : Tryz.prog.cellsOf 3 = 1 := by kernel_rfl
  have u3 := Tryz.underlying3
  have a3 := Tryz.isAgg3
  have z3 := Tryz.sizeOf3
  rw [show (9999 : Nat) = 9998 + 1 from rfl, run_equalIn_array w 9998 _ _ Tryz.underlying43 hi, c3]
  simp only [show List.range 4 = [0, 1, 2, 3] from rfl, Op.eqItems]
  go_simp
  by_cases h0 : x0 = y0 <;> by_cases h1 : x1 = y1 <;> by_cases h2 : x2 = y2 <;> by_cases h3 : x3 = y3 <;> simp [h0, h1, h2, h3]

theorem part_arr (a : Ver) : a.arr.extract 0 4 = #[.int .i64 a.n0, .int .i64 a.n1, .int .i64 a.n2, .int .i64 a.n3] := rfl
theorem ver_eq (a b : Ver) : a = b ↔ (a.n0 = b.n0 ∧ a.n1 = b.n1 ∧ a.n2 = b.n2 ∧ a.n3 = b.n3) ∧ a.many = b.many ∧ a.tag = b.tag ∧ a.step = b.step := by
  cases a
  cases b
  simp [Ver.mk.injEq, and_assoc]

set_option maxRecDepth 100000 in
theorem eq26 (a b : Ver) (w : World) : (Op.equalIn 10000 45 (.agg a.arr) (.agg b.arr)).run Tryz.prog w = .ok (decide (a = b)) w := by
  have u3 := Tryz.underlying3
  have a3 := Tryz.isAgg3
  have z3 := Tryz.sizeOf3
  have u9 := Tryz.underlying9
  have a9 := Tryz.isAgg9
  have z9 := Tryz.sizeOf9
  have u24 := Tryz.underlying43
  have x4 : a.arr[4]? = some (.int .i64 a.many) := rfl
  have y4 : b.arr[4]? = some (.int .i64 b.many) := rfl
  have x5 : a.arr[5]? = some (.string a.tag) := rfl
  have y5 : b.arr[5]? = some (.string b.tag) := rfl
  have x6 : a.arr[6]? = some (.int .i64 a.step) := rfl
  have y6 : b.arr[6]? = some (.int .i64 b.step) := rfl
  have e24 := eq24 a.n0 a.n1 a.n2 a.n3 b.n0 b.n1 b.n2 b.n3
  have hS : Tryz.prog.underlying 45 = some (.struct (Tryz.prog.fieldsOf 45)) := by kernel_rfl
  have hp : Tryz.prog.stoodInHeld 45 = false := by kernel_rfl
  have hv := ver_eq a b
  rw [show (10000 : Nat) = 9999 + 1 from rfl, run_equalIn_agg w 9999 45 _ _ hS hp]
  simp only [Program.fieldsOf, Tryz.underlying45]
  go_simp
  simp only [part_arr, e24]
  go_simp
  have ht : a.tag.toList = b.tag.toList ↔ a.tag = b.tag := ⟨fun h => by
    rw [Lib.toList_data, Lib.toList_data] at h
    cases hx : a.tag
    cases hy : b.tag
    rw [hx, hy] at h
    simp at h
    rw [h], fun h => by rw [h]⟩
  clear hv u3 a3 z3 u9 a9 z9 u24 x4 y4 x5 y5 x6 y6 e24 hS hp
  simp only [ht]
  by_cases h0 : a.n0 = b.n0 <;> by_cases h1 : a.n1 = b.n1 <;> by_cases h2 : a.n2 = b.n2 <;> by_cases h3 : a.n3 = b.n3 <;> by_cases h4 : a.many = b.many <;> by_cases h5 : a.tag = b.tag <;> by_cases h6 : a.step = b.step <;> simp [h0, h1, h2, h3, h4, h5, h6]
end Go.Proofs.YtlfehjjnepiljaaGreatDoor
