/- Proved here: More of package sha, on a sum that goes on. -/
import Derived.Test.YtkenbppoldfecaaDoorValid
namespace Go.Proofs.YtkenbppoldfecaaDoor
open Go.RowKit Go.Shelf Go.Joins

/-- What More hands back: the words, the rest in its own memory, the number. -/
def MoreR (s : St) (rest l : Bytes) (n : Nat) (w : World) (e : Ending) (w' : World) : Prop :=
  ∃ v', e = .returned (.tuple #[.agg (runA (wordsOf s (rest ++ l)) v' (n + l.length)), .int .i64 0]) ∧ w'.ownsRow w.heap.size 5 1 v' (restOf (rest ++ l)).length (bytesV (restOf (rest ++ l))) ∧ Below w.heap.size w w'

theorem pair_rd {w : World} {x y : Value} {b c : Bytes} (hx : Rd w x (bytesV b)) (hy : Rd w y (bytesV c)) : RdR (w.alloc (.cells #[x, y] 24)) (.slice (some ⟨w.heap.size, 0, none⟩) 2 2) ([b, c].map bytesV) := by
  have hb : Below w.heap.size w (w.alloc (.cells #[x, y] 24)) := (Below.refl _ _).alloc (Nat.le_refl _) _
  refine ⟨[x, y], rd_box (xs := [x, y]) (box_new _ _ _ rfl) rfl (by unfold maxLen; omega), rfl, fun i v r hv hr => ?_⟩
  rcases (by have := (List.getElem?_eq_some_iff.1 hv).1; simp at this; omega : i = 0 ∨ i = 1) with rfl | rfl
  · cases hv
    cases hr
    exact hx.on hb
  · cases hv
    cases hr
    exact hy.on hb

/-- A struct of three parts that is built, the parts named. -/
theorem builds_three {P : Program} {ops : Array Oper} {rest : List Oper} {o : Oper} {a : Act} {w : World} {Q : Exit → Act → World → Prop} (hg : o.guard = none) (t : TypeId) (x y z : Operand) (ho : o.op = .build t #[(0, x), (1, y), (2, z)]) (vx vy vz : Value)
    (ex : a.eval x = vx) (ey : a.eval y = vy) (ez : a.eval z = vz) (cs : Array Value) (hb : P.built t [(0, vx), (1, vy), (2, vz)] = some cs) (h : wpList P ops Q rest (a.put o.dst (.agg cs)) w) : wpList P ops Q (o :: rest) a w := by
  refine builds hg t _ ho cs ?_ h
  have e : (Array.map (fun (p : Nat × Operand) => (p.1, a.eval p.2)) #[(0, x), (1, y), (2, z)]).toList = [(0, vx), (1, vy), (2, vz)] := by simp [ex, ey, ez]
  exact (congrArg (P.built t) e).trans hb

theorem own_on {w w' : World} {B n : Nat} {v : Value} {xs : List Value} (h : w.ownsRow B 5 1 v n xs) (hb : Below w.heap.size w w') : w'.ownsRow B 5 1 v n xs :=
  h.kept (row := none) ⟨hb.os, hb.tape, hb.output, hb.size, fun k hk _ => hb.block k hk⟩ (Classical.em _)

set_option maxRecDepth 100000 in
set_option maxHeartbeats 400000 in
theorem more_any (t : TypeId) (fr : Nat × Nat) (s : St) (rest l : Bytes) (a : Option Addr) (k c n : Nat) (v : Value) (w : World) (hP : Prim t fr w) (hm : MayBe s k n) (hk : k = rest.length) (hr : Rd w (.slice a k c) (bytesV rest)) (hv : Rd w v (bytesV l)) (hn : n + l.length ≤ 1000000000) : Calls Tryd.prog 20 #[.agg (runA s (.slice a k c) n), v] w (MoreR s rest l n w) := by
  have hk64 : k < 64 := by have := hm.2.1; omega
  obtain ⟨a2, c2, rfl, hlc, hcm, hx1, hx2⟩ := id hv
  clear hx1 hx2
  rw [bytesV_len] at hlc hv ⊢
  unfold maxLen at hcm
  have hB0 : Below w.heap.size w ((w.alloc (.cells (runA s (.slice a k c) n) 52)).alloc (.cells zeroR 52)) := ((Below.refl _ _).alloc (Nat.le_refl _) _).alloc (by simp) _
  have X0 : Box ((w.alloc (.cells (runA s (.slice a k c) n) 52)).alloc (.cells zeroR 52)) w.heap.size 52 (runA s (.slice a k c) n) := (box_new _ _ _ rfl).alloc _
  have Z0 : Box ((w.alloc (.cells (runA s (.slice a k c) n) 52)).alloc (.cells zeroR 52)) (w.heap.size + 1) 52 zeroR := heap_alloc2_new w _ _
  have HX := Lib.hid X0
  have HV := Lib.hid (valid_any t fr s a k c n hm _ (hP.on hB0))
  have HP := Lib.hid hP
  have HR := Lib.hid hr
  have HL := Lib.hid hv
  have HK := Lib.hid hk
  have HN := Lib.hid hn
  have HK64 := Lib.hid hk64
  obtain ⟨m, hmm⟩ : ∃ m, m = l.length := ⟨_, rfl⟩
  rw [← hmm] at hlc hn HL ⊢
  have HMM := Lib.hid hmm
  clear hm hP hr hv hk hmm
  go_enter Tryd.func20, Tryd.ntmps20
  go_wp2_with (first
    | (with_reducible refine wpList_zero rfl 52 rfl zeroR zero52 ?_)
    | (refine wpList_load_row rfl 52 (.tmp 2) rfl w.heap.size rfl 52 (runA s (.slice a k c) n) (0, 0) _ HX.out Tryd.underlying52 rfl info52 ?_))
  refine HV.out.mono ?_
  rintro e w1 ⟨rfl, hb1⟩
  have hB1 := bch hB0 hb1
  have X1 : Hid (Box w1 w.heap.size 52 (runA s (.slice a k c) n)) := Lib.hid (X0.below hb1 X0.lt)
  have Z1 : Hid (Box w1 (w.heap.size + 1) 52 zeroR) := Lib.hid (Z0.below hb1 Z0.lt)
  obtain ⟨c8, c9⟩ := runA_w X1.out
  have hrg := range_w X1.out
  have HRG := Lib.hid hrg
  have m1 : decide ((n : Int) + (m : Int) ≥ 2305843009213693952) = false := decide_eq_false (by omega)
  have m2 : IntKind.u64.wrap (m : Int) = (m : Int) := IntWalk.u64_in _ (by omega)
  have m3 : IntKind.u64.wrap ((n : Int) + (m : Int)) = (n : Int) + (m : Int) := IntWalk.u64_in _ (by omega)
  have hi : Hid ((Tryd.prog.info? 33).map (·.size) = some (wordsV s).length) := Lib.hid info33
  clear HV HX X0 Z0 hb1 hB0 hrg hn hk64 hlc hcm
  have hHB1 := Lib.hid hB1
  clear hB1
  go_wp2_with (refine wpList_load_mid rfl 33 (.tmp 23) rfl w.heap.size 0 rfl (wordsV s) (.array 8 30) HRG.out Tryd.underlying33 rfl hi.out ?_)
  have hbp : Below w1.heap.size w1 (w1.alloc (.cells #[.slice a k c, .slice a2 m c2] 24)) := (Below.refl _ _).alloc (Nat.le_refl _) _
  refine (takeIn_any s [rest, l] (rest ++ l) (by simp) _ t fr _ ((HP.out.on hHB1.out).alloc _) (pair_rd (HR.out.on hHB1.out) (HL.out.on hHB1.out)) (by have := HN.out; have := HK.out; have := HK64.out; rw [List.length_append]; omega)).mono ?_
  rintro e w2 ⟨v', rfl, hown, hb2⟩
  have hB2 : Below w.heap.size w w2 := bch (bch hHB1.out hbp) hb2
  have l1 := Z1.out.lt
  have Z2 : Box w2 (w.heap.size + 1) 52 zeroR := (Z1.out.alloc _).below hb2 (by simp; omega)
  have hb2s := hb2.size
  have l2 : w.heap.size + 1 < w2.heap.size := by simp at hb2s; omega
  obtain ⟨b, d, rfl⟩ : ∃ b d, v' = .slice b (restOf (rest ++ l)).length d := by
    obtain ⟨b, d, h, _⟩ := Rd.of_own hown
    rw [bytesV_len] at h
    exact ⟨b, d, h⟩
  obtain ⟨S2, hS2⟩ : ∃ x, x = wordsOf s (rest ++ l) := ⟨_, rfl⟩
  obtain ⟨q, hq⟩ : ∃ q, q = (restOf (rest ++ l)).length := ⟨_, rfl⟩
  rw [← hq] at hown
  rw [← hS2, ← hq]
  have Y3 : Hid (Box (w2.alloc (.cells (part z32 [] 8 0) 33)) w2.heap.size 33 (part z32 [] 8 0)) := Lib.hid (box_new _ _ _ rfl)
  have Y4 : Hid (Box ((w2.alloc (.cells (part z32 [] 8 0) 33)).setRow w2.heap.size (stA S2)) w2.heap.size 33 (stA S2)) := Lib.hid (Y3.out.row _)
  have Z4 : Hid (Box ((w2.alloc (.cells (part z32 [] 8 0) 33)).setRow w2.heap.size (stA S2)) (w.heap.size + 1) 52 zeroR) := Lib.hid ((Z2.alloc _).far_row (by omega) _)
  have hB4 : Hid (Below w.heap.size w ((w2.alloc (.cells (part z32 [] 8 0) 33)).setRow w2.heap.size (stA S2))) := Lib.hid (below_row (hB2.alloc hB2.size _) hB2.size _)
  have hbw : Below w2.heap.size w2 ((w2.alloc (.cells (part z32 [] 8 0) 33)).setRow w2.heap.size (stA S2)) := below_row ((Below.refl _ _).alloc (Nat.le_refl _) _) (Nat.le_refl _) _
  have HO : Hid (World.ownsRow (((w2.alloc (.cells (part z32 [] 8 0) 33)).setRow w2.heap.size (stA S2)).setRow (w.heap.size + 1) (runA S2 (.slice b q d) (n + m))) w.heap.size 5 1 (.slice b q d) q (bytesV (restOf (rest ++ l)))) :=
    Lib.hid (own_mono (own_far_row (own_on hown hbw) (by simp; omega) _) (by have := hHB1.out.size; simp; omega))
  have e1 : ((n + m : Nat) : Int) = (n : Int) + (m : Int) := by omega
  have hbt : Hid (Tryd.prog.built 52 [(0, .agg (stA S2)), (1, .slice b q d), (2, .int .u64 ((n : Int) + (m : Int)))] = some (runA S2 (.slice b q d) (n + m))) := Lib.hid (by rw [← e1]; exact built_run S2 b q d (n + m))
  have HS2 := Lib.hid hS2
  have HQ := Lib.hid hq
  clear Z1 Z2 hown hb2 hB2 hbp hHB1 l1 l2 hb2s c8 c9 X1 HRG hi hS2 hq hbw e1 m1 m2 m3
  go_wp2_with (first
    | (with_reducible refine wpList_zero rfl 33 rfl (part z32 [] 8 0) (zero33 _) ?_)
    | (refine wpList_store_row rfl 33 (.tmp 7) (.tmp 30) rfl w2.heap.size (stA S2) rfl rfl 33 (part z32 [] 8 0) Y3.out info33 rfl (stA_one S2) ?_)
    | (refine wpList_load_row rfl 33 (.tmp 7) rfl w2.heap.size rfl 33 (stA S2) (0, 0) (.array 8 30) Y4.out Tryd.underlying33 rfl info33 ?_)
    | (refine builds_three rfl 52 (.tmp 32) (.tmp 33) (.tmp 34) rfl (.agg (stA S2)) (.slice b q d) (.int .u64 ((n : Int) + (m : Int))) rfl rfl rfl (runA S2 (.slice b q d) (n + m)) hbt.out ?_)
    | (refine wpList_store_row rfl 52 (.tmp 4) (.tmp 35) rfl (w.heap.size + 1) (runA S2 (.slice b q d) (n + m)) rfl rfl 52 zeroR Z4.out info52 rfl (runA_one _ _ _ _ _) ?_))
  refine bodyPost_ret (results_two rfl _ _ (w.heap.size + 1) rfl (runA S2 (.slice b q d) (n + m)) (run_loadVar_row _ (w.heap.size + 1) 52 52 (runA S2 (.slice b q d) (n + m)) (0, 0) _ (setRow_heap _ _ _ _ _ _ Z4.out) Tryd.underlying52 rfl info52)) rfl ?_
  refine ⟨.slice b q d, ?_, by rw [← HQ.out]; exact HO.out, below_row hB4.out (by omega) _⟩
  rw [← HS2.out, ← HMM.out]
  rfl
end Go.Proofs.YtkenbppoldfecaaDoor
