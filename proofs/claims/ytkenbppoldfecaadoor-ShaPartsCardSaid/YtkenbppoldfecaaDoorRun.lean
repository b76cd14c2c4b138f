/- The value of a sum that goes on (Running), and Begin of package sha. -/
import Derived.Test.YtkenbppoldfecaaDoorFew
namespace Go.Proofs.YtkenbppoldfecaaDoor
open Go.RowKit Go.Shelf Go.Joins

abbrev nilS : Value := .slice none 0 0
/-- The cells of a Running: its words, its rest, its number. -/
def runV (s : St) (v : Value) (n : Nat) : List Value := wordsV s ++ [v, .int .u64 (n : Int)]
def runA (s : St) (v : Value) (n : Nat) : Array Value := (runV s v n).toArray
theorem runA_size (s : St) (v : Value) (n : Nat) : (runA s v n).size = 10 := rfl
theorem runA_one (s : St) (a : Option Addr) (n c m : Nat) : (runA s (.slice a n c) m).all (·.oneCell') = true := by
  have h := stA_one s
  unfold stA at h
  unfold runA runV
  simp only [List.all_toArray, List.all_append] at h ⊢
  rw [h]
  rfl
def zeroR : Array Value := #[z32, z32, z32, z32, z32, z32, z32, z32, nilS, .int .u64 0]
theorem zero52 : (Tryd.prog.info? 52).map (·.zero) = some (some (.agg zeroR)) := by kernel_rfl
theorem info52 : (Tryd.prog.info? 52).map (·.size) = some 10 := by kernel_rfl
theorem built_begin (s : St) : Tryd.prog.built 52 [(0, .agg (stA s))] = some (runA s nilS 0) := by kernel_rfl
theorem built_run (s : St) (a : Option Addr) (n c m : Nat) : Tryd.prog.built 52 [(0, .agg (stA s)), (1, .slice a n c), (2, .int .u64 (m : Int))] = some (runA s (.slice a n c) m) := by kernel_rfl
theorem built_zero : Tryd.prog.built 52 [] = some zeroR := by kernel_rfl

/-- A struct that is built, the cells named. -/
theorem builds {P : Program} {ops : Array Oper} {rest : List Oper} {o : Oper} {a : Act} {w : World} {Q : Exit → Act → World → Prop} (hg : o.guard = none) (t : TypeId) (parts : Array (Nat × Operand)) (ho : o.op = .build t parts) (cs : Array Value)
    (hb : P.built t (parts.map fun (i, x) => (i, a.eval x)).toList = some cs) (h : wpList P ops Q rest (a.put o.dst (.agg cs)) w) : wpList P ops Q (o :: rest) a w :=
  wpList_build hg t parts ho (by rw [hb]; rfl) (by rw [hb]; exact h)

set_option maxRecDepth 100000 in
set_option maxHeartbeats 2000000 in
theorem begin_any (t : TypeId) (fr : Nat × Nat) (w : World) (hP : Prim t fr w) : Calls Tryd.prog 19 #[] w fun e w' => e = .returned (.agg (runA first nilS 0)) ∧ Below w.heap.size w w' := by
  have hB0 : Below w.heap.size w (w.alloc (.cells zeroR 52)) := (Below.refl _ _).alloc (Nat.le_refl _) _
  have X0 : Box (w.alloc (.cells zeroR 52)) w.heap.size 52 zeroR := box_new _ _ _ rfl
  have hc := beginnings_any t fr _ (hP.alloc (.cells zeroR 52))
  have HC := Lib.hid hc
  clear hc hP
  go_enter Tryd.func19, Tryd.ntmps19
  go_wp2_with (with_reducible refine wpList_zero rfl 52 rfl zeroR zero52 ?_)
  refine HC.out.mono ?_
  rintro e w1 ⟨rfl, hb1⟩
  have hB1 := bch hB0 hb1
  have X1 : Hid (Box w1 w.heap.size 52 zeroR) := Lib.hid (X0.below hb1 X0.lt)
  clear hB0 X0 hb1
  go_wp2_with (first
    | (refine builds rfl 52 _ rfl (runA first nilS 0) (built_begin first) ?_)
    | (refine wpList_store_row rfl 52 (.tmp 0) (.tmp 2) rfl w.heap.size (runA first nilS 0) rfl rfl 52 zeroR X1.out info52 rfl (runA_one _ _ _ _ _) ?_))
  exact bodyPost_ret (results_cell_row rfl _ _ w.heap.size 52 (runA first nilS 0) (0, 0) _ rfl (setRow_heap _ _ _ _ _ _ X1.out) Tryd.underlying52 rfl info52) rfl ⟨rfl, below_row hB1 (Nat.le_refl _) _⟩
end Go.Proofs.YtkenbppoldfecaaDoor
