/- Proved here: small of puncheonlaw07, and what small texts lead to in it. -/
import Derived.Test.YtiakedoebecgpaaDoorWLook
namespace Go.Proofs.YtiakedoebecgpaaDoor
open Go.RowKit Go.Shelf

def smallL : List It := [⟨[47, 97], 1, []⟩, ⟨[47, 97, 47, 102], 2, [55]⟩, ⟨[47, 97, 47, 108], 3, [46, 46, 47, 98]⟩, ⟨[47, 98], 1, []⟩, ⟨[47, 98, 47, 109], 3, [47, 97, 47, 102]⟩, ⟨[47, 98, 47, 111], 3, [111]⟩]
theorem small_valid : validT smallL = true := by kernel_rfl
theorem small_one : walkM smallL [47] [97, 47, 108, 47, 109] true = .ok (⟨[47, 97, 47, 102], 2, [55]⟩, 2) := by kernel_rfl
theorem small_two : walkM smallL [47] [97, 47, 108] false = .ok (⟨[47, 97, 47, 108], 3, [46, 46, 47, 98]⟩, 0) := by kernel_rfl
theorem small_three : walkM smallL [47] [98, 47, 111] true = .error 170 := by kernel_rfl
theorem small_four : lookM smallL [[47, 98], [47, 97]] [102] = .ok (1, ⟨[47, 97, 47, 102], 2, [55]⟩) := by kernel_rfl

theorem built35 (p d : ByteArray) (k : Int) : Tryd.prog.built 35 [(0, .string p), (1, .int .i64 k), (2, .string d)] = some #[.string p, .int .i64 k, .string d] := by kernel_rfl
theorem info24 (v : Value) : (Tryd.prog.info? 24).map (·.size) = some (#[v] : Array Value).size := by
  show _ = some 1
  kernel_rfl
theorem slice_one (a : Option Addr) (n c : Nat) : (#[Value.slice a n c]).all (·.oneCell') = true := by simp [Value.oneCell']
theorem rdI_box {w : World} {g t : Nat} {l : List It} (hm : l.length ≤ maxLen) (h : Box w g t (flatI l).toArray) : RdI w (.slice (some ⟨g, 0, none⟩) l.length l.length) l :=
  ⟨_, l.length, rfl, Nat.le_refl _, hm, fun _ => ⟨g, 0, rfl, h.lt, fun j u hu => by rw [Nat.zero_add]; exact h.cell (by rw [List.getElem?_toArray]; exact hu)⟩⟩
/-- A tree is handed back: its items are there to be read. -/
def TreeR (l : List It) (w : World) (e : Ending) (w' : World) : Prop := ∃ x, e = .returned (.agg #[x]) ∧ RdI w' x l ∧ Below w.heap.size w w'

set_option maxRecDepth 100000 in
set_option maxHeartbeats 4000000 in
theorem small_any (w : World) : Calls Tryd.prog 41 #[] w (TreeR smallL w) := by
  obtain ⟨w1, hw1⟩ : ∃ z, z = w.alloc (.cells #[.slice none 0 0] 24) := ⟨_, rfl⟩
  have X1 : Hid (Box w1 w.heap.size 24 #[.slice none 0 0]) := Lib.hid (by rw [hw1]; exact box_new)
  have HB1 : Hid (Below w.heap.size w w1) := Lib.hid (by rw [hw1]; exact below_new _ _)
  go_enter Tryd.func41, Tryd.ntmps41
  go_upto_region 1 with fail
  rw [← hw1]
  clear hw1
  have hne : w.heap.size ≠ w1.heap.size := Nat.ne_of_lt X1.out.lt
  have HNE := Lib.hid hne
  clear hne
  go_wp2_with (refine wpList_store_row rfl 24 (.tmp 0) (.tmp 8) rfl w.heap.size #[.slice (some ⟨w1.heap.size, 0, none⟩) 6 6] rfl rfl 24 _ (X1.out.alloc _) (info24 _) rfl (slice_one _ _ _) ?_)
  exact bodyPost_ret (results_cell_row rfl _ _ w.heap.size 24 #[.slice (some ⟨w1.heap.size, 0, none⟩) 6 6] (0, 0) _ rfl ((X1.out.alloc _).row _) Tryd.underlying24 rfl (info24 _)) rfl
    ⟨_, rfl, rdI_box (l := smallL) (t := 35) (by unfold maxLen; decide) (Box.far_row (box_new (w := w1)) HNE.out.symm _), below_row (bch HB1.out (below_new _ _)) (Nat.le_refl _) _⟩
end Go.Proofs.YtiakedoebecgpaaDoor
