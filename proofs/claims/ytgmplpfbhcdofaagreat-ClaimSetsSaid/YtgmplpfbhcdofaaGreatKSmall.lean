/- Proved here: small of puncheonlaw16, and what package claim answers of it. -/
import Derived.Test.YtgmplpfbhcdofaaGreatKEq
import Derived.Test.YtgmplpfbhcdofaaGreatKAlone
namespace Go.Proofs.YtgmplpfbhcdofaaGreat
open Go.RowKit Go.Shelf Go.Lib
attribute [local go_sem] Oper.semAt_some

def rowA : List Lf := [⟨[47, 120], true, []⟩, ⟨[47, 120, 47, 102], false, []⟩]
def rowB : List Lf := [⟨[47, 120], true, []⟩, ⟨[47, 121], true, []⟩]
theorem okRow {l : List Lf} (h1 : l.length ≤ 16) (h2 : l.all (fun x => validLf x && inDirB x l) = true) (h3 : (List.range l.length).all (fun i => match l[i]?, l[i + 1]? with | some a, some b => decide (Pt.cmpL a.p b.p < 0) | _, _ => true) = true) : okLs l = true := by
  refine (okLs_iff l).2 ⟨h1, fun x hx => ?_, fun i a b ha hb => ?_⟩
  · have := List.all_eq_true.1 h2 x hx
    simpa using this
  · have hi := (List.getElem?_eq_some_iff.1 ha).1
    have := List.all_eq_true.1 h3 i (List.mem_range.2 hi)
    rw [ha, hb] at this
    simpa using this
theorem okA : okLs rowA = true := okRow (by decide) (by decide +kernel) (by decide +kernel)
theorem okB' : okLs rowB = true := okRow (by decide) (by decide +kernel) (by decide +kernel)
theorem okAB : okRs [rowA, rowB] := ⟨by decide, fun r hr => by simp at hr; rcases hr with rfl | rfl; exact okA; exact okB'⟩
theorem okAA : okRs [rowA, rowA] := ⟨by decide, fun r hr => by simp at hr; rcases hr with rfl | rfl <;> exact okA⟩
theorem clsAB : clsL [rowA, rowB] = [⟨[47, 120], true, [0, 1]⟩, ⟨[47, 120, 47, 102], false, [0]⟩, ⟨[47, 121], true, [1]⟩] := by decide +kernel
theorem clashAA : clashP (clsL [rowA, rowA]) = [[47, 120, 47, 102]] := by decide +kernel
theorem aloneY : aloneR [rowA, rowB] [47, 121] = (1, true) := by
  unfold aloneR
  rw [if_pos (chkR_ok okAB), alone_ans, clsAB]
  decide +kernel
theorem uni312 : uniI [3, 1, 3, 2] = [1, 2, 3] :=
  setOf_eq (le := leI) ordI (l := [3, 1, 3, 2]) (by unfold UpS leI; simp) (fun x => by simp; omega)
theorem rdl_box {w : World} {g : Nat} {l : List Lf} (h : Box w g 63 (flatL l).toArray) (hl : l.length ≤ 1000000) : RdL w (.slice (some ⟨g, 0, none⟩) l.length l.length) l :=
  ⟨_, _, rfl, Nat.le_refl _, by unfold maxLen; omega, fun _ => ⟨g, 0, rfl, h.lt, fun j u hu => by rw [Nat.zero_add]; exact h.cell (by simpa using hu)⟩⟩
theorem rdrs_box {w : World} {g : Nat} {l : List (List Lf)} {xs : List Value} (h : Box w g 52 xs.toArray) (hl : l.length ≤ 1000000) (hx : ∀ (j : Nat) (r : List Lf), l[j]? = some r → ∃ x, xs[j]? = some x ∧ RdL w x r) : RdRs w (.slice (some ⟨g, 0, none⟩) l.length l.length) l :=
  ⟨_, _, rfl, Nat.le_refl _, by unfold maxLen; omega, fun _ => ⟨g, 0, rfl, h.lt, fun j r hr => by
    obtain ⟨x, h1, h2⟩ := hx j r hr
    exact ⟨x, by rw [Nat.zero_add]; exact h.cell (by simpa using h1), h2⟩⟩⟩
theorem rdrs_two {w : World} {g : Nat} {x y : Value} {r t : List Lf} (h : Box w g 52 #[x, y]) (hx : RdL w x r) (hy : RdL w y t) : RdRs w (.slice (some ⟨g, 0, none⟩) 2 2) [r, t] :=
  rdrs_box (l := [r, t]) (xs := [x, y]) h (by simp) (fun j q hq => by
    match j, hq with
    | 0, hq => simp at hq; subst hq; exact ⟨x, rfl, hx⟩
    | 1, hq => simp at hq; subst hq; exact ⟨y, rfl, hy⟩)
set_option maxRecDepth 100000 in
set_option maxHeartbeats 2000000 in
theorem small_any (w : World) : Calls Tryz.prog 24 #[] w fun e w' => ∃ v, e = .returned v ∧ RdRs w' v [rowA, rowB] ∧ Below w.heap.size w w' := by
  obtain ⟨w1, hw1⟩ : ∃ z, z = w.alloc (.cells (flatL rowA).toArray 63) := ⟨_, rfl⟩
  obtain ⟨w2, hw2⟩ : ∃ z, z = w1.alloc (.cells (flatL rowB).toArray 63) := ⟨_, rfl⟩
  obtain ⟨w3, hw3⟩ : ∃ z, z = w2.alloc (.cells #[.slice (some ⟨w.heap.size, 0, none⟩) 2 2, .slice (some ⟨w.heap.size + 1, 0, none⟩) 2 2] 52) := ⟨_, rfl⟩
  have hs1 : w1.heap.size = w.heap.size + 1 := by rw [hw1]; simp
  have hs2 : w2.heap.size = w.heap.size + 1 + 1 := by rw [hw2]; simp [hs1]
  have h1 : Box w1 w.heap.size 63 (flatL rowA).toArray := by rw [hw1]; exact box_new
  have h2 : Box w2 (w.heap.size + 1) 63 (flatL rowB).toArray := by rw [hw2, ← hs1]; exact box_new
  have h3 : Box w3 (w.heap.size + 1 + 1) 52 #[.slice (some ⟨w.heap.size, 0, none⟩) 2 2, .slice (some ⟨w.heap.size + 1, 0, none⟩) 2 2] := by rw [hw3, ← hs2]; exact box_new
  have b1 : Below w.heap.size w w1 := by rw [hw1]; exact below_new _ _
  have b2 : Below w1.heap.size w1 w2 := by rw [hw2]; exact below_new _ _
  have b3 : Below w2.heap.size w2 w3 := by rw [hw3]; exact below_new _ _
  have HR : Hid (RdRs w3 (.slice (some ⟨w.heap.size + 1 + 1, 0, none⟩) 2 2) [rowA, rowB]) := Lib.hid (rdrs_two h3 (rdl_box (l := rowA) ((h1.on b2).on b3) (by decide)) (rdl_box (l := rowB) (h2.on b3) (by decide)))
  have HB : Hid (Below w.heap.size w w3) := Lib.hid (bch (bch b1 b2) b3)
  have HW : Hid (w3 = (((w.alloc (.cells (flatL rowA).toArray 63)).alloc (.cells (flatL rowB).toArray 63)).alloc (.cells #[.slice (some ⟨w.heap.size, 0, none⟩) 2 2, .slice (some ⟨w.heap.size + 1, 0, none⟩) 2 2] 52))) := Lib.hid (by rw [hw3, hw2, hw1])
  clear hw1 hw2 hw3 hs1 hs2 h1 h2 h3 b1 b2 b3
  go_enter Tryz.func24, Tryz.ntmps24
  go_wp2
  go_ret
  refine ⟨_, rfl, ?_, ?_⟩
  · have := HR.out
    rw [HW.out] at this
    exact this
  · have := HB.out
    rw [HW.out] at this
    exact this
end Go.Proofs.YtgmplpfbhcdofaaGreat
