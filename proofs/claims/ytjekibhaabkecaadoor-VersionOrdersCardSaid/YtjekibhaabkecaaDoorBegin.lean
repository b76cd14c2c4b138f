/- Proved here: begin and Behind of package version. -/
import Derived.Test.YtjekibhaabkecaaDoorCompare
import Derived.Laws.CopyRow
namespace Go.Proofs.YtjekibhaabkecaaDoor
open Go.RowKit Go.Shelf


/-- The version of so many first numbers. -/
def Ver.first (v : Ver) (k : Nat) : Ver := ⟨if 0 < k then v.n0 else 0, if 1 < k then v.n1 else 0, if 2 < k then v.n2 else 0, if 3 < k then v.n3 else 0, k, ⟨#[]⟩, 0⟩
def Ver.nums (v : Ver) : List Value := [.int .i64 v.n0, .int .i64 v.n1, .int .i64 v.n2, .int .i64 v.n3]
theorem info3 : (Tryd.prog.info? 3).map (·.size) = some 1 := by kernel_rfl

/-- copy of some cells into the beginning of a box, at a step of a region that draws. -/
theorem wp_copy_if {op : Oper} {a : Act} {w : World} {K : Act → World → Prop} {Q : Exit → Act → World → Prop} {ops : Array Oper} (hw : Region.wanted op (yielded ops a.tmps) = true) (d s : Operand) (ho : op.op = .call { callee := .builtin .copy, args := #[d, s], argTypes := #[65, 65] })
    (g dl dc sg sl sc : Nat) (cur : Array Value) (cs : List Value) (hd : a.eval d = .slice (some ⟨g, 0, none⟩) dl dc) (hs : a.eval s = .slice (some ⟨sg, 0, none⟩) sl sc) (hg : Box w g 26 cur) (hn : cs.length = Nat.min sl dl)
    (hsrc : ∀ (j : Nat) (x : Value), cs[j]? = some x → w.cell? ⟨sg, j, none⟩ = some x) (hfit : cs.length ≤ cur.size) (h1 : ∀ x ∈ cs, x.oneCell' = true)
    (h : K (a.put op.dst (.int .i64 (cs.length : Int))) (w.setRow g (cs ++ cur.toList.drop cs.length).toArray)) : if Region.wanted op (yielded ops a.tmps) = true then op.wp Tryd.prog a w K Q else K (a.put op.dst undef) w := by
  rw [if_pos hw]
  have hr := run_copy_row (P := Tryd.prog) w 65 65 op.type 3 g 0 dl dc ⟨sg, 0, none⟩ sl sc cur 26 cs Tryd.underlying65 info3 hg hn (fun j x hx => by
    have e : (⟨sg, 0, none⟩ : Addr).add j = ⟨sg, j, none⟩ := by
      unfold Addr.add
      split <;> simp_all
    rw [e]
    exact hsrc j x hx) (by omega) h1
  simp only [Nat.zero_add, List.take_zero, List.nil_append] at hr
  unfold Oper.wp execOp
  simp only [ho, resolve, invoke, builtin, Sem.run_bind, Sem.run_pure, Result.andThen_ok, List.map_toArray, List.map_cons, List.map_nil, hd, hs, hr]
  exact h
theorem Box.drew {w : World} {g : Nat} {t : TypeId} {cs : Array Value} (h : Box w g t cs) : Box w.drew g t cs := h
theorem Box.row {w : World} {g : Nat} {t : TypeId} {old : Array Value} (h : Box w g t old) (cs : Array Value) : Box (w.setRow g cs) g t cs := setRow_heap w g old cs t _ h
theorem Box.far_row {w : World} {g k : Nat} {t : TypeId} {cs : Array Value} (h : Box w k t cs) (hk : k ≠ g) (new : Array Value) : Box (w.setRow g new) k t cs := (setRow_other w g k new hk).trans h
theorem below_row {B g : Nat} {a w : World} (h : Below B a w) (hg : B ≤ g) (cs : Array Value) : Below B a (w.setRow g cs) :=
  ⟨h.os, h.tape, h.output, by simpa using h.size, fun k hk => (setRow_other w g k cs (by omega)).trans (h.block k hk)⟩
theorem first_row (v : Ver) (k : Nat) (h1 : 1 ≤ k) (h4 : k ≤ 4) : (v.nums.take k ++ (#[Value.int .i64 0, .int .i64 0, .int .i64 0, .int .i64 0, .int .i64 (k : Int), .string ⟨#[]⟩, .int .i64 0]).toList.drop (v.nums.take k).length).toArray = (v.first k).arr := by
  rcases (by omega : k = 1 ∨ k = 2 ∨ k = 3 ∨ k = 4) with rfl | rfl | rfl | rfl <;> rfl
theorem nums_len (v : Ver) (k : Nat) (h4 : k ≤ 4) : (v.nums.take k).length = k := by
  rw [List.length_take]
  show min k 4 = k
  omega
theorem nums_cell {w : World} {g : Nat} {v : Ver} (h : VBox w g v) (k j : Nat) (x : Value) (hx : (v.nums.take k)[j]? = some x) : w.cell? ⟨g, j, none⟩ = some x := by
  rw [List.getElem?_take] at hx
  split at hx
  · have hj : j < 4 := (List.getElem?_eq_some_iff.1 hx).1
    rcases (by omega : j = 0 ∨ j = 1 ∨ j = 2 ∨ j = 3) with rfl | rfl | rfl | rfl
    · cases hx; exact h.c0
    · cases hx; exact h.c1
    · cases hx; exact h.c2
    · cases hx; exact h.c3
  · cases hx
theorem nums_one (v : Ver) (k : Nat) (x : Value) (hx : x ∈ v.nums.take k) : x.oneCell' = true := by
  have := List.mem_of_mem_take hx
  simp [Ver.nums] at this
  rcases this with rfl | rfl | rfl | rfl <;> rfl

theorem info26 (v : Ver) : (Tryd.prog.info? 26).map (·.size) = some v.arr.size := by
  show _ = some 7
  kernel_rfl
theorem arr_one (v : Ver) : v.arr.all (·.oneCell') = true := by
  unfold Ver.arr
  simp [Value.oneCell']

set_option maxRecDepth 100000 in
set_option maxHeartbeats 2000000 in
theorem begin_any (v : Ver) (k : Nat) (h1 : 1 ≤ k) (h4 : k ≤ 4) (w : World) : Calls Tryd.prog 31 #[.agg v.arr, .int .i64 (k : Int)] w fun e w' => e = .returned (.agg (v.first k).arr) ∧ Below w.heap.size w w' := by
  have X1 : Box (w.alloc (.cells v.arr 26)) w.heap.size 26 v.arr := box_new
  have HC0 : VBox (((w.alloc (.cells v.arr 26)).alloc (.cells #[.int .i64 0, .int .i64 0, .int .i64 0, .int .i64 0, .int .i64 0, .string ⟨#[]⟩, .int .i64 0] 26)).alloc (.cells #[.int .i64 0, .int .i64 0, .int .i64 0, .int .i64 0, .int .i64 (k : Int), .string ⟨#[]⟩, .int .i64 0] 26)) w.heap.size v := (X1.ver.alloc _).alloc _
  have Z0 : Box (((w.alloc (.cells v.arr 26)).alloc (.cells #[.int .i64 0, .int .i64 0, .int .i64 0, .int .i64 0, .int .i64 0, .string ⟨#[]⟩, .int .i64 0] 26)).alloc (.cells #[.int .i64 0, .int .i64 0, .int .i64 0, .int .i64 0, .int .i64 (k : Int), .string ⟨#[]⟩, .int .i64 0] 26)) (w.heap.size + 1 + 1) 26 #[.int .i64 0, .int .i64 0, .int .i64 0, .int .i64 0, .int .i64 (k : Int), .string ⟨#[]⟩, .int .i64 0] := by
    have := box_new (w := (w.alloc (.cells v.arr 26)).alloc (.cells #[.int .i64 0, .int .i64 0, .int .i64 0, .int .i64 0, .int .i64 0, .string ⟨#[]⟩, .int .i64 0] 26)) (t := 26) (cs := #[.int .i64 0, .int .i64 0, .int .i64 0, .int .i64 0, .int .i64 (k : Int), .string ⟨#[]⟩, .int .i64 0])
    simpa using this
  have W0 : Box (((w.alloc (.cells v.arr 26)).alloc (.cells #[.int .i64 0, .int .i64 0, .int .i64 0, .int .i64 0, .int .i64 0, .string ⟨#[]⟩, .int .i64 0] 26)).alloc (.cells #[.int .i64 0, .int .i64 0, .int .i64 0, .int .i64 0, .int .i64 (k : Int), .string ⟨#[]⟩, .int .i64 0] 26)) (w.heap.size + 1) 26 #[.int .i64 0, .int .i64 0, .int .i64 0, .int .i64 0, .int .i64 0, .string ⟨#[]⟩, .int .i64 0] := Box.alloc (by
    have := box_new (w := (w.alloc (.cells v.arr 26))) (t := 26) (cs := #[.int .i64 0, .int .i64 0, .int .i64 0, .int .i64 0, .int .i64 0, .string ⟨#[]⟩, .int .i64 0])
    simpa using this) _
  have B0 : Below w.heap.size w (((w.alloc (.cells v.arr 26)).alloc (.cells #[.int .i64 0, .int .i64 0, .int .i64 0, .int .i64 0, .int .i64 0, .string ⟨#[]⟩, .int .i64 0] 26)).alloc (.cells #[.int .i64 0, .int .i64 0, .int .i64 0, .int .i64 0, .int .i64 (k : Int), .string ⟨#[]⟩, .int .i64 0] 26)) := (((Below.refl _ w).alloc (Nat.le_refl _) _).alloc (by simp) _).alloc (by simp; omega) _
  have HL := Lib.hid (nums_len v k h4)
  have HK := Lib.hid h4
  have HR := Lib.hid (first_row v k h1 h4)
  have HO := Lib.hid (nums_one v k)
  have HC := Lib.hid (nums_cell HC0 k)
  have HZ := Lib.hid Z0
  have HW := Lib.hid W0
  have HB := Lib.hid B0
  have k1 : (0 : Int) ≤ (k : Int) := by omega
  have k2 : (k : Int) ≤ 4 := by omega
  clear X1 HC0 Z0 W0 B0 h1 h4
  go_enter Tryd.func31, Tryd.ntmps31
  go_wp2
  obtain ⟨wq, hwq⟩ : ∃ x, x = (((w.alloc (.cells v.arr 26)).alloc (.cells #[.int .i64 0, .int .i64 0, .int .i64 0, .int .i64 0, .int .i64 0, .string ⟨#[]⟩, .int .i64 0] 26)).alloc (.cells #[.int .i64 0, .int .i64 0, .int .i64 0, .int .i64 0, .int .i64 (k : Int), .string ⟨#[]⟩, .int .i64 0] 26)) := ⟨_, rfl⟩
  rw [← hwq] at HC HZ HW HB ⊢
  clear hwq
  have Z := HZ.out.drew
  refine wp_region_held_drew (S := fun _ => True) (by kernel_rfl) trivial (fun hHeld => ?_)
  refine wpAnyH_take (i := 0) (oi := { dst := some 8, op := Op.fieldAddr 26 (Operand.tmp 5) 0, type := 0, pos := "order.go:38", after := #[], guard := none }) (v := ?_) rfl (by kernel_rfl) (by kernel_rfl) (by kernel_rfl) (fun _ _ _ h => h) (Or.inl ⟨by rfl, ?_⟩) hHeld ?_
  rotate_left
  · (intro w hSw; go_simp; try with_reducible rfl)
  (try simp only [Act.put, List.setIfInBounds_toArray, List.set_cons_zero, List.set_cons_succ])
  refine wpAnyH_take (i := 1) (oi := { dst := some 9, op := Op.slice 24 (Operand.tmp 8) none none none, type := 65, pos := "order.go:38", after := #[{ on := 0, ground := Ground.data }], guard := none }) (v := ?_) rfl (by kernel_rfl) (by kernel_rfl) (by kernel_rfl) (fun _ _ _ h => h) (Or.inl ⟨by rfl, ?_⟩) hHeld ?_
  rotate_left
  · (intro w hSw; go_simp; try with_reducible rfl)
  (try simp only [Act.put, List.setIfInBounds_toArray, List.set_cons_zero, List.set_cons_succ])
  refine wpAnyH_take (i := 2) (oi := { dst := some 10, op := Op.fieldAddr 26 (Operand.tmp 2) 0, type := 0, pos := "order.go:38", after := #[], guard := none }) (v := ?_) rfl (by kernel_rfl) (by kernel_rfl) (by kernel_rfl) (fun _ _ _ h => h) (Or.inl ⟨by rfl, ?_⟩) hHeld ?_
  rotate_left
  · (intro w hSw; go_simp; try with_reducible rfl)
  (try simp only [Act.put, List.setIfInBounds_toArray, List.set_cons_zero, List.set_cons_succ])
  refine wpAnyH_take (i := 3) (oi := { dst := some 11, op := Op.move (Operand.tmp 1), type := 3, pos := "order.go:38", after := #[], guard := none }) (v := ?_) rfl (by kernel_rfl) (by kernel_rfl) (by kernel_rfl) (fun _ _ _ h => h) (Or.inl ⟨by rfl, ?_⟩) hHeld ?_
  rotate_left
  · (intro w hSw; go_simp; try with_reducible rfl)
  (try simp only [Act.put, List.setIfInBounds_toArray, List.set_cons_zero, List.set_cons_succ])
  refine wpAnyH_take (i := 4) (oi := { dst := some 12, op := Op.slice 24 (Operand.tmp 10) none (some (Operand.tmp 11)) none, type := 65, pos := "order.go:38", after := #[{ on := 2, ground := Ground.data }, { on := 3, ground := Ground.data }], guard := none }) (v := ?_) rfl (by kernel_rfl) (by kernel_rfl) (by kernel_rfl) (fun _ _ _ h => h) (Or.inl ⟨by rfl, ?_⟩) hHeld ?_
  rotate_left
  · (intro w hSw; go_simp; try with_reducible rfl)
  (try simp only [Act.put, List.setIfInBounds_toArray, List.set_cons_zero, List.set_cons_succ])
  refine wpAnyH_ready (rs := [5]) (by kernel_rfl) (by simp) (AllReadyH.cons (o := { dst := some 13, op := Op.call { callee := Callee.builtin Builtin.copy, args := #[Operand.tmp 9, Operand.tmp 12], argTypes := #[65, 65] }, type := 3, pos := "order.go:38", after := #[{ on := 1, ground := Ground.data }, { on := 4, ground := Ground.data }], guard := none }) rfl (fun K hK => ?_) AllReadyH.nil)
  · refine wp_copy_if (by rfl) (.tmp 9) (.tmp 12) rfl (w.heap.size + 1 + 1) 4 4 w.heap.size k 4 #[.int .i64 0, .int .i64 0, .int .i64 0, .int .i64 0, .int .i64 (k : Int), .string ⟨#[]⟩, .int .i64 0] (v.nums.take k) rfl rfl Z (by rw [HL.out]; exact (Nat.min_eq_left HK.out).symm) (fun j x hx => HC.out j x hx) (by rw [HL.out]; have := HK.out; simp; omega) (fun x hx => HO.out x hx) ?_
    rw [HR.out]
    refine hK.out _ _ trivial (fun hHeld => ?_)
    (try simp only [Act.put, List.setIfInBounds_toArray, List.set_cons_zero, List.set_cons_succ])
    refine wpAnyH_done (by kernel_rfl) ?_ _
    have Y := Lib.hid (Z.row (v.first k).arr)
    have YW := Lib.hid (HW.out.drew.far_row (show w.heap.size + 1 ≠ w.heap.size + 1 + 1 by omega) (v.first k).arr)
    have YB := Lib.hid (below_row HB.out.drew (show w.heap.size ≤ w.heap.size + 1 + 1 by omega) (v.first k).arr)
    clear hHeld Z HZ HW HB HC HO HR HL
    go_wp2_with (first
      | (refine wpList_load_row rfl 26 (.tmp 5) rfl (w.heap.size + 1 + 1) rfl 26 (v.first k).arr (0, 0) _ Y.out Tryd.underlying26 rfl (info26 _) ?_)
      | (refine wpList_store_row rfl 26 (.tmp 4) (.tmp 14) rfl (w.heap.size + 1) (v.first k).arr rfl rfl 26 _ YW.out (info26 _) rfl (arr_one _) ?_))
    exact bodyPost_ret (results_cell_row rfl _ _ (w.heap.size + 1) 26 (v.first k).arr (0, 0) _ rfl (setRow_heap _ _ _ _ _ _ YW.out) Tryd.underlying26 rfl (info26 _)) rfl ⟨rfl, below_row YB.out (by omega) _⟩
end Go.Proofs.YtjekibhaabkecaaDoor
