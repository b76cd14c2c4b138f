/- Proved here: valid of package sha, where the sum that goes on may be. -/
import Derived.Test.YtkenbppoldfecaaDoorRun
import Derived.Test.YtkenbppoldfecaaDoorTexts
namespace Go.Proofs.YtkenbppoldfecaaDoor
open Go.RowKit Go.Shelf Go.Joins

theorem runA_w {w : World} {g : Nat} {s : St} {v : Value} {n : Nat} (h : Box w g 52 (runA s v n)) : w.cell? ⟨g, 8, none⟩ = some v ∧ w.cell? ⟨g, 9, none⟩ = some (.int .u64 (n : Int)) := ⟨h.cell rfl, h.cell rfl⟩

set_option maxRecDepth 100000 in
set_option maxHeartbeats 2000000 in
theorem valid_big (s : St) (a : Option Addr) (k c n : Nat) (hn : n < 2305843009213693952) (hk : k = n % 64) (hb : 64 ≤ n) (w : World) : Calls Tryd.prog 38 #[.agg (runA s (.slice a k c) n)] w fun e w' => e = .returned (.bool true) ∧ Below w.heap.size w w' := by
  have hB0 : Below w.heap.size w (w.alloc (.cells (runA s (.slice a k c) n) 52)) := (Below.refl _ _).alloc (Nat.le_refl _) _
  have X0 : Box (w.alloc (.cells (runA s (.slice a k c) n) 52)) w.heap.size 52 (runA s (.slice a k c) n) := box_new _ _ _ rfl
  obtain ⟨c8, c9⟩ := runA_w X0
  have m1 : (n : Int) % 64 = (k : Int) := by omega
  have m2 : decide ((n : Int) ≥ 2305843009213693952) = false := decide_eq_false (by omega)
  have m3 : decide ((n : Int) ≥ 64) = true := decide_eq_true (by omega)
  have m4 : IntKind.u64.wrap (k : Int) = (k : Int) := IntWalk.u64_in _ (by omega)
  have hB := Lib.hid hB0
  clear hk hB0 X0
  go_enter Tryd.func38, Tryd.ntmps38
  go_wp2_with fail
  go_quiet (fail)
  go_wp2_with fail
  go_ret
  exact ⟨rfl, below_drewN hB.out _⟩

theorem range_w {w : World} {g : Nat} {s : St} {v : Value} {n : Nat} (h : Box w g 52 (runA s v n)) : w.rangeAt g 0 (wordsV s) := fun j x hx => by
  rw [Nat.zero_add]
  have hj : j < 8 := (List.getElem?_eq_some_iff.1 hx).1
  refine h.cell ?_
  unfold runA runV
  rw [List.getElem?_toArray, List.getElem?_append_left hj]
  exact hx

/-- What holds of the cells of a Running while the words are read. -/
def Runs (w0 : World) (g : Nat) (s : St) (n : Nat) (w : World) : Prop := w.rangeAt g 0 (wordsV s) ∧ w.cell? ⟨g, 9, none⟩ = some (.int .u64 (n : Int)) ∧ Below w0.heap.size w0 w ∧ g < w.heap.size
theorem Runs.on {w0 w w' : World} {g n : Nat} {s : St} (h : Runs w0 g s n w) (hb : Below w.heap.size w w') : Runs w0 g s n w' :=
  ⟨range_on h.1 hb h.2.2.2, (hb.cell (p := ⟨g, _, none⟩) h.2.2.2).trans h.2.1, bch h.2.2.1 hb, Nat.lt_of_lt_of_le h.2.2.2 hb.size⟩

theorem same33 (s : St) (W : World) : (Op.equalIn 10000 33 (.agg (wordsV s).toArray) (.agg (stA s))).run Tryd.prog W = .ok true W := by
  obtain ⟨i0, hi, _⟩ := info_parts info30
  have c30 : Tryd.prog.cellsOf 30 = 1 := by kernel_rfl
  rw [show (10000 : Nat) = 9999 + 1 from rfl, run_equalIn_array W 9999 _ _ Tryd.underlying33 hi, c30]
  exact items_self (stA s) (fun v hv => by
    obtain ⟨x, _, rfl⟩ := List.mem_map.1 (show v ∈ (wordsV s) from hv)
    exact ⟨x, rfl⟩) (List.range 8) (fun j hj => by rw [stA_size]; exact List.mem_range.1 hj) W


set_option maxRecDepth 100000 in
set_option maxHeartbeats 2000000 in
theorem valid_small (t : TypeId) (fr : Nat × Nat) (a : Option Addr) (k c n : Nat) (hk : k = n) (hb : n < 64) (w : World) (hP : Prim t fr w) : Calls Tryd.prog 38 #[.agg (runA first (.slice a k c) n)] w fun e w' => e = .returned (.bool true) ∧ Below w.heap.size w w' := by
  subst hk
  have hB0 : Below w.heap.size w (w.alloc (.cells (runA first (.slice a k c) k) 52)) := (Below.refl _ _).alloc (Nat.le_refl _) _
  have X0 : Box (w.alloc (.cells (runA first (.slice a k c) k) 52)) w.heap.size 52 (runA first (.slice a k c) k) := box_new _ _ _ rfl
  obtain ⟨c8, c9⟩ := runA_w X0
  have m1 : (k : Int) % 64 = (k : Int) := by omega
  have m2 : decide ((k : Int) ≥ 2305843009213693952) = false := decide_eq_false (by omega)
  have m3 : decide ((k : Int) ≥ 64) = false := decide_eq_false (by omega)
  have m4 : IntKind.u64.wrap (k : Int) = (k : Int) := IntWalk.u64_in _ (by omega)
  have HX := Lib.hid X0
  have hB := Lib.hid hB0
  have HP := Lib.hid (Prim.on hP hB0)
  clear X0 hB0 hP
  go_enter Tryd.func38, Tryd.ntmps38
  go_wp2_with fail
  obtain ⟨wb, hwb⟩ : ∃ x, x = w.alloc (.cells (runA first (.slice a k c) k) 52) := ⟨_, rfl⟩
  rw [← hwb] at HX hB HP c8 c9 ⊢
  obtain ⟨gb, hgb⟩ : ∃ x, x = w.heap.size := ⟨_, rfl⟩
  have s0 : Runs w gb first k wb.drew := ⟨range_w (by rw [hgb]; exact HX.out), by rw [hgb]; exact c9, hB.out.drew, by rw [hgb]; exact HX.out.lt⟩
  rw [← hgb] at HX c8 c9 ⊢
  have hPd : Prim t fr wb.drew := HP.out
  have HP2 := Lib.hid hPd
  clear hwb hgb hPd HP hB c8 c9 HX
  have hu := Tryd.underlying33
  have hi : (Tryd.prog.info? 33).map (·.size) = some (wordsV first).length := info33
  refine wp_region_held_drew (S := Runs w gb first k) (by kernel_rfl) s0 (fun hHeld => ?_)
  (refine wpAnyH_take (i := 0) (v := ?_) rfl (by kernel_rfl) (by kernel_rfl) (by kernel_rfl) (fun _ _ _ h => h) (Or.inl ⟨by rfl, ?_⟩) hHeld ?_; rotate_left)
  · (intro w hSw; go_simp; try with_reducible rfl)
  (try simp only [Act.put, List.setIfInBounds_toArray])
  (refine wpAnyH_take (i := 1) (v := ?_) rfl (by kernel_rfl) (by kernel_rfl) (by kernel_rfl) (fun _ _ _ h => h) (Or.inl ⟨by rfl, ?_⟩) hHeld ?_; rotate_left)
  · (intro w hSw; have hc := hSw.2.1; go_simp; try with_reducible rfl)
  (try simp only [Act.put])
  (refine wpAnyH_take (i := 2) (v := ?_) rfl (by kernel_rfl) (by kernel_rfl) (by kernel_rfl) (fun _ _ _ h => h) (Or.inl ⟨by rfl, ?_⟩) hHeld ?_; rotate_left)
  · (intro w hSw; go_simp; try with_reducible rfl)
  (try simp only [Act.put])
  (refine wpAnyH_take (i := 3) (v := ?_) rfl (by kernel_rfl) (by kernel_rfl) (by kernel_rfl) (fun _ _ _ h => h) (Or.inl ⟨by rfl, ?_⟩) hHeld ?_; rotate_left)
  · (intro w hSw; go_simp; try with_reducible rfl)
  (try simp only [Act.put])
  (refine wpAnyH_take (i := 4) (v := ?_) rfl (by kernel_rfl) (by kernel_rfl) (by kernel_rfl) (fun _ _ _ h => h) (Or.inl ⟨by rfl, ?_⟩) hHeld ?_; rotate_left)
  · (intro w hSw; go_simp; try with_reducible rfl)
  (try simp only [Act.put])
  refine wpAnyH_take (i := 5) (v := _) rfl (by kernel_rfl) (by kernel_rfl) (by kernel_rfl) (fun _ _ _ h => h) (yieldsIf_load_mid (by rfl) 33 (.tmp 20) rfl gb 0 rfl (wordsV first) (.array 8 30) (fun _ h => h.1) hu rfl hi) hHeld ?_
  (try simp only [Act.put])
  refine wpAnyH_ready (rs := [6]) (by kernel_rfl) (by simp) (AllReadyH.cons (o := _) rfl (fun K hK => ?_) AllReadyH.nil)
  go_simp
  refine (beginnings_any t fr _ HP2.out).mono ?_
  rintro e we ⟨rfl, hbe⟩
  refine hK.out _ _ (hHeld.on hbe) (fun hHeld => ?_)
  (try simp only [Act.put, List.setIfInBounds_toArray, List.set_cons_zero, List.set_cons_succ])
  refine wpAnyH_take (i := 7) (oi := { dst := some 23, op := .binOp .eql 33 (.tmp 21) (.tmp 22) 33, type := 4, pos := "block.go:21", after := #[{ on := 5, ground := .data }, { on := 6, ground := .data }, { on := 3, ground := .guard }], guard := some (3, false) }) (v := .bool true) rfl (by kernel_rfl) (by kernel_rfl) (by kernel_rfl) (fun _ _ _ h => h) (Or.inl ⟨by rfl, fun w hSw => ?_⟩) hHeld ?_
  · go_simp
    rw [same33]
    rfl
  (try simp only [Act.put, List.setIfInBounds_toArray, List.set_cons_zero, List.set_cons_succ])
  refine wpAnyH_take (i := 8) (oi := { dst := some 24, op := .pick (.tmp 19) (.const (.bool true)) (.tmp 23), type := 4, pos := "block.go:21", after := #[{ on := 3, ground := .data }, { on := 7, ground := .data }], guard := none }) (v := ?_) rfl (by kernel_rfl) (by kernel_rfl) (by kernel_rfl) (fun _ _ _ h => h) (Or.inl ⟨by rfl, ?_⟩) hHeld ?_
  rotate_left
  · (intro w hSw; go_simp; try with_reducible rfl)
  (try simp only [Act.put, List.setIfInBounds_toArray, List.set_cons_zero, List.set_cons_succ])
  refine wpAnyH_take (i := 9) (oi := { dst := some 2, op := .assign (.tmp 24), type := 4, pos := "block.go:21", after := #[{ on := 8, ground := .data }, { on := 6, ground := .chain }, { on := 0, ground := .phase }, { on := 1, ground := .phase }, { on := 2, ground := .phase }, { on := 3, ground := .phase }, { on := 4, ground := .phase }, { on := 5, ground := .phase }, { on := 6, ground := .phase }, { on := 7, ground := .phase }, { on := 8, ground := .phase }], guard := none }) (v := ?_) rfl (by kernel_rfl) (by kernel_rfl) (by kernel_rfl) (fun _ _ _ h => h) (Or.inl ⟨by rfl, ?_⟩) hHeld ?_
  rotate_left
  · (intro w hSw; go_simp; try with_reducible rfl)
  (try simp only [Act.put, List.setIfInBounds_toArray, List.set_cons_zero, List.set_cons_succ])
  refine wpAnyH_done (by kernel_rfl) ?_ _
  have hB9 := hHeld.2.2.1
  clear hHeld
  go_wp2_with fail
  go_ret
  exact ⟨rfl, hB9⟩

/-- A sum that goes on, as Begin and More give it. -/
def MayBe (s : St) (k n : Nat) : Prop := n < 2305843009213693952 ∧ k = n % 64 ∧ (n < 64 → s = first)
theorem valid_any (t : TypeId) (fr : Nat × Nat) (s : St) (a : Option Addr) (k c n : Nat) (hm : MayBe s k n) (w : World) (hP : Prim t fr w) : Calls Tryd.prog 38 #[.agg (runA s (.slice a k c) n)] w fun e w' => e = .returned (.bool true) ∧ Below w.heap.size w w' := by
  obtain ⟨h1, h2, h3⟩ := hm
  by_cases hb : n < 64
  · rw [h3 hb]
    exact valid_small t fr a k c n (by omega) hb w hP
  · exact valid_big s a k c n h1 h2 (by omega) w
end Go.Proofs.YtkenbppoldfecaaDoor
