/- Proved here: compare of package version, and what it calls: which of two versions stands ahead. -/
import Derived.Test.YtjekibhaabkecaaDoorValid
import Derived.StillTailTactics
import Derived.Deep.RegionHeld3
namespace Go.Proofs.YtjekibhaabkecaaDoor
open Go.RowKit Go.Shelf

def orI (x y : Int) : Int := if x = 0 then y else x
def firstC (c : Nat → Int) : Int := orI (c 0) (orI (c 1) (orI (c 2) (c 3)))
def numC (a b : Ver) (j : Nat) : Int := Lib.compareInt (a.num j) (b.num j)
def tagC (a b : ByteArray) : Int := if a = b then 0 else if a.data.toList = [] then 1 else if b.data.toList = [] then -1 else Lib.compareBytes a.data.toList b.data.toList
def cmpV (a b : Ver) : Int := firstC fun j => if j = 0 then firstC (numC a b) else if j = 1 then tagC a.tag b.tag else if j = 2 then Lib.compareInt a.step b.step else Lib.compareInt a.many b.many

theorem firstC_at (c : Nat → Int) (k : Nat) (hk : k < 4) (h0 : ∀ j, j < k → c j = 0) (h : c k ≠ 0) : firstC c = c k := by
  unfold firstC orI
  rcases (by omega : k = 0 ∨ k = 1 ∨ k = 2 ∨ k = 3) with rfl | rfl | rfl | rfl
  · rw [if_neg h]
  · rw [if_pos (h0 0 (by omega)), if_neg h]
  · rw [if_pos (h0 0 (by omega)), if_pos (h0 1 (by omega)), if_neg h]
  · rw [if_pos (h0 0 (by omega)), if_pos (h0 1 (by omega)), if_pos (h0 2 (by omega))]
theorem firstC_none (c : Nat → Int) (h0 : ∀ j, j < 4 → c j = 0) : firstC c = 0 := by
  unfold firstC orI
  rw [if_pos (h0 0 (by omega)), if_pos (h0 1 (by omega)), if_pos (h0 2 (by omega)), h0 3 (by omega)]
theorem VBox.num {w : World} {g : Nat} {v : Ver} (h : VBox w g v) {k : Nat} (hk : k < 4) : w.cell? ⟨g, k, none⟩ = some (.int .i64 (v.num k)) := by
  rcases (by omega : k = 0 ∨ k = 1 ∨ k = 2 ∨ k = 3) with rfl | rfl | rfl | rfl
  · exact h.c0
  · exact h.c1
  · exact h.c2
  · exact h.c3
theorem VBox.drewN {w : World} {g : Nat} {v : Ver} (h : VBox w g v) (n : Nat) : VBox (w.drewN n) g v := ⟨h.c0, h.c1, h.c2, h.c3, h.c4, h.c5, h.c6⟩
theorem ret_int {k : IntKind} {a b : Int} (h : a = b) : Ending.returned (.int k a) = .returned (.int k b) := by rw [h]

theorem cmp_int (x y : Int) (w : World) : Calls Tryd.prog 45 #[.int .i64 x, .int .i64 y] w fun e w' => e = .returned (.int .i64 (Lib.compareInt x y)) ∧ w = w' := (Tryd.cmp_Compare_int x y w).mono fun _ _ h => ⟨h.1, h.2.symm⟩
theorem str_cmp (a b : ByteArray) (w : World) : Calls Tryd.prog 57 #[.string a, .string b] w fun e w' => e = .returned (.int .i64 (Lib.compareBytes a.data.toList b.data.toList)) ∧ w = w' := (Tryd.strings_Compare a b w).mono fun _ _ h => ⟨h.1, h.2.symm⟩

set_option maxRecDepth 100000 in
set_option maxHeartbeats 1000000 in
theorem tags_any (a b : ByteArray) (w : World) : Calls Tryd.prog 47 #[.string a, .string b] w fun e w' => e = .returned (.int .i64 (tagC a b)) ∧ w = w' := by
  by_cases h1 : a = b
  · subst h1
    have HT : Hid (tagC a a = 0) := Lib.hid (if_pos rfl)
    have t2 : (a.toList == a.toList) = true := by simp
    go_enter Tryd.func47, Tryd.ntmps47
    go_wp2_with fail
    go_ret
    exact ⟨ret_int HT.out.symm, rfl⟩
  · have e1 : a.toList ≠ b.toList := fun h => h1 (by
      rw [Lib.toList_data, Lib.toList_data] at h
      cases a
      cases b
      simp at h
      rw [h])
    have t2 : (a.toList == b.toList) = false := by simp [e1]
    by_cases ha : a.toList = []
    · have HT : Hid (tagC a b = 1) := Lib.hid (by unfold tagC; rw [if_neg h1, if_pos (by rw [← Lib.toList_data]; exact ha)])
      have f1 := isEmpty_yes ha
      clear h1 e1 ha
      go_enter Tryd.func47, Tryd.ntmps47
      go_wp2_with fail
      go_ret
      exact ⟨ret_int HT.out.symm, rfl⟩
    · have f1 := isEmpty_no ha
      by_cases hb : b.toList = []
      · have HT : Hid (tagC a b = -1) := Lib.hid (by unfold tagC; rw [if_neg h1, if_neg (by rw [← Lib.toList_data]; exact ha), if_pos (by rw [← Lib.toList_data]; exact hb)])
        have f2 := isEmpty_yes hb
        clear h1 e1 ha hb
        go_enter Tryd.func47, Tryd.ntmps47
        go_wp2_with fail
        go_ret
        exact ⟨ret_int HT.out.symm, rfl⟩
      · have HT : Hid (tagC a b = Lib.compareBytes a.data.toList b.data.toList) := Lib.hid (by unfold tagC; rw [if_neg h1, if_neg (by rw [← Lib.toList_data]; exact ha), if_neg (by rw [← Lib.toList_data]; exact hb)])
        have f2 := isEmpty_no hb
        clear h1 e1 ha hb
        go_enter Tryd.func47, Tryd.ntmps47
        go_wp2_with fail
        refine (str_cmp a b w).mono ?_
        rintro e w1 ⟨rfl, rfl⟩
        go_wp2_with fail
        go_ret
        exact ⟨ret_int HT.out.symm, rfl⟩

set_option maxRecDepth 100000 in
set_option maxHeartbeats 1000000 in
/-- How two versions differ at a place: the closure. -/
theorem differ_any (a b : Ver) (ga gb k : Nat) (hk : k < 4) (w : World) (ha : VBox w ga a) (hb : VBox w gb b) : Calls Tryd.prog 44 #[.int .i64 (k : Int), .pointer (some ⟨ga, 0, none⟩), .pointer (some ⟨gb, 0, none⟩)] w fun e w' => e = .returned (.int .i64 (numC a b k)) ∧ ∃ n, w' = w.drewN n := by
  have r1 := ha.num hk
  have r2 := hb.num hk
  have k1 : (0 : Int) ≤ (k : Int) := by omega
  have k2 : (k : Int) < 4 := by omega
  have HN : Hid (numC a b k = Lib.compareInt (a.num k) (b.num k)) := Lib.hid rfl
  generalize a.num k = x at r1 HN
  generalize b.num k = y at r2 HN
  clear ha hb
  go_enter Tryd.func44, Tryd.ntmps44
  go_wp2_with fail
  go_quiet ((go_at_call 45; exact Calls.quiet_of_same (Tryd.cmp_Compare_int _ _ _)))
  go_wp2_with fail
  go_ret
  exact ⟨ret_int HN.out.symm, _, rfl⟩

set_option maxRecDepth 100000 in
set_option maxHeartbeats 2000000 in
theorem firstOf_any (a b : Ver) (ga gb : Nat) (w : World) (ha : VBox w ga a) (hb : VBox w gb b) : Calls Tryd.prog 43 #[.int .i64 4, .func (.func 44) #[] #[.pointer (some ⟨ga, 0, none⟩), .pointer (some ⟨gb, 0, none⟩)]] w fun e w' => e = .returned (.int .i64 (firstC (numC a b))) ∧ ∃ n, w' = w.drewN n := by
  have HA := Lib.hid ha
  have HB := Lib.hid hb
  clear ha hb
  go_enter Tryd.func43, Tryd.ntmps43
  go_wp2_with fail
  go_loopw [5, 6, 8, 9, 10, 11, 12, 13, 14, 15, 17] (fun _ _ i _ _ _ _ _ _ _ _ wr => ∃ k d : Nat, k ≤ 4 ∧ i = .int .i64 k ∧ wr = w.drewN d ∧ Hid (∀ j, j < k → numC a b j = 0)) (fun _ _ i _ _ _ _ _ _ _ _ _ => 4 - (Lib.intOf i).toNat)
  case atStart => exact ⟨0, 0, Nat.zero_le _, rfl, rfl, Lib.hid (fun j hj => absurd hj (Nat.not_lt_zero _))⟩
  case round =>
    obtain ⟨k, d, hk, rfl, hwr, HK⟩ := hrel
    subst hwr
    by_cases hlt : k < 4
    · have k4 : (k : Int) < 4 := by omega
      go_wp2_with fail
      refine (differ_any a b ga gb k hlt _ (HA.out.drewN d) (HB.out.drewN d)).mono ?_
      rintro e w1 ⟨rfl, d1, rfl⟩
      by_cases hz : numC a b k = 0
      · have hz2 : (numC a b k != 0) = false := by simp [hz]
        have HZ2 := Lib.hid hz
        rw [hz]
        clear hz hz2
        go_wp2_with fail
        go_roundw
        case rel => exact ⟨k + 1, d + d1, hlt, by go_num, rfl, Lib.hid (fun j hj => by
          rcases Nat.lt_or_ge j k with h | h
          · exact HK.out j h
          · obtain rfl : j = k := by omega
            exact HZ2.out)⟩
        case measure => simp [Lib.intOf]; omega
      · have hz2 : (numC a b k != 0) = true := by simp [hz]
        have HZ := Lib.hid (firstC_at (numC a b) k hlt HK.out hz)
        clear hz
        generalize numC a b k = x at hz2 HZ
        go_wp2_with fail
        go_ret
        exact ⟨ret_int HZ.out.symm, d + d1, rfl⟩
    · have k4 : ¬ ((k : Int) < 4) := by omega
      have hk4 : k = 4 := by omega
      have HZ := Lib.hid (firstC_none (numC a b) (fun j hj => HK.out j (by omega)))
      clear hk4
      go_wp2_with fail
      go_ret
      exact ⟨ret_int HZ.out.symm, d, rfl⟩

set_option maxRecDepth 100000 in
set_option maxHeartbeats 2000000 in
theorem or_any (c : Nat → Int) (g : Nat) (w : World) (hc : ∀ j, j < 4 → w.cell? ⟨g, j, none⟩ = some (.int .i64 (c j))) : Calls Tryd.prog 46 #[.slice (some ⟨g, 0, none⟩) 4 4] w fun e w' => e = .returned (.int .i64 (firstC c)) ∧ w = w' := by
  have HC := Lib.hid hc
  clear hc
  go_enter Tryd.func46, Tryd.ntmps46
  go_wp2_with fail
  go_loop [5, 8, 9, 10, 11, 12, 13, 14, 16] (fun _ i _ _ _ _ _ _ _ => ∃ k : Nat, k ≤ 4 ∧ i = .int .i64 k ∧ Hid (∀ j, j < k → c j = 0)) (fun _ i _ _ _ _ _ _ _ => 4 - (Lib.intOf i).toNat)
  case atStart => exact ⟨0, Nat.zero_le _, rfl, Lib.hid (fun j hj => absurd hj (Nat.not_lt_zero _))⟩
  case round =>
    obtain ⟨k, hk, rfl, HK⟩ := hrel
    by_cases hlt : k < 4
    · have k4 : (k : Int) < 4 := by omega
      have c1 := HC.out k hlt
      by_cases hz : c k = 0
      · have HZ2 := Lib.hid hz
        rw [hz] at c1
        clear hz
        go_wp2_with fail
        go_round
        case rel => exact ⟨k + 1, hlt, by go_num, Lib.hid (fun j hj => by
          rcases Nat.lt_or_ge j k with h | h
          · exact HK.out j h
          · obtain rfl : j = k := by omega
            exact HZ2.out)⟩
        case measure => simp [Lib.intOf]; omega
      · have hz2 : (c k != 0) = true := by simp [hz]
        have HZ := Lib.hid (firstC_at c k hlt HK.out hz)
        clear hz
        generalize c k = x at hz2 HZ c1
        go_wp2_with fail
        go_ret
        exact ⟨ret_int HZ.out.symm, rfl⟩
    · have k4 : ¬ ((k : Int) < 4) := by omega
      have hk4 : k = 4 := by omega
      have HZ := Lib.hid (firstC_none c (fun j hj => HK.out j (by omega)))
      clear hk4
      go_wp2_with fail
      go_ret
      exact ⟨ret_int HZ.out.symm, rfl⟩

/-- Two versions in their boxes, all else as it was. -/
structure Two (a b : Ver) (ga gb : Nat) (w w' : World) : Prop where
  l : VBox w' ga a
  r : VBox w' gb b
  low : Below w.heap.size w w'
theorem VBox.alloc {w : World} {g : Nat} {v : Ver} (h : VBox w g v) (o : Obj) : VBox (w.alloc o) g v := by
  have k : ∀ {j : Nat} {x : Value}, w.cell? ⟨g, j, none⟩ = some x → (w.alloc o).cell? ⟨g, j, none⟩ = some x := fun {j x} hx => by
    rw [World.cell?_alloc_lt _ _ _ (World.block_lt_of_cell? w _ hx)]
    exact hx
  exact ⟨k h.c0, k h.c1, k h.c2, k h.c3, k h.c4, k h.c5, k h.c6⟩
theorem VBox.drew {w : World} {g : Nat} {v : Ver} (h : VBox w g v) : VBox w.drew g v := ⟨h.c0, h.c1, h.c2, h.c3, h.c4, h.c5, h.c6⟩
theorem Two.alloc {a b : Ver} {ga gb : Nat} {w w' : World} (h : Two a b ga gb w w') (o : Obj) : Two a b ga gb w (w'.alloc o) := ⟨h.l.alloc o, h.r.alloc o, h.low.alloc h.low.size o⟩
theorem Two.drew {a b : Ver} {ga gb : Nat} {w w' : World} (h : Two a b ga gb w w') : Two a b ga gb w w'.drew := ⟨h.l.drew, h.r.drew, h.low.drew⟩
theorem tags_q (a b : ByteArray) (w : World) : Calls Tryd.prog 47 #[.string a, .string b] w fun e w' => e = .returned (.int .i64 (tagC a b)) ∧ w' = w := (tags_any a b w).mono fun _ _ h => ⟨h.1, h.2.symm⟩

set_option maxRecDepth 100000 in
set_option maxHeartbeats 2000000 in
theorem compare_any (a b : Ver) (w : World) : Calls Tryd.prog 33 #[.agg a.arr, .agg b.arr] w fun e w' => e = .returned (.int .i64 (cmpV a b)) ∧ Below w.heap.size w w' := by
  have X1 : Box ((w.alloc (.cells a.arr 26)).alloc (.cells b.arr 26)) w.heap.size 26 a.arr := box_new.alloc _
  have X2 : Box ((w.alloc (.cells a.arr 26)).alloc (.cells b.arr 26)) (w.heap.size + 1) 26 b.arr := heap_alloc2_new w _ _
  have V1 := Lib.hid X1.ver
  have V2 := Lib.hid X2.ver
  have hB := Lib.hid (((Below.refl w.heap.size w).alloc (Nat.le_refl _) (.cells a.arr 26)).alloc (by simp) (.cells b.arr 26))
  clear X1 X2
  go_enter Tryd.func33, Tryd.ntmps33
  go_wp2_with fail
  refine (firstOf_any a b _ _ _ V1.out V2.out).mono ?_
  rintro e w1 ⟨rfl, d1, hw1⟩
  obtain ⟨wb, hwb⟩ : ∃ x, x = (w.alloc (.cells a.arr 26)).alloc (.cells b.arr 26) := ⟨_, rfl⟩
  rw [← hwb] at hw1 V1 V2 hB
  have U1 : Hid (VBox w1 w.heap.size a) := Lib.hid (by rw [hw1]; exact V1.out.drewN d1)
  have U2 : Hid (VBox w1 (w.heap.size + 1) b) := Lib.hid (by rw [hw1]; exact V2.out.drewN d1)
  have hB1 : Hid (Below w.heap.size w w1) := Lib.hid (by rw [hw1]; exact below_drewN hB.out d1)
  clear hw1 hwb V1 V2 hB
  go_wp2_with fail
  have k0 : Two a b w.heap.size (w.heap.size + 1) w w1 := ⟨U1.out, U2.out, hB1.out⟩
  clear U1 U2 hB1
  refine wp_region_held_drew (S := fun w' => Two a b w.heap.size (w.heap.size + 1) w w') (by kernel_rfl) k0.drew (fun hHeld => ?_)
  refine wpAnyH_take (i := 0) (oi := { dst := some 8, op := Op.move (Operand.tmp 5), type := 3, pos := "order.go:45", after := #[], guard := none }) (v := ?_) rfl (by kernel_rfl) (by kernel_rfl) (by kernel_rfl) (fun _ _ _ h => h) (Or.inl ⟨by rfl, ?_⟩) hHeld ?_
  rotate_left
  · (intro w hSw; go_simp; try with_reducible rfl)
  (try simp only [Act.put, List.setIfInBounds_toArray, List.set_cons_zero, List.set_cons_succ])
  refine wpAnyH_take (i := 1) (oi := { dst := some 9, op := Op.fieldAddr 26 (Operand.tmp 2) 2, type := 0, pos := "order.go:45", after := #[], guard := none }) (v := ?_) rfl (by kernel_rfl) (by kernel_rfl) (by kernel_rfl) (fun _ _ _ h => h) (Or.inl ⟨by rfl, ?_⟩) hHeld ?_
  rotate_left
  · (intro w hSw; go_simp; try with_reducible rfl)
  (try simp only [Act.put, List.setIfInBounds_toArray, List.set_cons_zero, List.set_cons_succ])
  refine wpAnyH_take (i := 2) (oi := { dst := some 10, op := Op.load 9 (Operand.tmp 9), type := 9, pos := "order.go:45", after := #[{ on := 1, ground := Ground.data }], guard := none }) (v := ?_) rfl (by kernel_rfl) (by kernel_rfl) (by kernel_rfl) (fun _ _ _ h => h) (Or.inl ⟨by rfl, ?_⟩) hHeld ?_
  rotate_left
  · (intro w hSw; have hc := hSw.l.c5; go_simp; try with_reducible rfl)
  (try simp only [Act.put, List.setIfInBounds_toArray, List.set_cons_zero, List.set_cons_succ])
  refine wpAnyH_take (i := 3) (oi := { dst := some 11, op := Op.fieldAddr 26 (Operand.tmp 3) 2, type := 0, pos := "order.go:45", after := #[], guard := none }) (v := ?_) rfl (by kernel_rfl) (by kernel_rfl) (by kernel_rfl) (fun _ _ _ h => h) (Or.inl ⟨by rfl, ?_⟩) hHeld ?_
  rotate_left
  · (intro w hSw; go_simp; try with_reducible rfl)
  (try simp only [Act.put, List.setIfInBounds_toArray, List.set_cons_zero, List.set_cons_succ])
  refine wpAnyH_take (i := 4) (oi := { dst := some 12, op := Op.load 9 (Operand.tmp 11), type := 9, pos := "order.go:45", after := #[{ on := 3, ground := Ground.data }], guard := none }) (v := ?_) rfl (by kernel_rfl) (by kernel_rfl) (by kernel_rfl) (fun _ _ _ h => h) (Or.inl ⟨by rfl, ?_⟩) hHeld ?_
  rotate_left
  · (intro w hSw; have hc := hSw.r.c5; go_simp; try with_reducible rfl)
  (try simp only [Act.put, List.setIfInBounds_toArray, List.set_cons_zero, List.set_cons_succ])
  refine wpAnyH_take (i := 6) (oi := { dst := some 14, op := Op.fieldAddr 26 (Operand.tmp 2) 3, type := 0, pos := "order.go:45", after := #[], guard := none }) (v := ?_) rfl (by kernel_rfl) (by kernel_rfl) (by kernel_rfl) (fun _ _ _ h => h) (Or.inl ⟨by rfl, ?_⟩) hHeld ?_
  rotate_left
  · (intro w hSw; go_simp; try with_reducible rfl)
  (try simp only [Act.put, List.setIfInBounds_toArray, List.set_cons_zero, List.set_cons_succ])
  refine wpAnyH_take (i := 7) (oi := { dst := some 15, op := Op.load 3 (Operand.tmp 14), type := 3, pos := "order.go:45", after := #[{ on := 6, ground := Ground.data }], guard := none }) (v := ?_) rfl (by kernel_rfl) (by kernel_rfl) (by kernel_rfl) (fun _ _ _ h => h) (Or.inl ⟨by rfl, ?_⟩) hHeld ?_
  rotate_left
  · (intro w hSw; have hc := hSw.l.c6; go_simp; try with_reducible rfl)
  (try simp only [Act.put, List.setIfInBounds_toArray, List.set_cons_zero, List.set_cons_succ])
  refine wpAnyH_take (i := 8) (oi := { dst := some 16, op := Op.fieldAddr 26 (Operand.tmp 3) 3, type := 0, pos := "order.go:45", after := #[], guard := none }) (v := ?_) rfl (by kernel_rfl) (by kernel_rfl) (by kernel_rfl) (fun _ _ _ h => h) (Or.inl ⟨by rfl, ?_⟩) hHeld ?_
  rotate_left
  · (intro w hSw; go_simp; try with_reducible rfl)
  (try simp only [Act.put, List.setIfInBounds_toArray, List.set_cons_zero, List.set_cons_succ])
  refine wpAnyH_take (i := 9) (oi := { dst := some 17, op := Op.load 3 (Operand.tmp 16), type := 3, pos := "order.go:45", after := #[{ on := 8, ground := Ground.data }], guard := none }) (v := ?_) rfl (by kernel_rfl) (by kernel_rfl) (by kernel_rfl) (fun _ _ _ h => h) (Or.inl ⟨by rfl, ?_⟩) hHeld ?_
  rotate_left
  · (intro w hSw; have hc := hSw.r.c6; go_simp; try with_reducible rfl)
  (try simp only [Act.put, List.setIfInBounds_toArray, List.set_cons_zero, List.set_cons_succ])
  refine wpAnyH_take (i := 11) (oi := { dst := some 19, op := Op.fieldAddr 26 (Operand.tmp 2) 1, type := 0, pos := "order.go:45", after := #[], guard := none }) (v := ?_) rfl (by kernel_rfl) (by kernel_rfl) (by kernel_rfl) (fun _ _ _ h => h) (Or.inl ⟨by rfl, ?_⟩) hHeld ?_
  rotate_left
  · (intro w hSw; go_simp; try with_reducible rfl)
  (try simp only [Act.put, List.setIfInBounds_toArray, List.set_cons_zero, List.set_cons_succ])
  refine wpAnyH_take (i := 12) (oi := { dst := some 20, op := Op.load 3 (Operand.tmp 19), type := 3, pos := "order.go:45", after := #[{ on := 11, ground := Ground.data }], guard := none }) (v := ?_) rfl (by kernel_rfl) (by kernel_rfl) (by kernel_rfl) (fun _ _ _ h => h) (Or.inl ⟨by rfl, ?_⟩) hHeld ?_
  rotate_left
  · (intro w hSw; have hc := hSw.l.c4; go_simp; try with_reducible rfl)
  (try simp only [Act.put, List.setIfInBounds_toArray, List.set_cons_zero, List.set_cons_succ])
  refine wpAnyH_take (i := 13) (oi := { dst := some 21, op := Op.fieldAddr 26 (Operand.tmp 3) 1, type := 0, pos := "order.go:45", after := #[], guard := none }) (v := ?_) rfl (by kernel_rfl) (by kernel_rfl) (by kernel_rfl) (fun _ _ _ h => h) (Or.inl ⟨by rfl, ?_⟩) hHeld ?_
  rotate_left
  · (intro w hSw; go_simp; try with_reducible rfl)
  (try simp only [Act.put, List.setIfInBounds_toArray, List.set_cons_zero, List.set_cons_succ])
  refine wpAnyH_take (i := 14) (oi := { dst := some 22, op := Op.load 3 (Operand.tmp 21), type := 3, pos := "order.go:45", after := #[{ on := 13, ground := Ground.data }], guard := none }) (v := ?_) rfl (by kernel_rfl) (by kernel_rfl) (by kernel_rfl) (fun _ _ _ h => h) (Or.inl ⟨by rfl, ?_⟩) hHeld ?_
  rotate_left
  · (intro w hSw; have hc := hSw.r.c4; go_simp; try with_reducible rfl)
  (try simp only [Act.put, List.setIfInBounds_toArray, List.set_cons_zero, List.set_cons_succ])
  refine wpAnyH_ready (rs := [5]) (by kernel_rfl) (by simp) (AllReadyH.cons (o := { dst := some 13, op := Op.call { callee := Callee.value (Operand.func 47), args := #[Operand.tmp 10, Operand.tmp 12], argTypes := #[9, 9] }, type := 3, pos := "order.go:45", after := #[{ on := 2, ground := Ground.data }, { on := 4, ground := Ground.data }], guard := none }) rfl (fun K hK => ?_) AllReadyH.nil)
  · go_simp
    refine (tags_any _ _ _).mono ?_
    rintro e wa ⟨rfl, rfl⟩
    refine hK.out _ _ hHeld (fun hHeld => ?_)
    (try simp only [Act.put, List.setIfInBounds_toArray, List.set_cons_zero, List.set_cons_succ])
    refine wpAnyH_ready (rs := [10]) (by kernel_rfl) (by simp) (AllReadyH.cons (o := { dst := some 18, op := Op.call { callee := Callee.value (Operand.func 45), args := #[Operand.tmp 15, Operand.tmp 17], argTypes := #[3, 3] }, type := 3, pos := "order.go:45", after := #[{ on := 7, ground := Ground.data }, { on := 9, ground := Ground.data }, { on := 5, ground := Ground.chain }], guard := none }) rfl (fun K hK => ?_) AllReadyH.nil)
    · go_simp
      refine (cmp_int _ _ _).mono ?_
      rintro e wa ⟨rfl, rfl⟩
      refine hK.out _ _ hHeld (fun hHeld => ?_)
      (try simp only [Act.put, List.setIfInBounds_toArray, List.set_cons_zero, List.set_cons_succ])
      refine wpAnyH_ready (rs := [15]) (by kernel_rfl) (by simp) (AllReadyH.cons (o := { dst := some 23, op := Op.call { callee := Callee.value (Operand.func 45), args := #[Operand.tmp 20, Operand.tmp 22], argTypes := #[3, 3] }, type := 3, pos := "order.go:45", after := #[{ on := 12, ground := Ground.data }, { on := 14, ground := Ground.data }, { on := 10, ground := Ground.chain }], guard := none }) rfl (fun K hK => ?_) AllReadyH.nil)
      · go_simp
        refine (cmp_int _ _ _).mono ?_
        rintro e wa ⟨rfl, rfl⟩
        refine hK.out _ _ hHeld (fun hHeld => ?_)
        (try simp only [Act.put, List.setIfInBounds_toArray, List.set_cons_zero, List.set_cons_succ])
        refine wpAnyH_ready (rs := [16]) (by kernel_rfl) (by simp) (AllReadyH.cons (o := { dst := some 24, op := Op.buildSlice 65 4 #[(0, Operand.tmp 8), (1, Operand.tmp 13), (2, Operand.tmp 18), (3, Operand.tmp 23)], type := 65, pos := "order.go:45", after := #[{ on := 0, ground := Ground.data }, { on := 5, ground := Ground.data }, { on := 10, ground := Ground.data }, { on := 15, ground := Ground.data }], guard := none }) rfl (fun K hK => ?_) AllReadyH.nil)
        · go_simp
          refine hK.out _ _ (hHeld.alloc _) (fun hHeld => ?_)
          (try simp only [Act.put, List.setIfInBounds_toArray, List.set_cons_zero, List.set_cons_succ])
          refine wpAnyH_ready (rs := [17]) (by kernel_rfl) (by simp) (AllReadyH.cons (o := { dst := some 25, op := Op.call { callee := Callee.value (Operand.func 46), args := #[Operand.tmp 24], argTypes := #[65] }, type := 3, pos := "order.go:45", after := #[{ on := 16, ground := Ground.data }, { on := 15, ground := Ground.chain }], guard := none }) rfl (fun K hK => ?_) AllReadyH.nil)
          · go_simp
            refine (or_any (fun j => if j = 0 then firstC (numC a b) else if j = 1 then tagC a.tag b.tag else if j = 2 then Lib.compareInt a.step b.step else Lib.compareInt a.many b.many) _ _ (fun j hj => by
              rcases (by omega : j = 0 ∨ j = 1 ∨ j = 2 ∨ j = 3) with rfl | rfl | rfl | rfl
              all_goals exact World.cell?_alloc_new _ _ _ _)).mono ?_
            rintro e wa ⟨rfl, rfl⟩
            refine hK.out _ _ hHeld (fun hHeld => ?_)
            (try simp only [Act.put, List.setIfInBounds_toArray, List.set_cons_zero, List.set_cons_succ])
            refine wpAnyH_take (i := 18) (oi := { dst := some 4, op := Op.assign (Operand.tmp 25), type := 3, pos := "order.go:45", after := #[{ on := 17, ground := Ground.data }, { on := 17, ground := Ground.chain }, { on := 0, ground := Ground.phase }, { on := 1, ground := Ground.phase }, { on := 2, ground := Ground.phase }, { on := 3, ground := Ground.phase }, { on := 4, ground := Ground.phase }, { on := 5, ground := Ground.phase }, { on := 6, ground := Ground.phase }, { on := 7, ground := Ground.phase }, { on := 8, ground := Ground.phase }, { on := 9, ground := Ground.phase }, { on := 10, ground := Ground.phase }, { on := 11, ground := Ground.phase }, { on := 12, ground := Ground.phase }, { on := 13, ground := Ground.phase }, { on := 14, ground := Ground.phase }, { on := 15, ground := Ground.phase }, { on := 16, ground := Ground.phase }, { on := 17, ground := Ground.phase }], guard := none }) (v := ?_) rfl (by kernel_rfl) (by kernel_rfl) (by kernel_rfl) (fun _ _ _ h => h) (Or.inl ⟨by rfl, ?_⟩) hHeld ?_
            rotate_left
            · (intro w hSw; go_simp; try with_reducible rfl)
            (try simp only [Act.put, List.setIfInBounds_toArray, List.set_cons_zero, List.set_cons_succ])
            refine wpAnyH_done (by kernel_rfl) ?_ _
            have hfin := hHeld.low
            clear hHeld
            go_wp2_with fail
            go_ret
            exact ⟨rfl, hfin⟩
end Go.Proofs.YtjekibhaabkecaaDoor
