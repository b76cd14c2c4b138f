/- Proved here: Compare of puncheonref04. -/
import Derived.Test.YtjekibhaabkecaaDoorRefA
namespace Go.Proofs.YtjekibhaabkecaaDoor
open Go.RowKit Go.Shelf
def Aheads (a b : Ver) (x : Bool) : Prop := ∀ W, Calls Tryd.prog 34 #[.agg a.arr, .agg b.arr] W fun e w' => e = .returned (.bool x) ∧ Below W.heap.size W w'
theorem aheads_of {a b : Ver} {x : Bool} (h : x = decide (cmpV a b < 0)) : Aheads a b x := fun W => by
  subst h
  exact rahead_any a b W

set_option maxRecDepth 100000 in
set_option maxHeartbeats 1000000 in
theorem rc_tf (a b : Ver) (ha : Rights a true) (hb : Rights b false) (w : World) : Calls Tryd.prog 19 #[.agg a.arr, .agg b.arr] w fun e w' => e = .returned (.int .i64 (1)) ∧ Below w.heap.size w w' := by
  have X1 : Box ((w.alloc (.cells a.arr 26)).alloc (.cells b.arr 26)) w.heap.size 26 a.arr := box_new.alloc _
  have X2 : Box ((w.alloc (.cells a.arr 26)).alloc (.cells b.arr 26)) (w.heap.size + 1) 26 b.arr := heap_alloc2_new w _ _
  have k0 : Hid (Two a b w.heap.size (w.heap.size + 1) w ((w.alloc (.cells a.arr 26)).alloc (.cells b.arr 26))) := Lib.hid ⟨X1.ver, X2.ver, ((Below.refl w.heap.size w).alloc (Nat.le_refl _) (.cells a.arr 26)).alloc (by simp) (.cells b.arr 26)⟩
  have HA := Lib.hid ha
  have HB := Lib.hid hb
  clear X1 X2 ha hb
  go_enter Tryd.func19, Tryd.ntmps19
  go_wp2_with fail
  refine wp_region_held_drew (S := fun w' => Two a b w.heap.size (w.heap.size + 1) w w') (by kernel_rfl) k0.out.drew (fun hHeld => ?_)
  refine wpAnyH_take (i := 0) (oi := { dst := some 7, op := Op.load 26 (Operand.tmp 2), type := 26, pos := "ref.go:128", after := #[], guard := none }) (v := ?_) rfl (by kernel_rfl) (by kernel_rfl) (by kernel_rfl) (fun _ _ _ h => h) (Or.inl ⟨by rfl, ?_⟩) hHeld ?_
  rotate_left
  · (intro w hSw; obtain ⟨p0, p1, p2, p3, p4, p5, p6⟩ := hSw.l; go_simp; try with_reducible rfl)
  (try simp only [Act.put, List.setIfInBounds_toArray, List.set_cons_zero, List.set_cons_succ])
  refine wpAnyH_take (i := 2) (oi := { dst := some 9, op := Op.load 26 (Operand.tmp 3), type := 26, pos := "ref.go:128", after := #[], guard := none }) (v := ?_) rfl (by kernel_rfl) (by kernel_rfl) (by kernel_rfl) (fun _ _ _ h => h) (Or.inl ⟨by rfl, ?_⟩) hHeld ?_
  rotate_left
  · (intro w hSw; obtain ⟨p0, p1, p2, p3, p4, p5, p6⟩ := hSw.r; go_simp; try with_reducible rfl)
  (try simp only [Act.put, List.setIfInBounds_toArray, List.set_cons_zero, List.set_cons_succ])
  refine wpAnyH_ready (rs := [1]) (by kernel_rfl) (by simp) (AllReadyH.cons (o := { dst := some 8, op := Op.call { callee := Callee.value (Operand.func 12), args := #[Operand.tmp 7], argTypes := #[26] }, type := 4, pos := "ref.go:128", after := #[{ on := 0, ground := Ground.data }], guard := none }) rfl (fun K hK => ?_) AllReadyH.nil)
  · go_simp
    refine (HA.out _).mono ?_
    rintro e wa ⟨rfl, hba⟩
    refine hK.out _ _ (hHeld.on hba) (fun hHeld => ?_)
    (try simp only [Act.put, List.setIfInBounds_toArray, List.set_cons_zero, List.set_cons_succ])
    refine wpAnyH_ready (rs := [3]) (by kernel_rfl) (by simp) (AllReadyH.cons (o := { dst := some 10, op := Op.call { callee := Callee.value (Operand.func 12), args := #[Operand.tmp 9], argTypes := #[26] }, type := 4, pos := "ref.go:128", after := #[{ on := 2, ground := Ground.data }, { on := 1, ground := Ground.chain }], guard := none }) rfl (fun K hK => ?_) AllReadyH.nil)
    · go_simp
      refine (HB.out _).mono ?_
      rintro e wa ⟨rfl, hba⟩
      refine hK.out _ _ (hHeld.on hba) (fun hHeld => ?_)
      (try simp only [Act.put, List.setIfInBounds_toArray, List.set_cons_zero, List.set_cons_succ])
      refine wpAnyH_take (i := 4) (oi := { dst := some 5, op := Op.assign (Operand.tmp 8), type := 4, pos := "ref.go:128", after := #[{ on := 1, ground := Ground.data }, { on := 3, ground := Ground.chain }, { on := 0, ground := Ground.phase }, { on := 1, ground := Ground.phase }, { on := 2, ground := Ground.textOnly Departure.lateStores }, { on := 3, ground := Ground.textOnly Departure.lateStoresUnsure }], guard := none }) (v := ?_) rfl (by kernel_rfl) (by kernel_rfl) (by kernel_rfl) (fun _ _ _ h => h) (Or.inl ⟨by rfl, ?_⟩) hHeld ?_
      rotate_left
      · (intro w hSw; go_simp; try with_reducible rfl)
      (try simp only [Act.put, List.setIfInBounds_toArray, List.set_cons_zero, List.set_cons_succ])
      refine wpAnyH_take (i := 5) (oi := { dst := some 6, op := Op.assign (Operand.tmp 10), type := 4, pos := "ref.go:128", after := #[{ on := 3, ground := Ground.data }, { on := 4, ground := Ground.chain }, { on := 0, ground := Ground.phase }, { on := 1, ground := Ground.phase }, { on := 2, ground := Ground.phase }, { on := 3, ground := Ground.phase }, { on := 4, ground := Ground.phase }], guard := none }) (v := ?_) rfl (by kernel_rfl) (by kernel_rfl) (by kernel_rfl) (fun _ _ _ h => h) (Or.inl ⟨by rfl, ?_⟩) hHeld ?_
      rotate_left
      · (intro w hSw; go_simp; try with_reducible rfl)
      (try simp only [Act.put, List.setIfInBounds_toArray, List.set_cons_zero, List.set_cons_succ])
      refine wpAnyH_done (by kernel_rfl) ?_ _
      have HT := Lib.hid hHeld
      clear hHeld
      obtain ⟨p0, p1, p2, p3, p4, p5, p6⟩ := HT.out.l
      obtain ⟨q0, q1, q2, q3, q4, q5, q6⟩ := HT.out.r
      go_wp2_with fail
      go_ret
      exact ⟨rfl, HT.out.low⟩

set_option maxRecDepth 100000 in
set_option maxHeartbeats 1000000 in
theorem rc_ft (a b : Ver) (ha : Rights a false) (hb : Rights b true) (w : World) : Calls Tryd.prog 19 #[.agg a.arr, .agg b.arr] w fun e w' => e = .returned (.int .i64 (-1)) ∧ Below w.heap.size w w' := by
  have X1 : Box ((w.alloc (.cells a.arr 26)).alloc (.cells b.arr 26)) w.heap.size 26 a.arr := box_new.alloc _
  have X2 : Box ((w.alloc (.cells a.arr 26)).alloc (.cells b.arr 26)) (w.heap.size + 1) 26 b.arr := heap_alloc2_new w _ _
  have k0 : Hid (Two a b w.heap.size (w.heap.size + 1) w ((w.alloc (.cells a.arr 26)).alloc (.cells b.arr 26))) := Lib.hid ⟨X1.ver, X2.ver, ((Below.refl w.heap.size w).alloc (Nat.le_refl _) (.cells a.arr 26)).alloc (by simp) (.cells b.arr 26)⟩
  have HA := Lib.hid ha
  have HB := Lib.hid hb
  clear X1 X2 ha hb
  go_enter Tryd.func19, Tryd.ntmps19
  go_wp2_with fail
  refine wp_region_held_drew (S := fun w' => Two a b w.heap.size (w.heap.size + 1) w w') (by kernel_rfl) k0.out.drew (fun hHeld => ?_)
  refine wpAnyH_take (i := 0) (oi := { dst := some 7, op := Op.load 26 (Operand.tmp 2), type := 26, pos := "ref.go:128", after := #[], guard := none }) (v := ?_) rfl (by kernel_rfl) (by kernel_rfl) (by kernel_rfl) (fun _ _ _ h => h) (Or.inl ⟨by rfl, ?_⟩) hHeld ?_
  rotate_left
  · (intro w hSw; obtain ⟨p0, p1, p2, p3, p4, p5, p6⟩ := hSw.l; go_simp; try with_reducible rfl)
  (try simp only [Act.put, List.setIfInBounds_toArray, List.set_cons_zero, List.set_cons_succ])
  refine wpAnyH_take (i := 2) (oi := { dst := some 9, op := Op.load 26 (Operand.tmp 3), type := 26, pos := "ref.go:128", after := #[], guard := none }) (v := ?_) rfl (by kernel_rfl) (by kernel_rfl) (by kernel_rfl) (fun _ _ _ h => h) (Or.inl ⟨by rfl, ?_⟩) hHeld ?_
  rotate_left
  · (intro w hSw; obtain ⟨p0, p1, p2, p3, p4, p5, p6⟩ := hSw.r; go_simp; try with_reducible rfl)
  (try simp only [Act.put, List.setIfInBounds_toArray, List.set_cons_zero, List.set_cons_succ])
  refine wpAnyH_ready (rs := [1]) (by kernel_rfl) (by simp) (AllReadyH.cons (o := { dst := some 8, op := Op.call { callee := Callee.value (Operand.func 12), args := #[Operand.tmp 7], argTypes := #[26] }, type := 4, pos := "ref.go:128", after := #[{ on := 0, ground := Ground.data }], guard := none }) rfl (fun K hK => ?_) AllReadyH.nil)
  · go_simp
    refine (HA.out _).mono ?_
    rintro e wa ⟨rfl, hba⟩
    refine hK.out _ _ (hHeld.on hba) (fun hHeld => ?_)
    (try simp only [Act.put, List.setIfInBounds_toArray, List.set_cons_zero, List.set_cons_succ])
    refine wpAnyH_ready (rs := [3]) (by kernel_rfl) (by simp) (AllReadyH.cons (o := { dst := some 10, op := Op.call { callee := Callee.value (Operand.func 12), args := #[Operand.tmp 9], argTypes := #[26] }, type := 4, pos := "ref.go:128", after := #[{ on := 2, ground := Ground.data }, { on := 1, ground := Ground.chain }], guard := none }) rfl (fun K hK => ?_) AllReadyH.nil)
    · go_simp
      refine (HB.out _).mono ?_
      rintro e wa ⟨rfl, hba⟩
      refine hK.out _ _ (hHeld.on hba) (fun hHeld => ?_)
      (try simp only [Act.put, List.setIfInBounds_toArray, List.set_cons_zero, List.set_cons_succ])
      refine wpAnyH_take (i := 4) (oi := { dst := some 5, op := Op.assign (Operand.tmp 8), type := 4, pos := "ref.go:128", after := #[{ on := 1, ground := Ground.data }, { on := 3, ground := Ground.chain }, { on := 0, ground := Ground.phase }, { on := 1, ground := Ground.phase }, { on := 2, ground := Ground.textOnly Departure.lateStores }, { on := 3, ground := Ground.textOnly Departure.lateStoresUnsure }], guard := none }) (v := ?_) rfl (by kernel_rfl) (by kernel_rfl) (by kernel_rfl) (fun _ _ _ h => h) (Or.inl ⟨by rfl, ?_⟩) hHeld ?_
      rotate_left
      · (intro w hSw; go_simp; try with_reducible rfl)
      (try simp only [Act.put, List.setIfInBounds_toArray, List.set_cons_zero, List.set_cons_succ])
      refine wpAnyH_take (i := 5) (oi := { dst := some 6, op := Op.assign (Operand.tmp 10), type := 4, pos := "ref.go:128", after := #[{ on := 3, ground := Ground.data }, { on := 4, ground := Ground.chain }, { on := 0, ground := Ground.phase }, { on := 1, ground := Ground.phase }, { on := 2, ground := Ground.phase }, { on := 3, ground := Ground.phase }, { on := 4, ground := Ground.phase }], guard := none }) (v := ?_) rfl (by kernel_rfl) (by kernel_rfl) (by kernel_rfl) (fun _ _ _ h => h) (Or.inl ⟨by rfl, ?_⟩) hHeld ?_
      rotate_left
      · (intro w hSw; go_simp; try with_reducible rfl)
      (try simp only [Act.put, List.setIfInBounds_toArray, List.set_cons_zero, List.set_cons_succ])
      refine wpAnyH_done (by kernel_rfl) ?_ _
      have HT := Lib.hid hHeld
      clear hHeld
      obtain ⟨p0, p1, p2, p3, p4, p5, p6⟩ := HT.out.l
      obtain ⟨q0, q1, q2, q3, q4, q5, q6⟩ := HT.out.r
      go_wp2_with fail
      go_ret
      exact ⟨rfl, HT.out.low⟩

set_option maxRecDepth 100000 in
set_option maxHeartbeats 1000000 in
theorem rc_ff (a b : Ver) (ha : Rights a false) (hb : Rights b false) (w : World) : Calls Tryd.prog 19 #[.agg a.arr, .agg b.arr] w fun e w' => e = .returned (.int .i64 (0)) ∧ Below w.heap.size w w' := by
  have X1 : Box ((w.alloc (.cells a.arr 26)).alloc (.cells b.arr 26)) w.heap.size 26 a.arr := box_new.alloc _
  have X2 : Box ((w.alloc (.cells a.arr 26)).alloc (.cells b.arr 26)) (w.heap.size + 1) 26 b.arr := heap_alloc2_new w _ _
  have k0 : Hid (Two a b w.heap.size (w.heap.size + 1) w ((w.alloc (.cells a.arr 26)).alloc (.cells b.arr 26))) := Lib.hid ⟨X1.ver, X2.ver, ((Below.refl w.heap.size w).alloc (Nat.le_refl _) (.cells a.arr 26)).alloc (by simp) (.cells b.arr 26)⟩
  have HA := Lib.hid ha
  have HB := Lib.hid hb
  clear X1 X2 ha hb
  go_enter Tryd.func19, Tryd.ntmps19
  go_wp2_with fail
  refine wp_region_held_drew (S := fun w' => Two a b w.heap.size (w.heap.size + 1) w w') (by kernel_rfl) k0.out.drew (fun hHeld => ?_)
  refine wpAnyH_take (i := 0) (oi := { dst := some 7, op := Op.load 26 (Operand.tmp 2), type := 26, pos := "ref.go:128", after := #[], guard := none }) (v := ?_) rfl (by kernel_rfl) (by kernel_rfl) (by kernel_rfl) (fun _ _ _ h => h) (Or.inl ⟨by rfl, ?_⟩) hHeld ?_
  rotate_left
  · (intro w hSw; obtain ⟨p0, p1, p2, p3, p4, p5, p6⟩ := hSw.l; go_simp; try with_reducible rfl)
  (try simp only [Act.put, List.setIfInBounds_toArray, List.set_cons_zero, List.set_cons_succ])
  refine wpAnyH_take (i := 2) (oi := { dst := some 9, op := Op.load 26 (Operand.tmp 3), type := 26, pos := "ref.go:128", after := #[], guard := none }) (v := ?_) rfl (by kernel_rfl) (by kernel_rfl) (by kernel_rfl) (fun _ _ _ h => h) (Or.inl ⟨by rfl, ?_⟩) hHeld ?_
  rotate_left
  · (intro w hSw; obtain ⟨p0, p1, p2, p3, p4, p5, p6⟩ := hSw.r; go_simp; try with_reducible rfl)
  (try simp only [Act.put, List.setIfInBounds_toArray, List.set_cons_zero, List.set_cons_succ])
  refine wpAnyH_ready (rs := [1]) (by kernel_rfl) (by simp) (AllReadyH.cons (o := { dst := some 8, op := Op.call { callee := Callee.value (Operand.func 12), args := #[Operand.tmp 7], argTypes := #[26] }, type := 4, pos := "ref.go:128", after := #[{ on := 0, ground := Ground.data }], guard := none }) rfl (fun K hK => ?_) AllReadyH.nil)
  · go_simp
    refine (HA.out _).mono ?_
    rintro e wa ⟨rfl, hba⟩
    refine hK.out _ _ (hHeld.on hba) (fun hHeld => ?_)
    (try simp only [Act.put, List.setIfInBounds_toArray, List.set_cons_zero, List.set_cons_succ])
    refine wpAnyH_ready (rs := [3]) (by kernel_rfl) (by simp) (AllReadyH.cons (o := { dst := some 10, op := Op.call { callee := Callee.value (Operand.func 12), args := #[Operand.tmp 9], argTypes := #[26] }, type := 4, pos := "ref.go:128", after := #[{ on := 2, ground := Ground.data }, { on := 1, ground := Ground.chain }], guard := none }) rfl (fun K hK => ?_) AllReadyH.nil)
    · go_simp
      refine (HB.out _).mono ?_
      rintro e wa ⟨rfl, hba⟩
      refine hK.out _ _ (hHeld.on hba) (fun hHeld => ?_)
      (try simp only [Act.put, List.setIfInBounds_toArray, List.set_cons_zero, List.set_cons_succ])
      refine wpAnyH_take (i := 4) (oi := { dst := some 5, op := Op.assign (Operand.tmp 8), type := 4, pos := "ref.go:128", after := #[{ on := 1, ground := Ground.data }, { on := 3, ground := Ground.chain }, { on := 0, ground := Ground.phase }, { on := 1, ground := Ground.phase }, { on := 2, ground := Ground.textOnly Departure.lateStores }, { on := 3, ground := Ground.textOnly Departure.lateStoresUnsure }], guard := none }) (v := ?_) rfl (by kernel_rfl) (by kernel_rfl) (by kernel_rfl) (fun _ _ _ h => h) (Or.inl ⟨by rfl, ?_⟩) hHeld ?_
      rotate_left
      · (intro w hSw; go_simp; try with_reducible rfl)
      (try simp only [Act.put, List.setIfInBounds_toArray, List.set_cons_zero, List.set_cons_succ])
      refine wpAnyH_take (i := 5) (oi := { dst := some 6, op := Op.assign (Operand.tmp 10), type := 4, pos := "ref.go:128", after := #[{ on := 3, ground := Ground.data }, { on := 4, ground := Ground.chain }, { on := 0, ground := Ground.phase }, { on := 1, ground := Ground.phase }, { on := 2, ground := Ground.phase }, { on := 3, ground := Ground.phase }, { on := 4, ground := Ground.phase }], guard := none }) (v := ?_) rfl (by kernel_rfl) (by kernel_rfl) (by kernel_rfl) (fun _ _ _ h => h) (Or.inl ⟨by rfl, ?_⟩) hHeld ?_
      rotate_left
      · (intro w hSw; go_simp; try with_reducible rfl)
      (try simp only [Act.put, List.setIfInBounds_toArray, List.set_cons_zero, List.set_cons_succ])
      refine wpAnyH_done (by kernel_rfl) ?_ _
      have HT := Lib.hid hHeld
      clear hHeld
      obtain ⟨p0, p1, p2, p3, p4, p5, p6⟩ := HT.out.l
      obtain ⟨q0, q1, q2, q3, q4, q5, q6⟩ := HT.out.r
      go_wp2_with fail
      go_ret
      exact ⟨rfl, HT.out.low⟩

set_option maxRecDepth 100000 in
set_option maxHeartbeats 1000000 in
theorem rc_lt (a b : Ver) (ha : Rights a true) (hb : Rights b true) (hx : Aheads a b true) (w : World) : Calls Tryd.prog 19 #[.agg a.arr, .agg b.arr] w fun e w' => e = .returned (.int .i64 (-1)) ∧ Below w.heap.size w w' := by
  have X1 : Box ((w.alloc (.cells a.arr 26)).alloc (.cells b.arr 26)) w.heap.size 26 a.arr := box_new.alloc _
  have X2 : Box ((w.alloc (.cells a.arr 26)).alloc (.cells b.arr 26)) (w.heap.size + 1) 26 b.arr := heap_alloc2_new w _ _
  have k0 : Hid (Two a b w.heap.size (w.heap.size + 1) w ((w.alloc (.cells a.arr 26)).alloc (.cells b.arr 26))) := Lib.hid ⟨X1.ver, X2.ver, ((Below.refl w.heap.size w).alloc (Nat.le_refl _) (.cells a.arr 26)).alloc (by simp) (.cells b.arr 26)⟩
  have HA := Lib.hid ha
  have HB := Lib.hid hb
  clear X1 X2 ha hb
  go_enter Tryd.func19, Tryd.ntmps19
  go_wp2_with fail
  refine wp_region_held_drew (S := fun w' => Two a b w.heap.size (w.heap.size + 1) w w') (by kernel_rfl) k0.out.drew (fun hHeld => ?_)
  refine wpAnyH_take (i := 0) (oi := { dst := some 7, op := Op.load 26 (Operand.tmp 2), type := 26, pos := "ref.go:128", after := #[], guard := none }) (v := ?_) rfl (by kernel_rfl) (by kernel_rfl) (by kernel_rfl) (fun _ _ _ h => h) (Or.inl ⟨by rfl, ?_⟩) hHeld ?_
  rotate_left
  · (intro w hSw; obtain ⟨p0, p1, p2, p3, p4, p5, p6⟩ := hSw.l; go_simp; try with_reducible rfl)
  (try simp only [Act.put, List.setIfInBounds_toArray, List.set_cons_zero, List.set_cons_succ])
  refine wpAnyH_take (i := 2) (oi := { dst := some 9, op := Op.load 26 (Operand.tmp 3), type := 26, pos := "ref.go:128", after := #[], guard := none }) (v := ?_) rfl (by kernel_rfl) (by kernel_rfl) (by kernel_rfl) (fun _ _ _ h => h) (Or.inl ⟨by rfl, ?_⟩) hHeld ?_
  rotate_left
  · (intro w hSw; obtain ⟨p0, p1, p2, p3, p4, p5, p6⟩ := hSw.r; go_simp; try with_reducible rfl)
  (try simp only [Act.put, List.setIfInBounds_toArray, List.set_cons_zero, List.set_cons_succ])
  refine wpAnyH_ready (rs := [1]) (by kernel_rfl) (by simp) (AllReadyH.cons (o := { dst := some 8, op := Op.call { callee := Callee.value (Operand.func 12), args := #[Operand.tmp 7], argTypes := #[26] }, type := 4, pos := "ref.go:128", after := #[{ on := 0, ground := Ground.data }], guard := none }) rfl (fun K hK => ?_) AllReadyH.nil)
  · go_simp
    refine (HA.out _).mono ?_
    rintro e wa ⟨rfl, hba⟩
    refine hK.out _ _ (hHeld.on hba) (fun hHeld => ?_)
    (try simp only [Act.put, List.setIfInBounds_toArray, List.set_cons_zero, List.set_cons_succ])
    refine wpAnyH_ready (rs := [3]) (by kernel_rfl) (by simp) (AllReadyH.cons (o := { dst := some 10, op := Op.call { callee := Callee.value (Operand.func 12), args := #[Operand.tmp 9], argTypes := #[26] }, type := 4, pos := "ref.go:128", after := #[{ on := 2, ground := Ground.data }, { on := 1, ground := Ground.chain }], guard := none }) rfl (fun K hK => ?_) AllReadyH.nil)
    · go_simp
      refine (HB.out _).mono ?_
      rintro e wa ⟨rfl, hba⟩
      refine hK.out _ _ (hHeld.on hba) (fun hHeld => ?_)
      (try simp only [Act.put, List.setIfInBounds_toArray, List.set_cons_zero, List.set_cons_succ])
      refine wpAnyH_take (i := 4) (oi := { dst := some 5, op := Op.assign (Operand.tmp 8), type := 4, pos := "ref.go:128", after := #[{ on := 1, ground := Ground.data }, { on := 3, ground := Ground.chain }, { on := 0, ground := Ground.phase }, { on := 1, ground := Ground.phase }, { on := 2, ground := Ground.textOnly Departure.lateStores }, { on := 3, ground := Ground.textOnly Departure.lateStoresUnsure }], guard := none }) (v := ?_) rfl (by kernel_rfl) (by kernel_rfl) (by kernel_rfl) (fun _ _ _ h => h) (Or.inl ⟨by rfl, ?_⟩) hHeld ?_
      rotate_left
      · (intro w hSw; go_simp; try with_reducible rfl)
      (try simp only [Act.put, List.setIfInBounds_toArray, List.set_cons_zero, List.set_cons_succ])
      refine wpAnyH_take (i := 5) (oi := { dst := some 6, op := Op.assign (Operand.tmp 10), type := 4, pos := "ref.go:128", after := #[{ on := 3, ground := Ground.data }, { on := 4, ground := Ground.chain }, { on := 0, ground := Ground.phase }, { on := 1, ground := Ground.phase }, { on := 2, ground := Ground.phase }, { on := 3, ground := Ground.phase }, { on := 4, ground := Ground.phase }], guard := none }) (v := ?_) rfl (by kernel_rfl) (by kernel_rfl) (by kernel_rfl) (fun _ _ _ h => h) (Or.inl ⟨by rfl, ?_⟩) hHeld ?_
      rotate_left
      · (intro w hSw; go_simp; try with_reducible rfl)
      (try simp only [Act.put, List.setIfInBounds_toArray, List.set_cons_zero, List.set_cons_succ])
      refine wpAnyH_done (by kernel_rfl) ?_ _
      have HT := Lib.hid hHeld
      clear hHeld
      obtain ⟨p0, p1, p2, p3, p4, p5, p6⟩ := HT.out.l
      obtain ⟨q0, q1, q2, q3, q4, q5, q6⟩ := HT.out.r
      go_wp2_with fail
      refine (hx _).mono ?_
      rintro e wH2 ⟨rfl, hz⟩
      have H2 := Lib.hid (HT.out.on hz)
      clear hz p0 p1 p2 p3 p4 p5 p6 q0 q1 q2 q3 q4 q5 q6
      obtain ⟨p0, p1, p2, p3, p4, p5, p6⟩ := H2.out.l
      obtain ⟨q0, q1, q2, q3, q4, q5, q6⟩ := H2.out.r
      go_wp2_with fail
      go_ret
      exact ⟨rfl, H2.out.low⟩

set_option maxRecDepth 100000 in
set_option maxHeartbeats 1000000 in
theorem rc_gt (a b : Ver) (ha : Rights a true) (hb : Rights b true) (hx : Aheads a b false) (hy : Aheads b a true) (w : World) : Calls Tryd.prog 19 #[.agg a.arr, .agg b.arr] w fun e w' => e = .returned (.int .i64 (1)) ∧ Below w.heap.size w w' := by
  have X1 : Box ((w.alloc (.cells a.arr 26)).alloc (.cells b.arr 26)) w.heap.size 26 a.arr := box_new.alloc _
  have X2 : Box ((w.alloc (.cells a.arr 26)).alloc (.cells b.arr 26)) (w.heap.size + 1) 26 b.arr := heap_alloc2_new w _ _
  have k0 : Hid (Two a b w.heap.size (w.heap.size + 1) w ((w.alloc (.cells a.arr 26)).alloc (.cells b.arr 26))) := Lib.hid ⟨X1.ver, X2.ver, ((Below.refl w.heap.size w).alloc (Nat.le_refl _) (.cells a.arr 26)).alloc (by simp) (.cells b.arr 26)⟩
  have HA := Lib.hid ha
  have HB := Lib.hid hb
  clear X1 X2 ha hb
  go_enter Tryd.func19, Tryd.ntmps19
  go_wp2_with fail
  refine wp_region_held_drew (S := fun w' => Two a b w.heap.size (w.heap.size + 1) w w') (by kernel_rfl) k0.out.drew (fun hHeld => ?_)
  refine wpAnyH_take (i := 0) (oi := { dst := some 7, op := Op.load 26 (Operand.tmp 2), type := 26, pos := "ref.go:128", after := #[], guard := none }) (v := ?_) rfl (by kernel_rfl) (by kernel_rfl) (by kernel_rfl) (fun _ _ _ h => h) (Or.inl ⟨by rfl, ?_⟩) hHeld ?_
  rotate_left
  · (intro w hSw; obtain ⟨p0, p1, p2, p3, p4, p5, p6⟩ := hSw.l; go_simp; try with_reducible rfl)
  (try simp only [Act.put, List.setIfInBounds_toArray, List.set_cons_zero, List.set_cons_succ])
  refine wpAnyH_take (i := 2) (oi := { dst := some 9, op := Op.load 26 (Operand.tmp 3), type := 26, pos := "ref.go:128", after := #[], guard := none }) (v := ?_) rfl (by kernel_rfl) (by kernel_rfl) (by kernel_rfl) (fun _ _ _ h => h) (Or.inl ⟨by rfl, ?_⟩) hHeld ?_
  rotate_left
  · (intro w hSw; obtain ⟨p0, p1, p2, p3, p4, p5, p6⟩ := hSw.r; go_simp; try with_reducible rfl)
  (try simp only [Act.put, List.setIfInBounds_toArray, List.set_cons_zero, List.set_cons_succ])
  refine wpAnyH_ready (rs := [1]) (by kernel_rfl) (by simp) (AllReadyH.cons (o := { dst := some 8, op := Op.call { callee := Callee.value (Operand.func 12), args := #[Operand.tmp 7], argTypes := #[26] }, type := 4, pos := "ref.go:128", after := #[{ on := 0, ground := Ground.data }], guard := none }) rfl (fun K hK => ?_) AllReadyH.nil)
  · go_simp
    refine (HA.out _).mono ?_
    rintro e wa ⟨rfl, hba⟩
    refine hK.out _ _ (hHeld.on hba) (fun hHeld => ?_)
    (try simp only [Act.put, List.setIfInBounds_toArray, List.set_cons_zero, List.set_cons_succ])
    refine wpAnyH_ready (rs := [3]) (by kernel_rfl) (by simp) (AllReadyH.cons (o := { dst := some 10, op := Op.call { callee := Callee.value (Operand.func 12), args := #[Operand.tmp 9], argTypes := #[26] }, type := 4, pos := "ref.go:128", after := #[{ on := 2, ground := Ground.data }, { on := 1, ground := Ground.chain }], guard := none }) rfl (fun K hK => ?_) AllReadyH.nil)
    · go_simp
      refine (HB.out _).mono ?_
      rintro e wa ⟨rfl, hba⟩
      refine hK.out _ _ (hHeld.on hba) (fun hHeld => ?_)
      (try simp only [Act.put, List.setIfInBounds_toArray, List.set_cons_zero, List.set_cons_succ])
      refine wpAnyH_take (i := 4) (oi := { dst := some 5, op := Op.assign (Operand.tmp 8), type := 4, pos := "ref.go:128", after := #[{ on := 1, ground := Ground.data }, { on := 3, ground := Ground.chain }, { on := 0, ground := Ground.phase }, { on := 1, ground := Ground.phase }, { on := 2, ground := Ground.textOnly Departure.lateStores }, { on := 3, ground := Ground.textOnly Departure.lateStoresUnsure }], guard := none }) (v := ?_) rfl (by kernel_rfl) (by kernel_rfl) (by kernel_rfl) (fun _ _ _ h => h) (Or.inl ⟨by rfl, ?_⟩) hHeld ?_
      rotate_left
      · (intro w hSw; go_simp; try with_reducible rfl)
      (try simp only [Act.put, List.setIfInBounds_toArray, List.set_cons_zero, List.set_cons_succ])
      refine wpAnyH_take (i := 5) (oi := { dst := some 6, op := Op.assign (Operand.tmp 10), type := 4, pos := "ref.go:128", after := #[{ on := 3, ground := Ground.data }, { on := 4, ground := Ground.chain }, { on := 0, ground := Ground.phase }, { on := 1, ground := Ground.phase }, { on := 2, ground := Ground.phase }, { on := 3, ground := Ground.phase }, { on := 4, ground := Ground.phase }], guard := none }) (v := ?_) rfl (by kernel_rfl) (by kernel_rfl) (by kernel_rfl) (fun _ _ _ h => h) (Or.inl ⟨by rfl, ?_⟩) hHeld ?_
      rotate_left
      · (intro w hSw; go_simp; try with_reducible rfl)
      (try simp only [Act.put, List.setIfInBounds_toArray, List.set_cons_zero, List.set_cons_succ])
      refine wpAnyH_done (by kernel_rfl) ?_ _
      have HT := Lib.hid hHeld
      clear hHeld
      obtain ⟨p0, p1, p2, p3, p4, p5, p6⟩ := HT.out.l
      obtain ⟨q0, q1, q2, q3, q4, q5, q6⟩ := HT.out.r
      go_wp2_with fail
      refine (hx _).mono ?_
      rintro e wH2 ⟨rfl, hz⟩
      have H2 := Lib.hid (HT.out.on hz)
      clear hz p0 p1 p2 p3 p4 p5 p6 q0 q1 q2 q3 q4 q5 q6
      obtain ⟨p0, p1, p2, p3, p4, p5, p6⟩ := H2.out.l
      obtain ⟨q0, q1, q2, q3, q4, q5, q6⟩ := H2.out.r
      go_wp2_with fail
      refine (hy _).mono ?_
      rintro e wH3 ⟨rfl, hz⟩
      have H3 := Lib.hid (H2.out.on hz)
      clear hz p0 p1 p2 p3 p4 p5 p6 q0 q1 q2 q3 q4 q5 q6
      obtain ⟨p0, p1, p2, p3, p4, p5, p6⟩ := H3.out.l
      obtain ⟨q0, q1, q2, q3, q4, q5, q6⟩ := H3.out.r
      go_wp2_with fail
      go_ret
      exact ⟨rfl, H3.out.low⟩

set_option maxRecDepth 100000 in
set_option maxHeartbeats 1000000 in
theorem rc_eq (a b : Ver) (ha : Rights a true) (hb : Rights b true) (hx : Aheads a b false) (hy : Aheads b a false) (w : World) : Calls Tryd.prog 19 #[.agg a.arr, .agg b.arr] w fun e w' => e = .returned (.int .i64 (0)) ∧ Below w.heap.size w w' := by
  have X1 : Box ((w.alloc (.cells a.arr 26)).alloc (.cells b.arr 26)) w.heap.size 26 a.arr := box_new.alloc _
  have X2 : Box ((w.alloc (.cells a.arr 26)).alloc (.cells b.arr 26)) (w.heap.size + 1) 26 b.arr := heap_alloc2_new w _ _
  have k0 : Hid (Two a b w.heap.size (w.heap.size + 1) w ((w.alloc (.cells a.arr 26)).alloc (.cells b.arr 26))) := Lib.hid ⟨X1.ver, X2.ver, ((Below.refl w.heap.size w).alloc (Nat.le_refl _) (.cells a.arr 26)).alloc (by simp) (.cells b.arr 26)⟩
  have HA := Lib.hid ha
  have HB := Lib.hid hb
  clear X1 X2 ha hb
  go_enter Tryd.func19, Tryd.ntmps19
  go_wp2_with fail
  refine wp_region_held_drew (S := fun w' => Two a b w.heap.size (w.heap.size + 1) w w') (by kernel_rfl) k0.out.drew (fun hHeld => ?_)
  refine wpAnyH_take (i := 0) (oi := { dst := some 7, op := Op.load 26 (Operand.tmp 2), type := 26, pos := "ref.go:128", after := #[], guard := none }) (v := ?_) rfl (by kernel_rfl) (by kernel_rfl) (by kernel_rfl) (fun _ _ _ h => h) (Or.inl ⟨by rfl, ?_⟩) hHeld ?_
  rotate_left
  · (intro w hSw; obtain ⟨p0, p1, p2, p3, p4, p5, p6⟩ := hSw.l; go_simp; try with_reducible rfl)
  (try simp only [Act.put, List.setIfInBounds_toArray, List.set_cons_zero, List.set_cons_succ])
  refine wpAnyH_take (i := 2) (oi := { dst := some 9, op := Op.load 26 (Operand.tmp 3), type := 26, pos := "ref.go:128", after := #[], guard := none }) (v := ?_) rfl (by kernel_rfl) (by kernel_rfl) (by kernel_rfl) (fun _ _ _ h => h) (Or.inl ⟨by rfl, ?_⟩) hHeld ?_
  rotate_left
  · (intro w hSw; obtain ⟨p0, p1, p2, p3, p4, p5, p6⟩ := hSw.r; go_simp; try with_reducible rfl)
  (try simp only [Act.put, List.setIfInBounds_toArray, List.set_cons_zero, List.set_cons_succ])
  refine wpAnyH_ready (rs := [1]) (by kernel_rfl) (by simp) (AllReadyH.cons (o := { dst := some 8, op := Op.call { callee := Callee.value (Operand.func 12), args := #[Operand.tmp 7], argTypes := #[26] }, type := 4, pos := "ref.go:128", after := #[{ on := 0, ground := Ground.data }], guard := none }) rfl (fun K hK => ?_) AllReadyH.nil)
  · go_simp
    refine (HA.out _).mono ?_
    rintro e wa ⟨rfl, hba⟩
    refine hK.out _ _ (hHeld.on hba) (fun hHeld => ?_)
    (try simp only [Act.put, List.setIfInBounds_toArray, List.set_cons_zero, List.set_cons_succ])
    refine wpAnyH_ready (rs := [3]) (by kernel_rfl) (by simp) (AllReadyH.cons (o := { dst := some 10, op := Op.call { callee := Callee.value (Operand.func 12), args := #[Operand.tmp 9], argTypes := #[26] }, type := 4, pos := "ref.go:128", after := #[{ on := 2, ground := Ground.data }, { on := 1, ground := Ground.chain }], guard := none }) rfl (fun K hK => ?_) AllReadyH.nil)
    · go_simp
      refine (HB.out _).mono ?_
      rintro e wa ⟨rfl, hba⟩
      refine hK.out _ _ (hHeld.on hba) (fun hHeld => ?_)
      (try simp only [Act.put, List.setIfInBounds_toArray, List.set_cons_zero, List.set_cons_succ])
      refine wpAnyH_take (i := 4) (oi := { dst := some 5, op := Op.assign (Operand.tmp 8), type := 4, pos := "ref.go:128", after := #[{ on := 1, ground := Ground.data }, { on := 3, ground := Ground.chain }, { on := 0, ground := Ground.phase }, { on := 1, ground := Ground.phase }, { on := 2, ground := Ground.textOnly Departure.lateStores }, { on := 3, ground := Ground.textOnly Departure.lateStoresUnsure }], guard := none }) (v := ?_) rfl (by kernel_rfl) (by kernel_rfl) (by kernel_rfl) (fun _ _ _ h => h) (Or.inl ⟨by rfl, ?_⟩) hHeld ?_
      rotate_left
      · (intro w hSw; go_simp; try with_reducible rfl)
      (try simp only [Act.put, List.setIfInBounds_toArray, List.set_cons_zero, List.set_cons_succ])
      refine wpAnyH_take (i := 5) (oi := { dst := some 6, op := Op.assign (Operand.tmp 10), type := 4, pos := "ref.go:128", after := #[{ on := 3, ground := Ground.data }, { on := 4, ground := Ground.chain }, { on := 0, ground := Ground.phase }, { on := 1, ground := Ground.phase }, { on := 2, ground := Ground.phase }, { on := 3, ground := Ground.phase }, { on := 4, ground := Ground.phase }], guard := none }) (v := ?_) rfl (by kernel_rfl) (by kernel_rfl) (by kernel_rfl) (fun _ _ _ h => h) (Or.inl ⟨by rfl, ?_⟩) hHeld ?_
      rotate_left
      · (intro w hSw; go_simp; try with_reducible rfl)
      (try simp only [Act.put, List.setIfInBounds_toArray, List.set_cons_zero, List.set_cons_succ])
      refine wpAnyH_done (by kernel_rfl) ?_ _
      have HT := Lib.hid hHeld
      clear hHeld
      obtain ⟨p0, p1, p2, p3, p4, p5, p6⟩ := HT.out.l
      obtain ⟨q0, q1, q2, q3, q4, q5, q6⟩ := HT.out.r
      go_wp2_with fail
      refine (hx _).mono ?_
      rintro e wH2 ⟨rfl, hz⟩
      have H2 := Lib.hid (HT.out.on hz)
      clear hz p0 p1 p2 p3 p4 p5 p6 q0 q1 q2 q3 q4 q5 q6
      obtain ⟨p0, p1, p2, p3, p4, p5, p6⟩ := H2.out.l
      obtain ⟨q0, q1, q2, q3, q4, q5, q6⟩ := H2.out.r
      go_wp2_with fail
      refine (hy _).mono ?_
      rintro e wH3 ⟨rfl, hz⟩
      have H3 := Lib.hid (H2.out.on hz)
      clear hz p0 p1 p2 p3 p4 p5 p6 q0 q1 q2 q3 q4 q5 q6
      obtain ⟨p0, p1, p2, p3, p4, p5, p6⟩ := H3.out.l
      obtain ⟨q0, q1, q2, q3, q4, q5, q6⟩ := H3.out.r
      go_wp2_with fail
      go_ret
      exact ⟨rfl, H3.out.low⟩

theorem rcompare_any (a b : Ver) (w : World) : Calls Tryd.prog 19 #[.agg a.arr, .agg b.arr] w fun e w' => e = .returned (.int .i64 (cmpW a b)) ∧ Below w.heap.size w w' := by
  have r := good_cmpV.rng a b
  have t := good_cmpV.anti a b
  unfold cmpW
  cases ha : a.ok <;> cases hb : b.ok
  · exact rc_ff a b (rights_of ha.symm) (rights_of hb.symm) w
  · exact rc_ft a b (rights_of ha.symm) (rights_of hb.symm) w
  · exact rc_tf a b (rights_of ha.symm) (rights_of hb.symm) w
  · simp only [if_true]
    rcases r with h | h | h
    · rw [h]
      exact rc_lt a b (rights_of ha.symm) (rights_of hb.symm) (aheads_of (decide_eq_true (by omega)).symm) w
    · rw [h]
      exact rc_eq a b (rights_of ha.symm) (rights_of hb.symm) (aheads_of (decide_eq_false (by omega)).symm) (aheads_of (decide_eq_false (by omega)).symm) w
    · rw [h]
      exact rc_gt a b (rights_of ha.symm) (rights_of hb.symm) (aheads_of (decide_eq_false (by omega)).symm) (aheads_of (decide_eq_true (by omega)).symm) w
end Go.Proofs.YtjekibhaabkecaaDoor
