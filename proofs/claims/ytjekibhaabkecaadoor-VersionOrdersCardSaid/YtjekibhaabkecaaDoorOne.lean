/- Proved here: VersionOne of puncheonlaw04 returns true for every three versions, wherever wakes does. -/
import Derived.Test.YtjekibhaabkecaaDoorOrder
import Derived.Deep.DeepCutAuto
namespace Go.Proofs.YtjekibhaabkecaaDoor
open Go.RowKit Go.Shelf


/-- Three versions in their boxes, all else as it was. -/
structure Three (a b c : Ver) (ga gb gc : Nat) (w w' : World) : Prop where
  a : Box w' ga 26 a.arr
  b : Box w' gb 26 b.arr
  c : Box w' gc 26 c.arr
  low : Below w.heap.size w w'
theorem Three.on {a b c : Ver} {ga gb gc : Nat} {w w' w'' : World} (h : Three a b c ga gb gc w w') (hb : Below w'.heap.size w' w'') : Three a b c ga gb gc w w'' := ⟨h.a.on hb, h.b.on hb, h.c.on hb, bch h.low hb⟩
theorem Three.drew {a b c : Ver} {ga gb gc : Nat} {w w' : World} (h : Three a b c ga gb gc w w') : Three a b c ga gb gc w w'.drew := ⟨h.a, h.b, h.c, h.low.drew⟩
def Cmps (a b : Ver) (x : Int) : Prop := ∀ W, Calls Tryd.prog 18 #[.agg a.arr, .agg b.arr] W fun e w' => e = .returned (.int .i64 x) ∧ Below W.heap.size W w'
theorem cmps_of {a b : Ver} {x : Int} (h : x = cmpW a b) : Cmps a b x := fun W => by
  subst h
  exact comparew_any a b W
def Checks (a : Ver) (x : Int) : Prop := ∀ W, Calls Tryd.prog 15 #[.agg a.arr] W fun e w' => e = .returned (.int .i64 x) ∧ Below W.heap.size W w'
theorem checks_of {a : Ver} {o : Bool} (h : o = a.ok) : Checks a (if o then 0 else 140) := fun W => by
  subst h
  exact check_any a W
/-- A box that is read where the operation is guarded. -/
theorem guarded26 {ops : Array Oper} {rest : List Oper} {o : Oper} {a : Act} {w : World} {Q : Exit → Act → World → Prop} (hw : Region.wanted o (yielded ops a.tmps) = true) (x : Operand) (ho : o.op = .load 26 x) (g : Nat) (hx : a.eval x = .pointer (some ⟨g, 0, none⟩)) (v : Ver) (hg : Box w g 26 v.arr)
    (h : wpList Tryd.prog ops Q rest (a.put o.dst (.agg v.arr)) w) : wpList Tryd.prog ops Q (o :: rest) a w :=
  wpList_step fun K hK => by
    rw [if_pos hw]
    exact wp_load_row 26 x ho g hx 26 v.arr (0, 0) _ hg Tryd.underlying26 rfl (info26 v) (hK _ _ h)

set_option maxRecDepth 100000 in
set_option maxHeartbeats 4000000 in
theorem one_law (a b c : Ver) (w : World) (hwk : ∀ W, Below w.heap.size w W → Calls Tryd.prog 9 #[] W fun e w' => e = .returned (.bool true) ∧ Below W.heap.size W w') : Calls Tryd.prog 7 #[.agg a.arr, .agg b.arr, .agg c.arr] w fun e w' => e = .returned (.bool true) ∧ Below w.heap.size w w' := by
  obtain ⟨x, hx⟩ : ∃ x, x = cmpW a b := ⟨_, rfl⟩
  obtain ⟨y, hy⟩ : ∃ x, x = cmpW b c := ⟨_, rfl⟩
  obtain ⟨z, hz⟩ : ∃ x, x = cmpW a c := ⟨_, rfl⟩
  obtain ⟨oa, hoa⟩ : ∃ o, o = a.ok := ⟨_, rfl⟩
  obtain ⟨ob, hob⟩ : ∃ o, o = b.ok := ⟨_, rfl⟩
  have hxr := good_cmpW.rng a b
  rw [← hx] at hxr
  have hyr := good_cmpW.rng b c
  rw [← hy] at hyr
  have hzr := good_cmpW.rng a c
  rw [← hz] at hzr
  have htr := good_cmpW.tr a b c
  rw [← hx, ← hy, ← hz] at htr
  have hop : -x = cmpW b a := by rw [hx]; exact (good_cmpW.anti a b).symm
  have hse : (0 : Int) = cmpW a a := (good_cmpW.zero a).symm
  have hsm : oa = true → ob = true → ((x = 0) ↔ a = b) := fun h1 h2 => by rw [hx]; exact cmpW_same (by rw [← hoa]; exact h1) (by rw [← hob]; exact h2)
  have HC1 := Lib.hid (cmps_of hx)
  have HC2 := Lib.hid (cmps_of hy)
  have HC3 := Lib.hid (cmps_of hz)
  have HC4 := Lib.hid (cmps_of hop)
  have HC5 := Lib.hid (cmps_of hse)
  have HK1 := Lib.hid (checks_of hoa)
  have HK2 := Lib.hid (checks_of hob)
  have HSM := Lib.hid hsm
  have X1 : Box (((w.alloc (.cells a.arr 26)).alloc (.cells b.arr 26)).alloc (.cells c.arr 26)) w.heap.size 26 a.arr := (box_new.alloc _).alloc _
  have X2 : Box (((w.alloc (.cells a.arr 26)).alloc (.cells b.arr 26)).alloc (.cells c.arr 26)) (w.heap.size + 1) 26 b.arr := (show Box _ _ _ _ from heap_alloc2_new w _ _).alloc _
  have X3 : Box (((w.alloc (.cells a.arr 26)).alloc (.cells b.arr 26)).alloc (.cells c.arr 26)) (w.heap.size + 1 + 1) 26 c.arr := by
    have := box_new (w := (w.alloc (.cells a.arr 26)).alloc (.cells b.arr 26)) (t := 26) (cs := c.arr)
    simpa using this
  have hB : Below w.heap.size w (((w.alloc (.cells a.arr 26)).alloc (.cells b.arr 26)).alloc (.cells c.arr 26)) := (((Below.refl _ w).alloc (Nat.le_refl _) _).alloc (by simp) _).alloc (by simp; omega) _
  have H0 : Hid (Three a b c w.heap.size (w.heap.size + 1) (w.heap.size + 1 + 1) w (((w.alloc (.cells a.arr 26)).alloc (.cells b.arr 26)).alloc (.cells c.arr 26))) := Lib.hid ⟨X1, X2, X3, hB⟩
  have HW := Lib.hid (hwk _ hB)
  have HTR := Lib.hid htr
  have HR : Hid ((x = -1 ∨ x = 0 ∨ x = 1) ∧ (y = -1 ∨ y = 0 ∨ y = 1) ∧ (z = -1 ∨ z = 0 ∨ z = 1)) := Lib.hid ⟨hxr, hyr, hzr⟩
  clear X1 X2 X3 hB hwk hx hy hz hop hse hsm htr hxr hyr hzr hoa hob
  go_enter Tryd.func7, Tryd.ntmps7
  go_wp2_with fail
  refine HW.out.mono ?_
  rintro e w1 ⟨rfl, hb⟩
  have H1 := Lib.hid (H0.out.on hb)
  clear H0 HW hb
  go_wp2_with fail
  refine wp_region_held_drew (S := fun w' => Three a b c w.heap.size (w.heap.size + 1) (w.heap.size + 1 + 1) w w') (by kernel_rfl) H1.out.drew (fun hHeld => ?_)
  refine wpAnyH_take (i := 0) (oi := { dst := some 13, op := Op.load 26 (Operand.tmp 3), type := 26, pos := "outright.go:33", after := #[], guard := none }) (v := ?_) rfl (by kernel_rfl) (by kernel_rfl) (by kernel_rfl) (fun _ _ _ h => h) (Or.inl ⟨by rfl, ?_⟩) hHeld ?_
  rotate_left
  · (intro w hSw; obtain ⟨p0, p1, p2, p3, p4, p5, p6⟩ := hSw.a.ver; go_simp; try with_reducible rfl)
  (try simp only [Act.put, List.setIfInBounds_toArray, List.set_cons_zero, List.set_cons_succ])
  refine wpAnyH_take (i := 1) (oi := { dst := some 14, op := Op.load 26 (Operand.tmp 4), type := 26, pos := "outright.go:33", after := #[], guard := none }) (v := ?_) rfl (by kernel_rfl) (by kernel_rfl) (by kernel_rfl) (fun _ _ _ h => h) (Or.inl ⟨by rfl, ?_⟩) hHeld ?_
  rotate_left
  · (intro w hSw; obtain ⟨p0, p1, p2, p3, p4, p5, p6⟩ := hSw.b.ver; go_simp; try with_reducible rfl)
  (try simp only [Act.put, List.setIfInBounds_toArray, List.set_cons_zero, List.set_cons_succ])
  refine wpAnyH_take (i := 3) (oi := { dst := some 16, op := Op.load 26 (Operand.tmp 4), type := 26, pos := "outright.go:33", after := #[], guard := none }) (v := ?_) rfl (by kernel_rfl) (by kernel_rfl) (by kernel_rfl) (fun _ _ _ h => h) (Or.inl ⟨by rfl, ?_⟩) hHeld ?_
  rotate_left
  · (intro w hSw; obtain ⟨p0, p1, p2, p3, p4, p5, p6⟩ := hSw.b.ver; go_simp; try with_reducible rfl)
  (try simp only [Act.put, List.setIfInBounds_toArray, List.set_cons_zero, List.set_cons_succ])
  refine wpAnyH_take (i := 4) (oi := { dst := some 17, op := Op.load 26 (Operand.tmp 5), type := 26, pos := "outright.go:33", after := #[], guard := none }) (v := ?_) rfl (by kernel_rfl) (by kernel_rfl) (by kernel_rfl) (fun _ _ _ h => h) (Or.inl ⟨by rfl, ?_⟩) hHeld ?_
  rotate_left
  · (intro w hSw; obtain ⟨p0, p1, p2, p3, p4, p5, p6⟩ := hSw.c.ver; go_simp; try with_reducible rfl)
  (try simp only [Act.put, List.setIfInBounds_toArray, List.set_cons_zero, List.set_cons_succ])
  refine wpAnyH_take (i := 6) (oi := { dst := some 19, op := Op.load 26 (Operand.tmp 3), type := 26, pos := "outright.go:33", after := #[], guard := none }) (v := ?_) rfl (by kernel_rfl) (by kernel_rfl) (by kernel_rfl) (fun _ _ _ h => h) (Or.inl ⟨by rfl, ?_⟩) hHeld ?_
  rotate_left
  · (intro w hSw; obtain ⟨p0, p1, p2, p3, p4, p5, p6⟩ := hSw.a.ver; go_simp; try with_reducible rfl)
  (try simp only [Act.put, List.setIfInBounds_toArray, List.set_cons_zero, List.set_cons_succ])
  refine wpAnyH_take (i := 7) (oi := { dst := some 20, op := Op.load 26 (Operand.tmp 5), type := 26, pos := "outright.go:33", after := #[], guard := none }) (v := ?_) rfl (by kernel_rfl) (by kernel_rfl) (by kernel_rfl) (fun _ _ _ h => h) (Or.inl ⟨by rfl, ?_⟩) hHeld ?_
  rotate_left
  · (intro w hSw; obtain ⟨p0, p1, p2, p3, p4, p5, p6⟩ := hSw.c.ver; go_simp; try with_reducible rfl)
  (try simp only [Act.put, List.setIfInBounds_toArray, List.set_cons_zero, List.set_cons_succ])
  refine wpAnyH_ready (rs := [2]) (by kernel_rfl) (by simp) (AllReadyH.cons (o := { dst := some 15, op := Op.call { callee := Callee.value (Operand.func 18), args := #[Operand.tmp 13, Operand.tmp 14], argTypes := #[26, 26] }, type := 3, pos := "outright.go:33", after := #[{ on := 0, ground := Ground.data }, { on := 1, ground := Ground.data }], guard := none }) rfl (fun K hK => ?_) AllReadyH.nil)
  · go_simp
    refine (HC1.out _).mono ?_
    rintro e wa ⟨rfl, hba⟩
    refine hK.out _ _ (hHeld.on hba) (fun hHeld => ?_)
    (try simp only [Act.put, List.setIfInBounds_toArray, List.set_cons_zero, List.set_cons_succ])
    refine wpAnyH_ready (rs := [5]) (by kernel_rfl) (by simp) (AllReadyH.cons (o := { dst := some 18, op := Op.call { callee := Callee.value (Operand.func 18), args := #[Operand.tmp 16, Operand.tmp 17], argTypes := #[26, 26] }, type := 3, pos := "outright.go:33", after := #[{ on := 3, ground := Ground.data }, { on := 4, ground := Ground.data }, { on := 2, ground := Ground.chain }], guard := none }) rfl (fun K hK => ?_) AllReadyH.nil)
    · go_simp
      refine (HC2.out _).mono ?_
      rintro e wa ⟨rfl, hba⟩
      refine hK.out _ _ (hHeld.on hba) (fun hHeld => ?_)
      (try simp only [Act.put, List.setIfInBounds_toArray, List.set_cons_zero, List.set_cons_succ])
      refine wpAnyH_ready (rs := [8]) (by kernel_rfl) (by simp) (AllReadyH.cons (o := { dst := some 21, op := Op.call { callee := Callee.value (Operand.func 18), args := #[Operand.tmp 19, Operand.tmp 20], argTypes := #[26, 26] }, type := 3, pos := "outright.go:33", after := #[{ on := 6, ground := Ground.data }, { on := 7, ground := Ground.data }, { on := 5, ground := Ground.chain }], guard := none }) rfl (fun K hK => ?_) AllReadyH.nil)
      · go_simp
        refine (HC3.out _).mono ?_
        rintro e wa ⟨rfl, hba⟩
        refine hK.out _ _ (hHeld.on hba) (fun hHeld => ?_)
        (try simp only [Act.put, List.setIfInBounds_toArray, List.set_cons_zero, List.set_cons_succ])
        refine wpAnyH_take (i := 9) (oi := { dst := some 7, op := Op.assign (Operand.tmp 15), type := 3, pos := "outright.go:33", after := #[{ on := 2, ground := Ground.data }, { on := 8, ground := Ground.chain }, { on := 0, ground := Ground.phase }, { on := 1, ground := Ground.phase }, { on := 2, ground := Ground.phase }, { on := 3, ground := Ground.textOnly Departure.lateStores }, { on := 4, ground := Ground.textOnly Departure.lateStores }, { on := 5, ground := Ground.textOnly Departure.lateStoresUnsure }, { on := 6, ground := Ground.textOnly Departure.lateStores }, { on := 7, ground := Ground.textOnly Departure.lateStores }, { on := 8, ground := Ground.textOnly Departure.lateStoresUnsure }], guard := none }) (v := ?_) rfl (by kernel_rfl) (by kernel_rfl) (by kernel_rfl) (fun _ _ _ h => h) (Or.inl ⟨by rfl, ?_⟩) hHeld ?_
        rotate_left
        · (intro w hSw; go_simp; try with_reducible rfl)
        (try simp only [Act.put, List.setIfInBounds_toArray, List.set_cons_zero, List.set_cons_succ])
        refine wpAnyH_take (i := 10) (oi := { dst := some 8, op := Op.assign (Operand.tmp 18), type := 3, pos := "outright.go:33", after := #[{ on := 5, ground := Ground.data }, { on := 9, ground := Ground.chain }, { on := 0, ground := Ground.phase }, { on := 1, ground := Ground.phase }, { on := 2, ground := Ground.phase }, { on := 3, ground := Ground.phase }, { on := 4, ground := Ground.phase }, { on := 5, ground := Ground.phase }, { on := 6, ground := Ground.textOnly Departure.lateStores }, { on := 7, ground := Ground.textOnly Departure.lateStores }, { on := 8, ground := Ground.textOnly Departure.lateStoresUnsure }, { on := 9, ground := Ground.phase }], guard := none }) (v := ?_) rfl (by kernel_rfl) (by kernel_rfl) (by kernel_rfl) (fun _ _ _ h => h) (Or.inl ⟨by rfl, ?_⟩) hHeld ?_
        rotate_left
        · (intro w hSw; go_simp; try with_reducible rfl)
        (try simp only [Act.put, List.setIfInBounds_toArray, List.set_cons_zero, List.set_cons_succ])
        refine wpAnyH_take (i := 11) (oi := { dst := some 9, op := Op.assign (Operand.tmp 21), type := 3, pos := "outright.go:33", after := #[{ on := 8, ground := Ground.data }, { on := 10, ground := Ground.chain }, { on := 0, ground := Ground.phase }, { on := 1, ground := Ground.phase }, { on := 2, ground := Ground.phase }, { on := 3, ground := Ground.phase }, { on := 4, ground := Ground.phase }, { on := 5, ground := Ground.phase }, { on := 6, ground := Ground.phase }, { on := 7, ground := Ground.phase }, { on := 8, ground := Ground.phase }, { on := 9, ground := Ground.phase }, { on := 10, ground := Ground.phase }], guard := none }) (v := ?_) rfl (by kernel_rfl) (by kernel_rfl) (by kernel_rfl) (fun _ _ _ h => h) (Or.inl ⟨by rfl, ?_⟩) hHeld ?_
        rotate_left
        · (intro w hSw; go_simp; try with_reducible rfl)
        (try simp only [Act.put, List.setIfInBounds_toArray, List.set_cons_zero, List.set_cons_succ])
        refine wpAnyH_done (by kernel_rfl) ?_ _
        have HH := Lib.hid hHeld
        clear hHeld
        have x1 : -1 ≤ x ∧ x ≤ 1 := by have := HR.out; omega
        have x2 : IntKind.i64.wrap (-x) = -x := IntWalk.i64_in _ (by omega)
        have x3 : (-x != -x) = false := by simp
        have x4 : decide (x < -1) = false := decide_eq_false (by omega)
        have x5 : decide (x > 1) = false := decide_eq_false (by omega)
        obtain ⟨wq, rfl⟩ : ∃ q, q = wa := ⟨_, rfl⟩
        go_wp2_with (first
          | (refine wpList_load_row rfl 26 (.tmp 4) rfl (w.heap.size + 1) rfl 26 b.arr (0, 0) _ HH.out.b Tryd.underlying26 rfl (info26 _) ?_)
          | (refine wpList_load_row rfl 26 (.tmp 3) rfl w.heap.size rfl 26 a.arr (0, 0) _ HH.out.a Tryd.underlying26 rfl (info26 _) ?_))
        refine (HC4.out _).mono ?_
        rintro e w4 ⟨rfl, hb⟩
        have H4 := Lib.hid (HH.out.on hb)
        clear hb HC1 HC2 HC3 HC4 H1 HH
        go_wp2_with (first
          | (refine guarded26 rfl (.tmp 3) rfl w.heap.size rfl a H4.out.a ?_)
          | (refine wpList_load_row rfl 26 (.tmp 3) rfl w.heap.size rfl 26 a.arr (0, 0) _ H4.out.a Tryd.underlying26 rfl (info26 _) ?_))
        refine (HC5.out _).mono ?_
        rintro e w5 ⟨rfl, hb⟩
        have H5 := Lib.hid (H4.out.on hb)
        clear hb HC5 H4
        go_wp2_with (refine wpList_load_row rfl 26 (.tmp 3) rfl w.heap.size rfl 26 a.arr (0, 0) _ H5.out.a Tryd.underlying26 rfl (info26 _) ?_)
        refine (HK1.out _).mono ?_
        rintro e w6 ⟨rfl, hb⟩
        have H6 := Lib.hid (H5.out.on hb)
        clear hb HK1 H5
        have htr := HTR.out
        obtain ⟨hxr, hyr, hzr⟩ := HR.out
        clear HTR HR
        cases oa with
        | false =>
          clear HK2 HSM x1 x2 x3 x4 x5
          by_cases hx0 : x ≤ 0
          · have d1 : decide (x ≤ 0) = true := decide_eq_true hx0
            by_cases hy0 : y ≤ 0
            · have d2 : decide (y ≤ 0) = true := decide_eq_true hy0
              obtain ⟨z1, z2⟩ := htr hx0 hy0
              have d3 : decide (z ≤ 0) = true := decide_eq_true z1
              have d4 : IntKind.i64.wrap (x + y) = x + y := IntWalk.i64_in _ (by omega)
              by_cases hs : x + y = 0
              · have d5 : (x + y == 0) = true := by simp [hs]
                clear htr hs hxr hyr hzr hx0 hy0 z1 z2
                go_wp2_with fail
                go_ret
                exact ⟨rfl, H6.out.low⟩
              · have d5 : (x + y == 0) = false := by simp [hs]
                have d6 : decide (z < 0) = true := decide_eq_true (by omega)
                clear htr hs hxr hyr hzr hx0 hy0 z1 z2
                go_wp2_with fail
                go_ret
                exact ⟨rfl, H6.out.low⟩
            · have d2 : decide (y ≤ 0) = false := decide_eq_false hy0
              clear htr hxr hyr hzr hx0 hy0
              go_wp2_with fail
              go_ret
              exact ⟨rfl, H6.out.low⟩
          · have d1 : decide (x ≤ 0) = false := decide_eq_false hx0
            clear htr hxr hyr hzr hx0
            go_wp2_with fail
            go_ret
            exact ⟨rfl, H6.out.low⟩
        | true =>
          go_wp2_with (first
            | (refine guarded26 rfl (.tmp 4) rfl (w.heap.size + 1) rfl b H6.out.b ?_)
            | (refine wpList_load_row rfl 26 (.tmp 4) rfl (w.heap.size + 1) rfl 26 b.arr (0, 0) _ H6.out.b Tryd.underlying26 rfl (info26 _) ?_))
          refine (HK2.out _).mono ?_
          rintro e w7 ⟨rfl, hb⟩
          have H7 := Lib.hid (H6.out.on hb)
          clear hb HK2 H6
          cases ob with
          | false =>
            clear HSM x1 x2 x3 x4 x5
            by_cases hx0 : x ≤ 0
            · have d1 : decide (x ≤ 0) = true := decide_eq_true hx0
              by_cases hy0 : y ≤ 0
              · have d2 : decide (y ≤ 0) = true := decide_eq_true hy0
                obtain ⟨z1, z2⟩ := htr hx0 hy0
                have d3 : decide (z ≤ 0) = true := decide_eq_true z1
                have d4 : IntKind.i64.wrap (x + y) = x + y := IntWalk.i64_in _ (by omega)
                by_cases hs : x + y = 0
                · have d5 : (x + y == 0) = true := by simp [hs]
                  clear htr hs hxr hyr hzr hx0 hy0 z1 z2
                  go_wp2_with fail
                  go_ret
                  exact ⟨rfl, H7.out.low⟩
                · have d5 : (x + y == 0) = false := by simp [hs]
                  have d6 : decide (z < 0) = true := decide_eq_true (by omega)
                  clear htr hs hxr hyr hzr hx0 hy0 z1 z2
                  go_wp2_with fail
                  go_ret
                  exact ⟨rfl, H7.out.low⟩
              · have d2 : decide (y ≤ 0) = false := decide_eq_false hy0
                clear htr hxr hyr hzr hx0 hy0
                go_wp2_with fail
                go_ret
                exact ⟨rfl, H7.out.low⟩
            · have d1 : decide (x ≤ 0) = false := decide_eq_false hx0
              clear htr hxr hyr hzr hx0
              go_wp2_with fail
              go_ret
              exact ⟨rfl, H7.out.low⟩
          | true =>
            obtain ⟨q, hq⟩ : ∃ q, q = decide (a = b) := ⟨_, rfl⟩
            have eqf : ∀ W, (Op.equalIn 10000 26 (.agg a.arr) (.agg b.arr)).run Tryd.prog W = .ok q W := fun W => by rw [hq]; exact eq26 a b W
            have hx0 : (x == 0) = q := by
              rw [hq]
              have := HSM.out (by simp) (by simp)
              by_cases h : x = 0
              · rw [decide_eq_true (this.1 h)]
                simp [h]
              · rw [decide_eq_false (fun h2 => h (this.2 h2))]
                simp [h]
            have hgd : Tryd.prog.eqGuardType Tryd.prog.depth 26 = false := by kernel_rfl
            have HQ := Lib.hid hx0
            clear HSM x1 x2 x3 x4 x5 hq
            have tq : (q != q) = false := by simp
            go_upto_region 9 with (first
              | (refine guarded26 rfl (.tmp 3) rfl w.heap.size rfl a H7.out.a ?_)
              | (refine guarded26 rfl (.tmp 4) rfl (w.heap.size + 1) rfl b H7.out.b ?_))
            clear tq HQ hx0 eqf hgd
            by_cases hx0 : x ≤ 0
            · have d1 : decide (x ≤ 0) = true := decide_eq_true hx0
              by_cases hy0 : y ≤ 0
              · have d2 : decide (y ≤ 0) = true := decide_eq_true hy0
                obtain ⟨z1, z2⟩ := htr hx0 hy0
                have d3 : decide (z ≤ 0) = true := decide_eq_true z1
                have d4 : IntKind.i64.wrap (x + y) = x + y := IntWalk.i64_in _ (by omega)
                by_cases hs : x + y = 0
                · have d5 : (x + y == 0) = true := by simp [hs]
                  clear htr hs hxr hyr hzr hx0 hy0 z1 z2
                  go_wp2_with fail
                  go_ret
                  exact ⟨rfl, H7.out.low⟩
                · have d5 : (x + y == 0) = false := by simp [hs]
                  have d6 : decide (z < 0) = true := decide_eq_true (by omega)
                  clear htr hs hxr hyr hzr hx0 hy0 z1 z2
                  go_wp2_with fail
                  go_ret
                  exact ⟨rfl, H7.out.low⟩
              · have d2 : decide (y ≤ 0) = false := decide_eq_false hy0
                clear htr hxr hyr hzr hx0 hy0
                go_wp2_with fail
                go_ret
                exact ⟨rfl, H7.out.low⟩
            · have d1 : decide (x ≤ 0) = false := decide_eq_false hx0
              clear htr hxr hyr hzr hx0
              go_wp2_with fail
              go_ret
              exact ⟨rfl, H7.out.low⟩
end Go.Proofs.YtjekibhaabkecaaDoor
