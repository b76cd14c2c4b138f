/- Proved here: ahead of puncheonref04. | Proved here: Compare of puncheonref04. | Proved here: digits and Text of puncheonref04, the latter at a version that may be. | Proved here: what the walks over Compare and Check share (words that say a call by its answer; a box that is read where the operation is guarded). | Proved here: Text and Read of package version, said by their answers. | Said here: a row of versions that can be read; a guarded composite literal. | Proved here: slices.Clone and slices.Equal at rows of versions. | Rows of bounds, and rows of such rows, as they lie in memory. | Proved here: fits, validBound, valid and Check of package span. -/
import Derived.Deep.DeepCutAuto
import Derived.Lib.SliceRun
import Derived.Test.YtlfehjjnepiljaaGreatDoorM3
import Derived.Test.YtlfehjjnepiljaaGreatDoorM2
import Derived.Test.YtlfehjjnepiljaaGreatDoorM1
namespace Go.Proofs.YtlfehjjnepiljaaGreatDoor
open Go.RowKit Go.Shelf

theorem cmpV_rest {a b : Ver} (h : ∀ j, j < 4 → a.num j = b.num j) : cmpV a b = orI (tagC a.tag b.tag) (orI (Lib.compareInt a.step b.step) (Lib.compareInt a.many b.many)) := by
  have h0 : a.n0 = b.n0 := h 0 (by omega)
  have h1 : a.n1 = b.n1 := h 1 (by omega)
  have h2 : a.n2 = b.n2 := h 2 (by omega)
  have h3 : a.n3 = b.n3 := h 3 (by omega)
  rw [cmpV_eq, h0, h1, h2, h3, good_int.zero, good_int.zero, good_int.zero, good_int.zero]
  rfl
theorem or_left {x y : Int} (h : x ≠ 0) : orI x y = x := if_neg h
theorem or_right {x y : Int} (h : x = 0) : orI x y = y := if_pos h
theorem int_neg (x y : Int) : decide (Lib.compareInt x y < 0) = decide (x < y) := by
  unfold Lib.compareInt
  split
  · simp [*]
  · split <;> simp [*]
theorem less_bytes : ∀ (l m : Str), Op.bytesLess l m = decide (Lib.compareBytes l m < 0)
  | [], [] => rfl
  | _ :: _, [] => rfl
  | [], _ :: _ => rfl
  | c :: l, d :: m => by
    have ih := less_bytes l m
    unfold Op.bytesLess Lib.compareBytes
    by_cases h1 : c < d
    · simp [h1]
    · by_cases h2 : d < c
      · have hne : ¬ c = d := fun h => by subst h; exact h1 h2
        simp [h1, h2, hne]
      · have he : c = d := UInt8.le_antisymm (UInt8.not_lt.1 h2) (UInt8.not_lt.1 h1)
        subst he
        simp only [h1, if_false]
        rw [← ih]
        simp

set_option maxRecDepth 100000 in
set_option maxHeartbeats 400000 in
theorem rahead_any (a b : Ver) (w : World) : Calls Tryz.prog 73 #[.agg a.arr, .agg b.arr] w fun e w' => e = .returned (.bool (decide (cmpV a b < 0))) ∧ Below w.heap.size w w' := by
  have X1 : Box ((w.alloc (.cells a.arr 45)).alloc (.cells b.arr 45)) w.heap.size 45 a.arr := box_new.alloc _
  have X2 : Box ((w.alloc (.cells a.arr 45)).alloc (.cells b.arr 45)) (w.heap.size + 1) 45 b.arr := heap_alloc2_new w _ _
  have k0 : Two a b w.heap.size (w.heap.size + 1) w ((w.alloc (.cells a.arr 45)).alloc (.cells b.arr 45)) := ⟨X1.ver, X2.ver, ((Below.refl w.heap.size w).alloc (Nat.le_refl _) (.cells a.arr 45)).alloc (by simp) (.cells b.arr 45)⟩
  have HK := Lib.hid k0
  obtain ⟨p0, p1, p2, p3, p4, p5, p6⟩ := k0.l
  obtain ⟨q0, q1, q2, q3, q4, q5, q6⟩ := k0.r
  clear k0 X1 X2
  obtain ⟨r, hr⟩ : ∃ r, r = decide (cmpV a b < 0) := ⟨_, rfl⟩
  rw [← hr]
  have HNO : Hid (∀ k, k < 4 → (∀ j, j < k → a.num j = b.num j) → a.num k ≠ b.num k → r = decide (a.num k < b.num k)) := Lib.hid (fun k hk h0 hne => by
    rw [hr]
    by_cases hl : a.num k < b.num k
    · rw [ahead_at k hk h0 hl, decide_eq_true hl]
      rfl
    · have := ahead_at (w := b) (n := a) k hk (fun j hj => (h0 j hj).symm) (by omega)
      have t := good_cmpV.anti b a
      rw [decide_eq_false hl]
      exact decide_eq_false (by omega))
  have HR := Lib.hid hr
  clear hr
  go_enter Tryz.func73, Tryz.ntmps73
  go_wp2_with fail
  go_loop [5, 6, 9, 10, 11, 12, 13, 14, 15, 16, 17, 18, 19, 20, 21, 22, 23, 24, 25] (fun _ _ i _ _ _ _ _ _ _ _ _ _ _ _ _ _ _ _ => ∃ k : Nat, k ≤ 4 ∧ i = .int .i64 k ∧ Hid (∀ j, j < k → a.num j = b.num j)) (fun _ _ i _ _ _ _ _ _ _ _ _ _ _ _ _ _ _ _ => 4 - (Lib.intOf i).toNat)
  case atStart => exact ⟨0, Nat.zero_le _, rfl, Lib.hid (fun j hj => absurd hj (Nat.not_lt_zero _))⟩
  case round =>
    obtain ⟨k, hk, rfl, HE⟩ := hrel
    by_cases hlt : k < 4
    · have hix := run_index_arr (P := Tryz.prog) Tryz.underlying43 Tryz.isAgg3 Tryz.sizeOf3 hlt (num_get a k hlt)
      have k4 : (k : Int) < 4 := by omega
      have k5 : (0 : Int) ≤ (k : Int) := by omega
      have cp := HK.out.r.num hlt
      have HNX := Lib.hid (HNO.out k hlt HE.out)
      have HEX : Hid (a.num k = b.num k → ∀ j, j < k + 1 → a.num j = b.num j) := Lib.hid (fun he j hj => by
        rcases Nat.lt_or_ge j k with h | h
        · exact HE.out j h
        · obtain rfl : j = k := by omega
          exact he)
      generalize a.num k = x at hix HNX HEX
      generalize b.num k = y at cp HNX HEX
      by_cases hxy : x = y
      · have e1 : (x != y) = false := by simp [hxy]
        have HEY := Lib.hid (HEX.out hxy)
        clear hxy
        go_wp2_with fail
        go_round
        case rel => exact ⟨k + 1, hlt, by go_num, HEY⟩
        case measure => simp [Lib.intOf]; omega
      · have e1 : (x != y) = true := by simp [hxy]
        obtain ⟨l, hl⟩ : ∃ l, l = decide (x < y) := ⟨_, rfl⟩
        have HR2 : Hid (r = l) := Lib.hid (by rw [hl]; exact HNX.out hxy)
        have hl' := hl.symm
        clear hxy hl
        go_wp2_with fail
        go_ret
        exact ⟨ret_bool HR2.out.symm, HK.out.low⟩
    · obtain rfl : k = 4 := by omega
      have HC : Hid (r = decide (orI (tagC a.tag b.tag) (orI (Lib.compareInt a.step b.step) (Lib.compareInt a.many b.many)) < 0)) := Lib.hid (by rw [HR.out, cmpV_rest HE.out])
      clear HR HNO HE
      by_cases ha : a.tag.toList = []
      · have f1 := isEmpty_yes ha
        by_cases hb : b.tag.toList = []
        · have f2 := isEmpty_yes hb
          have hab : a.tag = b.tag := ba_ext (by rw [← Lib.toList_data, ← Lib.toList_data, ha, hb])
          have t2 : (a.tag.toList == b.tag.toList) = true := by rw [hab]; simp
          have t3 : (a.tag.toList != b.tag.toList) = false := by rw [hab]; simp
          have HT : Hid (tagC a.tag b.tag = 0) := Lib.hid (by rw [hab]; exact good_tag.zero _)
          clear ha hb hab
          by_cases hs : a.step = b.step
          · have s1 : (a.step != b.step) = false := by simp [hs]
            obtain ⟨l, hl⟩ : ∃ l, l = decide (a.many < b.many) := ⟨_, rfl⟩
            have HD : Hid (r = l) := Lib.hid (by rw [HC.out, or_right HT.out, hs, or_right (good_int.zero _), int_neg, hl])
            have hl' := hl.symm
            clear hs hl
            go_wp2_with fail
            go_ret
            exact ⟨ret_bool HD.out.symm, HK.out.low⟩
          · have s1 : (a.step != b.step) = true := by simp [hs]
            obtain ⟨l, hl⟩ : ∃ l, l = decide (a.step < b.step) := ⟨_, rfl⟩
            have HD : Hid (r = l) := Lib.hid (by rw [HC.out, or_right HT.out, or_left (fun h => hs (int_zero h)), int_neg, hl])
            have hl' := hl.symm
            clear hs hl
            go_wp2_with fail
            go_ret
            exact ⟨ret_bool HD.out.symm, HK.out.low⟩
        · have f2 := isEmpty_no hb
          have HD : Hid (r = false) := Lib.hid (by
            have : tagC a.tag b.tag = 1 := by
              rw [tagC_eq, tagL, if_pos (by rw [← Lib.toList_data]; exact ha), if_neg (by rw [← Lib.toList_data]; exact hb)]
            rw [HC.out, or_left (by omega), this]
            rfl)
          clear ha hb
          go_wp2_with fail
          go_ret
          exact ⟨ret_bool HD.out.symm, HK.out.low⟩
      · have f1 := isEmpty_no ha
        by_cases hb : b.tag.toList = []
        · have f2 := isEmpty_yes hb
          have HD : Hid (r = true) := Lib.hid (by
            have : tagC a.tag b.tag = -1 := by
              rw [tagC_eq, tagL, if_neg (by rw [← Lib.toList_data]; exact ha), if_pos (by rw [← Lib.toList_data]; exact hb)]
            rw [HC.out, or_left (by omega), this]
            rfl)
          clear ha hb
          go_wp2_with fail
          go_ret
          exact ⟨ret_bool HD.out.symm, HK.out.low⟩
        · have f2 := isEmpty_no hb
          by_cases hab : a.tag = b.tag
          · have t2 : (a.tag.toList == b.tag.toList) = true := by rw [hab]; simp
            have t3 : (a.tag.toList != b.tag.toList) = false := by rw [hab]; simp
            have HT : Hid (tagC a.tag b.tag = 0) := Lib.hid (by rw [hab]; exact good_tag.zero _)
            clear ha hb hab
            by_cases hs : a.step = b.step
            · have s1 : (a.step != b.step) = false := by simp [hs]
              obtain ⟨l, hl⟩ : ∃ l, l = decide (a.many < b.many) := ⟨_, rfl⟩
              have HD : Hid (r = l) := Lib.hid (by rw [HC.out, or_right HT.out, hs, or_right (good_int.zero _), int_neg, hl])
              have hl' := hl.symm
              clear hs hl
              go_wp2_with fail
              go_ret
              exact ⟨ret_bool HD.out.symm, HK.out.low⟩
            · have s1 : (a.step != b.step) = true := by simp [hs]
              obtain ⟨l, hl⟩ : ∃ l, l = decide (a.step < b.step) := ⟨_, rfl⟩
              have HD : Hid (r = l) := Lib.hid (by rw [HC.out, or_right HT.out, or_left (fun h => hs (int_zero h)), int_neg, hl])
              have hl' := hl.symm
              clear hs hl
              go_wp2_with fail
              go_ret
              exact ⟨ret_bool HD.out.symm, HK.out.low⟩
          · have hne : a.tag.toList ≠ b.tag.toList := fun h => hab (ba_ext (by rw [← Lib.toList_data, ← Lib.toList_data, h]))
            have t2 : (a.tag.toList == b.tag.toList) = false := by simp [hne]
            have t3 : (a.tag.toList != b.tag.toList) = true := by simp [hne]
            have HD : Hid (Op.bytesLess a.tag.toList b.tag.toList = r) := Lib.hid (by
              have e : tagC a.tag b.tag = Lib.compareBytes a.tag.data.toList b.tag.data.toList := by
                rw [tagC_eq, tagL, if_neg (by rw [← Lib.toList_data]; exact ha), if_neg (by rw [← Lib.toList_data]; exact hb)]
              rw [HC.out, or_left (fun h => hab (tag_zero h)), e, less_bytes, Lib.toList_data, Lib.toList_data])
            clear ha hb hab hne
            go_wp2_with fail
            go_ret
            exact ⟨ret_bool HD.out, HK.out.low⟩
end Go.Proofs.YtlfehjjnepiljaaGreatDoor

namespace Go.Proofs.YtlfehjjnepiljaaGreatDoor
open Go.RowKit Go.Shelf
def Aheads (a b : Ver) (x : Bool) : Prop := ∀ W, Calls Tryz.prog 73 #[.agg a.arr, .agg b.arr] W fun e w' => e = .returned (.bool x) ∧ Below W.heap.size W w'
theorem aheads_of {a b : Ver} {x : Bool} (h : x = decide (cmpV a b < 0)) : Aheads a b x := fun W => by
  subst h
  exact rahead_any a b W

set_option maxRecDepth 100000 in
set_option maxHeartbeats 1000000 in
theorem rc_tf (a b : Ver) (ha : Rights a true) (hb : Rights b false) (w : World) : Calls Tryz.prog 53 #[.agg a.arr, .agg b.arr] w fun e w' => e = .returned (.int .i64 (1)) ∧ Below w.heap.size w w' := by
  have X1 : Box ((w.alloc (.cells a.arr 45)).alloc (.cells b.arr 45)) w.heap.size 45 a.arr := box_new.alloc _
  have X2 : Box ((w.alloc (.cells a.arr 45)).alloc (.cells b.arr 45)) (w.heap.size + 1) 45 b.arr := heap_alloc2_new w _ _
  have k0 : Hid (Two a b w.heap.size (w.heap.size + 1) w ((w.alloc (.cells a.arr 45)).alloc (.cells b.arr 45))) := Lib.hid ⟨X1.ver, X2.ver, ((Below.refl w.heap.size w).alloc (Nat.le_refl _) (.cells a.arr 45)).alloc (by simp) (.cells b.arr 45)⟩
  have HA := Lib.hid ha
  have HB := Lib.hid hb
  clear X1 X2 ha hb
  go_enter Tryz.func53, Tryz.ntmps53
  go_wp2_with fail
  refine wp_region_held_drew (S := fun w' => Two a b w.heap.size (w.heap.size + 1) w w') (by kernel_rfl) k0.out.drew (fun hHeld => ?_)
  refine wpAnyH_take (i := 0) (oi := { dst := some 7, op := Op.load 45 (Operand.tmp 2), type := 45, pos := "ref.go:128", after := #[], guard := none }) (v := ?_) rfl (by kernel_rfl) (by kernel_rfl) (by kernel_rfl) (fun _ _ _ h => h) (Or.inl ⟨by rfl, ?_⟩) hHeld ?_
  rotate_left
  · (intro w hSw; obtain ⟨p0, p1, p2, p3, p4, p5, p6⟩ := hSw.l; go_simp; try with_reducible rfl)
  (try simp only [Act.put, List.setIfInBounds_toArray, List.set_cons_zero, List.set_cons_succ])
  refine wpAnyH_take (i := 2) (oi := { dst := some 9, op := Op.load 45 (Operand.tmp 3), type := 45, pos := "ref.go:128", after := #[], guard := none }) (v := ?_) rfl (by kernel_rfl) (by kernel_rfl) (by kernel_rfl) (fun _ _ _ h => h) (Or.inl ⟨by rfl, ?_⟩) hHeld ?_
  rotate_left
  · (intro w hSw; obtain ⟨p0, p1, p2, p3, p4, p5, p6⟩ := hSw.r; go_simp; try with_reducible rfl)
  (try simp only [Act.put, List.setIfInBounds_toArray, List.set_cons_zero, List.set_cons_succ])
  refine wpAnyH_ready (rs := [1]) (by kernel_rfl) (by simp) (AllReadyH.cons (o := { dst := some 8, op := Op.call { callee := Callee.value (Operand.func 21), args := #[Operand.tmp 7], argTypes := #[45] }, type := 4, pos := "ref.go:128", after := #[{ on := 0, ground := Ground.data }], guard := none }) rfl (fun K hK => ?_) AllReadyH.nil)
  · go_simp
    refine (HA.out _).mono ?_
    rintro e wa ⟨rfl, hba⟩
    refine hK.out _ _ (hHeld.on hba) (fun hHeld => ?_)
    (try simp only [Act.put, List.setIfInBounds_toArray, List.set_cons_zero, List.set_cons_succ])
    refine wpAnyH_ready (rs := [3]) (by kernel_rfl) (by simp) (AllReadyH.cons (o := { dst := some 10, op := Op.call { callee := Callee.value (Operand.func 21), args := #[Operand.tmp 9], argTypes := #[45] }, type := 4, pos := "ref.go:128", after := #[{ on := 2, ground := Ground.data }, { on := 1, ground := Ground.chain }], guard := none }) rfl (fun K hK => ?_) AllReadyH.nil)
    · go_simp
      refine (HB.out _).mono ?_
      rintro e wa ⟨rfl, hba⟩
      refine hK.out _ _ (hHeld.on hba) (fun hHeld => ?_)
      (try simp only [Act.put, List.setIfInBounds_toArray, List.set_cons_zero, List.set_cons_succ])
      refine wpAnyH_take (i := 4) (oi := { dst := some 5, op := Op.assign (Operand.tmp 8), type := 4, pos := "ref.go:128", after := #[{ on := 1, ground := Ground.data }, { on := 3, ground := Ground.chain }, { on := 0, ground := Ground.phase }, { on := 1, ground := Ground.phase }, { on := 2, ground := Ground.textOnly Departure.lateStores }, { on := 3, ground := Ground.textOnly Departure.lateStoresUnsure }], guard := none }) (v := ?_) rfl (by kernel_rfl) (by kernel_rfl) (by kernel_rfl) (fun _ _ _ h => h) (Or.inl ⟨by rfl, ?_⟩) hHeld ?_
      rotate_left
      · (intro w hSw; go_simp; try with_reducible rfl)
      (try simp only [Act.put, List.setIfInBounds_toArray, List.set_cons_zero, List.set_cons_succ])
      refine wpAnyH_take (i := 5) (oi := { dst := some 6, op := Op.assign (Operand.tmp 10), type := 4, pos := "ref.go:128", after := #[{ on := 3, ground := Ground.data }, { on := 4, ground := Ground.chain }, { on := 0, ground := Ground.phase }, { on := 1, ground := Ground.phase }, { on := 2, ground := Ground.phase }, { on := 3, ground := Ground.phase }, { on := 4, ground := Ground.phase }], guard := none }) (v := ?_) rfl (by kernel_rfl) (by kernel_rfl) (by kernel_rfl) (fun _ _ _ h => h) (Or.inl ⟨by rfl, ?_⟩) hHeld ?_
      rotate_left
      · (intro w hSw; go_simp; try with_reducible rfl)
      (try simp only [Act.put, List.setIfInBounds_toArray, List.set_cons_zero, List.set_cons_succ])
      refine wpAnyH_done (by kernel_rfl) ?_ _
      have HT := Lib.hid hHeld
      clear hHeld
      obtain ⟨p0, p1, p2, p3, p4, p5, p6⟩ := HT.out.l
      obtain ⟨q0, q1, q2, q3, q4, q5, q6⟩ := HT.out.r
      go_wp2_with fail
      go_ret
      exact ⟨rfl, HT.out.low⟩

set_option maxRecDepth 100000 in
set_option maxHeartbeats 1000000 in
theorem rc_ft (a b : Ver) (ha : Rights a false) (hb : Rights b true) (w : World) : Calls Tryz.prog 53 #[.agg a.arr, .agg b.arr] w fun e w' => e = .returned (.int .i64 (-1)) ∧ Below w.heap.size w w' := by
  have X1 : Box ((w.alloc (.cells a.arr 45)).alloc (.cells b.arr 45)) w.heap.size 45 a.arr := box_new.alloc _
  have X2 : Box ((w.alloc (.cells a.arr 45)).alloc (.cells b.arr 45)) (w.heap.size + 1) 45 b.arr := heap_alloc2_new w _ _
  have k0 : Hid (Two a b w.heap.size (w.heap.size + 1) w ((w.alloc (.cells a.arr 45)).alloc (.cells b.arr 45))) := Lib.hid ⟨X1.ver, X2.ver, ((Below.refl w.heap.size w).alloc (Nat.le_refl _) (.cells a.arr 45)).alloc (by simp) (.cells b.arr 45)⟩
  have HA := Lib.hid ha
  have HB := Lib.hid hb
  clear X1 X2 ha hb
  go_enter Tryz.func53, Tryz.ntmps53
  go_wp2_with fail
  refine wp_region_held_drew (S := fun w' => Two a b w.heap.size (w.heap.size + 1) w w') (by kernel_rfl) k0.out.drew (fun hHeld => ?_)
  refine wpAnyH_take (i := 0) (oi := { dst := some 7, op := Op.load 45 (Operand.tmp 2), type := 45, pos := "ref.go:128", after := #[], guard := none }) (v := ?_) rfl (by kernel_rfl) (by kernel_rfl) (by kernel_rfl) (fun _ _ _ h => h) (Or.inl ⟨by rfl, ?_⟩) hHeld ?_
  rotate_left
  · (intro w hSw; obtain ⟨p0, p1, p2, p3, p4, p5, p6⟩ := hSw.l; go_simp; try with_reducible rfl)
  (try simp only [Act.put, List.setIfInBounds_toArray, List.set_cons_zero, List.set_cons_succ])
  refine wpAnyH_take (i := 2) (oi := { dst := some 9, op := Op.load 45 (Operand.tmp 3), type := 45, pos := "ref.go:128", after := #[], guard := none }) (v := ?_) rfl (by kernel_rfl) (by kernel_rfl) (by kernel_rfl) (fun _ _ _ h => h) (Or.inl ⟨by rfl, ?_⟩) hHeld ?_
  rotate_left
  · (intro w hSw; obtain ⟨p0, p1, p2, p3, p4, p5, p6⟩ := hSw.r; go_simp; try with_reducible rfl)
  (try simp only [Act.put, List.setIfInBounds_toArray, List.set_cons_zero, List.set_cons_succ])
  refine wpAnyH_ready (rs := [1]) (by kernel_rfl) (by simp) (AllReadyH.cons (o := { dst := some 8, op := Op.call { callee := Callee.value (Operand.func 21), args := #[Operand.tmp 7], argTypes := #[45] }, type := 4, pos := "ref.go:128", after := #[{ on := 0, ground := Ground.data }], guard := none }) rfl (fun K hK => ?_) AllReadyH.nil)
  · go_simp
    refine (HA.out _).mono ?_
    rintro e wa ⟨rfl, hba⟩
    refine hK.out _ _ (hHeld.on hba) (fun hHeld => ?_)
    (try simp only [Act.put, List.setIfInBounds_toArray, List.set_cons_zero, List.set_cons_succ])
    refine wpAnyH_ready (rs := [3]) (by kernel_rfl) (by simp) (AllReadyH.cons (o := { dst := some 10, op := Op.call { callee := Callee.value (Operand.func 21), args := #[Operand.tmp 9], argTypes := #[45] }, type := 4, pos := "ref.go:128", after := #[{ on := 2, ground := Ground.data }, { on := 1, ground := Ground.chain }], guard := none }) rfl (fun K hK => ?_) AllReadyH.nil)
    · go_simp
      refine (HB.out _).mono ?_
      rintro e wa ⟨rfl, hba⟩
      refine hK.out _ _ (hHeld.on hba) (fun hHeld => ?_)
      (try simp only [Act.put, List.setIfInBounds_toArray, List.set_cons_zero, List.set_cons_succ])
      refine wpAnyH_take (i := 4) (oi := { dst := some 5, op := Op.assign (Operand.tmp 8), type := 4, pos := "ref.go:128", after := #[{ on := 1, ground := Ground.data }, { on := 3, ground := Ground.chain }, { on := 0, ground := Ground.phase }, { on := 1, ground := Ground.phase }, { on := 2, ground := Ground.textOnly Departure.lateStores }, { on := 3, ground := Ground.textOnly Departure.lateStoresUnsure }], guard := none }) (v := ?_) rfl (by kernel_rfl) (by kernel_rfl) (by kernel_rfl) (fun _ _ _ h => h) (Or.inl ⟨by rfl, ?_⟩) hHeld ?_
      rotate_left
      · (intro w hSw; go_simp; try with_reducible rfl)
      (try simp only [Act.put, List.setIfInBounds_toArray, List.set_cons_zero, List.set_cons_succ])
      refine wpAnyH_take (i := 5) (oi := { dst := some 6, op := Op.assign (Operand.tmp 10), type := 4, pos := "ref.go:128", after := #[{ on := 3, ground := Ground.data }, { on := 4, ground := Ground.chain }, { on := 0, ground := Ground.phase }, { on := 1, ground := Ground.phase }, { on := 2, ground := Ground.phase }, { on := 3, ground := Ground.phase }, { on := 4, ground := Ground.phase }], guard := none }) (v := ?_) rfl (by kernel_rfl) (by kernel_rfl) (by kernel_rfl) (fun _ _ _ h => h) (Or.inl ⟨by rfl, ?_⟩) hHeld ?_
      rotate_left
      · (intro w hSw; go_simp; try with_reducible rfl)
      (try simp only [Act.put, List.setIfInBounds_toArray, List.set_cons_zero, List.set_cons_succ])
      refine wpAnyH_done (by kernel_rfl) ?_ _
      have HT := Lib.hid hHeld
      clear hHeld
      obtain ⟨p0, p1, p2, p3, p4, p5, p6⟩ := HT.out.l
      obtain ⟨q0, q1, q2, q3, q4, q5, q6⟩ := HT.out.r
      go_wp2_with fail
      go_ret
      exact ⟨rfl, HT.out.low⟩

set_option maxRecDepth 100000 in
set_option maxHeartbeats 1000000 in
theorem rc_ff (a b : Ver) (ha : Rights a false) (hb : Rights b false) (w : World) : Calls Tryz.prog 53 #[.agg a.arr, .agg b.arr] w fun e w' => e = .returned (.int .i64 (0)) ∧ Below w.heap.size w w' := by
  have X1 : Box ((w.alloc (.cells a.arr 45)).alloc (.cells b.arr 45)) w.heap.size 45 a.arr := box_new.alloc _
  have X2 : Box ((w.alloc (.cells a.arr 45)).alloc (.cells b.arr 45)) (w.heap.size + 1) 45 b.arr := heap_alloc2_new w _ _
  have k0 : Hid (Two a b w.heap.size (w.heap.size + 1) w ((w.alloc (.cells a.arr 45)).alloc (.cells b.arr 45))) := Lib.hid ⟨X1.ver, X2.ver, ((Below.refl w.heap.size w).alloc (Nat.le_refl _) (.cells a.arr 45)).alloc (by simp) (.cells b.arr 45)⟩
  have HA := Lib.hid ha
  have HB := Lib.hid hb
  clear X1 X2 ha hb
  go_enter Tryz.func53, Tryz.ntmps53
  go_wp2_with fail
  refine wp_region_held_drew (S := fun w' => Two a b w.heap.size (w.heap.size + 1) w w') (by kernel_rfl) k0.out.drew (fun hHeld => ?_)
  refine wpAnyH_take (i := 0) (oi := { dst := some 7, op := Op.load 45 (Operand.tmp 2), type := 45, pos := "ref.go:128", after := #[], guard := none }) (v := ?_) rfl (by kernel_rfl) (by kernel_rfl) (by kernel_rfl) (fun _ _ _ h => h) (Or.inl ⟨by rfl, ?_⟩) hHeld ?_
  rotate_left
  · (intro w hSw; obtain ⟨p0, p1, p2, p3, p4, p5, p6⟩ := hSw.l; go_simp; try with_reducible rfl)
  (try simp only [Act.put, List.setIfInBounds_toArray, List.set_cons_zero, List.set_cons_succ])
  refine wpAnyH_take (i := 2) (oi := { dst := some 9, op := Op.load 45 (Operand.tmp 3), type := 45, pos := "ref.go:128", after := #[], guard := none }) (v := ?_) rfl (by kernel_rfl) (by kernel_rfl) (by kernel_rfl) (fun _ _ _ h => h) (Or.inl ⟨by rfl, ?_⟩) hHeld ?_
  rotate_left
  · (intro w hSw; obtain ⟨p0, p1, p2, p3, p4, p5, p6⟩ := hSw.r; go_simp; try with_reducible rfl)
  (try simp only [Act.put, List.setIfInBounds_toArray, List.set_cons_zero, List.set_cons_succ])
  refine wpAnyH_ready (rs := [1]) (by kernel_rfl) (by simp) (AllReadyH.cons (o := { dst := some 8, op := Op.call { callee := Callee.value (Operand.func 21), args := #[Operand.tmp 7], argTypes := #[45] }, type := 4, pos := "ref.go:128", after := #[{ on := 0, ground := Ground.data }], guard := none }) rfl (fun K hK => ?_) AllReadyH.nil)
  · go_simp
    refine (HA.out _).mono ?_
    rintro e wa ⟨rfl, hba⟩
    refine hK.out _ _ (hHeld.on hba) (fun hHeld => ?_)
    (try simp only [Act.put, List.setIfInBounds_toArray, List.set_cons_zero, List.set_cons_succ])
    refine wpAnyH_ready (rs := [3]) (by kernel_rfl) (by simp) (AllReadyH.cons (o := { dst := some 10, op := Op.call { callee := Callee.value (Operand.func 21), args := #[Operand.tmp 9], argTypes := #[45] }, type := 4, pos := "ref.go:128", after := #[{ on := 2, ground := Ground.data }, { on := 1, ground := Ground.chain }], guard := none }) rfl (fun K hK => ?_) AllReadyH.nil)
    · go_simp
      refine (HB.out _).mono ?_
      rintro e wa ⟨rfl, hba⟩
      refine hK.out _ _ (hHeld.on hba) (fun hHeld => ?_)
      (try simp only [Act.put, List.setIfInBounds_toArray, List.set_cons_zero, List.set_cons_succ])
      refine wpAnyH_take (i := 4) (oi := { dst := some 5, op := Op.assign (Operand.tmp 8), type := 4, pos := "ref.go:128", after := #[{ on := 1, ground := Ground.data }, { on := 3, ground := Ground.chain }, { on := 0, ground := Ground.phase }, { on := 1, ground := Ground.phase }, { on := 2, ground := Ground.textOnly Departure.lateStores }, { on := 3, ground := Ground.textOnly Departure.lateStoresUnsure }], guard := none }) (v := ?_) rfl (by kernel_rfl) (by kernel_rfl) (by kernel_rfl) (fun _ _ _ h => h) (Or.inl ⟨by rfl, ?_⟩) hHeld ?_
      rotate_left
      · (intro w hSw; go_simp; try with_reducible rfl)
      (try simp only [Act.put, List.setIfInBounds_toArray, List.set_cons_zero, List.set_cons_succ])
      refine wpAnyH_take (i := 5) (oi := { dst := some 6, op := Op.assign (Operand.tmp 10), type := 4, pos := "ref.go:128", after := #[{ on := 3, ground := Ground.data }, { on := 4, ground := Ground.chain }, { on := 0, ground := Ground.phase }, { on := 1, ground := Ground.phase }, { on := 2, ground := Ground.phase }, { on := 3, ground := Ground.phase }, { on := 4, ground := Ground.phase }], guard := none }) (v := ?_) rfl (by kernel_rfl) (by kernel_rfl) (by kernel_rfl) (fun _ _ _ h => h) (Or.inl ⟨by rfl, ?_⟩) hHeld ?_
      rotate_left
      · (intro w hSw; go_simp; try with_reducible rfl)
      (try simp only [Act.put, List.setIfInBounds_toArray, List.set_cons_zero, List.set_cons_succ])
      refine wpAnyH_done (by kernel_rfl) ?_ _
      have HT := Lib.hid hHeld
      clear hHeld
      obtain ⟨p0, p1, p2, p3, p4, p5, p6⟩ := HT.out.l
      obtain ⟨q0, q1, q2, q3, q4, q5, q6⟩ := HT.out.r
      go_wp2_with fail
      go_ret
      exact ⟨rfl, HT.out.low⟩

set_option maxRecDepth 100000 in
set_option maxHeartbeats 1000000 in
theorem rc_lt (a b : Ver) (ha : Rights a true) (hb : Rights b true) (hx : Aheads a b true) (w : World) : Calls Tryz.prog 53 #[.agg a.arr, .agg b.arr] w fun e w' => e = .returned (.int .i64 (-1)) ∧ Below w.heap.size w w' := by
  have X1 : Box ((w.alloc (.cells a.arr 45)).alloc (.cells b.arr 45)) w.heap.size 45 a.arr := box_new.alloc _
  have X2 : Box ((w.alloc (.cells a.arr 45)).alloc (.cells b.arr 45)) (w.heap.size + 1) 45 b.arr := heap_alloc2_new w _ _
  have k0 : Hid (Two a b w.heap.size (w.heap.size + 1) w ((w.alloc (.cells a.arr 45)).alloc (.cells b.arr 45))) := Lib.hid ⟨X1.ver, X2.ver, ((Below.refl w.heap.size w).alloc (Nat.le_refl _) (.cells a.arr 45)).alloc (by simp) (.cells b.arr 45)⟩
  have HA := Lib.hid ha
  have HB := Lib.hid hb
  clear X1 X2 ha hb
  go_enter Tryz.func53, Tryz.ntmps53
  go_wp2_with fail
  refine wp_region_held_drew (S := fun w' => Two a b w.heap.size (w.heap.size + 1) w w') (by kernel_rfl) k0.out.drew (fun hHeld => ?_)
  refine wpAnyH_take (i := 0) (oi := { dst := some 7, op := Op.load 45 (Operand.tmp 2), type := 45, pos := "ref.go:128", after := #[], guard := none }) (v := ?_) rfl (by kernel_rfl) (by kernel_rfl) (by kernel_rfl) (fun _ _ _ h => h) (Or.inl ⟨by rfl, ?_⟩) hHeld ?_
  rotate_left
  · (intro w hSw; obtain ⟨p0, p1, p2, p3, p4, p5, p6⟩ := hSw.l; go_simp; try with_reducible rfl)
  (try simp only [Act.put, List.setIfInBounds_toArray, List.set_cons_zero, List.set_cons_succ])
  refine wpAnyH_take (i := 2) (oi := { dst := some 9, op := Op.load 45 (Operand.tmp 3), type := 45, pos := "ref.go:128", after := #[], guard := none }) (v := ?_) rfl (by kernel_rfl) (by kernel_rfl) (by kernel_rfl) (fun _ _ _ h => h) (Or.inl ⟨by rfl, ?_⟩) hHeld ?_
  rotate_left
  · (intro w hSw; obtain ⟨p0, p1, p2, p3, p4, p5, p6⟩ := hSw.r; go_simp; try with_reducible rfl)
  (try simp only [Act.put, List.setIfInBounds_toArray, List.set_cons_zero, List.set_cons_succ])
  refine wpAnyH_ready (rs := [1]) (by kernel_rfl) (by simp) (AllReadyH.cons (o := { dst := some 8, op := Op.call { callee := Callee.value (Operand.func 21), args := #[Operand.tmp 7], argTypes := #[45] }, type := 4, pos := "ref.go:128", after := #[{ on := 0, ground := Ground.data }], guard := none }) rfl (fun K hK => ?_) AllReadyH.nil)
  · go_simp
    refine (HA.out _).mono ?_
    rintro e wa ⟨rfl, hba⟩
    refine hK.out _ _ (hHeld.on hba) (fun hHeld => ?_)
    (try simp only [Act.put, List.setIfInBounds_toArray, List.set_cons_zero, List.set_cons_succ])
    refine wpAnyH_ready (rs := [3]) (by kernel_rfl) (by simp) (AllReadyH.cons (o := { dst := some 10, op := Op.call { callee := Callee.value (Operand.func 21), args := #[Operand.tmp 9], argTypes := #[45] }, type := 4, pos := "ref.go:128", after := #[{ on := 2, ground := Ground.data }, { on := 1, ground := Ground.chain }], guard := none }) rfl (fun K hK => ?_) AllReadyH.nil)
    · go_simp
      refine (HB.out _).mono ?_
      rintro e wa ⟨rfl, hba⟩
      refine hK.out _ _ (hHeld.on hba) (fun hHeld => ?_)
      (try simp only [Act.put, List.setIfInBounds_toArray, List.set_cons_zero, List.set_cons_succ])
      refine wpAnyH_take (i := 4) (oi := { dst := some 5, op := Op.assign (Operand.tmp 8), type := 4, pos := "ref.go:128", after := #[{ on := 1, ground := Ground.data }, { on := 3, ground := Ground.chain }, { on := 0, ground := Ground.phase }, { on := 1, ground := Ground.phase }, { on := 2, ground := Ground.textOnly Departure.lateStores }, { on := 3, ground := Ground.textOnly Departure.lateStoresUnsure }], guard := none }) (v := ?_) rfl (by kernel_rfl) (by kernel_rfl) (by kernel_rfl) (fun _ _ _ h => h) (Or.inl ⟨by rfl, ?_⟩) hHeld ?_
      rotate_left
      · (intro w hSw; go_simp; try with_reducible rfl)
      (try simp only [Act.put, List.setIfInBounds_toArray, List.set_cons_zero, List.set_cons_succ])
      refine wpAnyH_take (i := 5) (oi := { dst := some 6, op := Op.assign (Operand.tmp 10), type := 4, pos := "ref.go:128", after := #[{ on := 3, ground := Ground.data }, { on := 4, ground := Ground.chain }, { on := 0, ground := Ground.phase }, { on := 1, ground := Ground.phase }, { on := 2, ground := Ground.phase }, { on := 3, ground := Ground.phase }, { on := 4, ground := Ground.phase }], guard := none }) (v := ?_) rfl (by kernel_rfl) (by kernel_rfl) (by kernel_rfl) (fun _ _ _ h => h) (Or.inl ⟨by rfl, ?_⟩) hHeld ?_
      rotate_left
      · (intro w hSw; go_simp; try with_reducible rfl)
      (try simp only [Act.put, List.setIfInBounds_toArray, List.set_cons_zero, List.set_cons_succ])
      refine wpAnyH_done (by kernel_rfl) ?_ _
      have HT := Lib.hid hHeld
      clear hHeld
      obtain ⟨p0, p1, p2, p3, p4, p5, p6⟩ := HT.out.l
      obtain ⟨q0, q1, q2, q3, q4, q5, q6⟩ := HT.out.r
      go_wp2_with fail
      refine (hx _).mono ?_
      rintro e wH2 ⟨rfl, hz⟩
      have H2 := Lib.hid (HT.out.on hz)
      clear hz p0 p1 p2 p3 p4 p5 p6 q0 q1 q2 q3 q4 q5 q6
      obtain ⟨p0, p1, p2, p3, p4, p5, p6⟩ := H2.out.l
      obtain ⟨q0, q1, q2, q3, q4, q5, q6⟩ := H2.out.r
      go_wp2_with fail
      go_ret
      exact ⟨rfl, H2.out.low⟩

set_option maxRecDepth 100000 in
set_option maxHeartbeats 1000000 in
theorem rc_gt (a b : Ver) (ha : Rights a true) (hb : Rights b true) (hx : Aheads a b false) (hy : Aheads b a true) (w : World) : Calls Tryz.prog 53 #[.agg a.arr, .agg b.arr] w fun e w' => e = .returned (.int .i64 (1)) ∧ Below w.heap.size w w' := by
  have X1 : Box ((w.alloc (.cells a.arr 45)).alloc (.cells b.arr 45)) w.heap.size 45 a.arr := box_new.alloc _
  have X2 : Box ((w.alloc (.cells a.arr 45)).alloc (.cells b.arr 45)) (w.heap.size + 1) 45 b.arr := heap_alloc2_new w _ _
  have k0 : Hid (Two a b w.heap.size (w.heap.size + 1) w ((w.alloc (.cells a.arr 45)).alloc (.cells b.arr 45))) := Lib.hid ⟨X1.ver, X2.ver, ((Below.refl w.heap.size w).alloc (Nat.le_refl _) (.cells a.arr 45)).alloc (by simp) (.cells b.arr 45)⟩
  have HA := Lib.hid ha
  have HB := Lib.hid hb
  clear X1 X2 ha hb
  go_enter Tryz.func53, Tryz.ntmps53
  go_wp2_with fail
  refine wp_region_held_drew (S := fun w' => Two a b w.heap.size (w.heap.size + 1) w w') (by kernel_rfl) k0.out.drew (fun hHeld => ?_)
  refine wpAnyH_take (i := 0) (oi := { dst := some 7, op := Op.load 45 (Operand.tmp 2), type := 45, pos := "ref.go:128", after := #[], guard := none }) (v := ?_) rfl (by kernel_rfl) (by kernel_rfl) (by kernel_rfl) (fun _ _ _ h => h) (Or.inl ⟨by rfl, ?_⟩) hHeld ?_
  rotate_left
  · (intro w hSw; obtain ⟨p0, p1, p2, p3, p4, p5, p6⟩ := hSw.l; go_simp; try with_reducible rfl)
  (try simp only [Act.put, List.setIfInBounds_toArray, List.set_cons_zero, List.set_cons_succ])
  refine wpAnyH_take (i := 2) (oi := { dst := some 9, op := Op.load 45 (Operand.tmp 3), type := 45, pos := "ref.go:128", after := #[], guard := none }) (v := ?_) rfl (by kernel_rfl) (by kernel_rfl) (by kernel_rfl) (fun _ _ _ h => h) (Or.inl ⟨by rfl, ?_⟩) hHeld ?_
  rotate_left
  · (intro w hSw; obtain ⟨p0, p1, p2, p3, p4, p5, p6⟩ := hSw.r; go_simp; try with_reducible rfl)
  (try simp only [Act.put, List.setIfInBounds_toArray, List.set_cons_zero, List.set_cons_succ])
  refine wpAnyH_ready (rs := [1]) (by kernel_rfl) (by simp) (AllReadyH.cons (o := { dst := some 8, op := Op.call { callee := Callee.value (Operand.func 21), args := #[Operand.tmp 7], argTypes := #[45] }, type := 4, pos := "ref.go:128", after := #[{ on := 0, ground := Ground.data }], guard := none }) rfl (fun K hK => ?_) AllReadyH.nil)
  · go_simp
    refine (HA.out _).mono ?_
    rintro e wa ⟨rfl, hba⟩
    refine hK.out _ _ (hHeld.on hba) (fun hHeld => ?_)
    (try simp only [Act.put, List.setIfInBounds_toArray, List.set_cons_zero, List.set_cons_succ])
    refine wpAnyH_ready (rs := [3]) (by kernel_rfl) (by simp) (AllReadyH.cons (o := { dst := some 10, op := Op.call { callee := Callee.value (Operand.func 21), args := #[Operand.tmp 9], argTypes := #[45] }, type := 4, pos := "ref.go:128", after := #[{ on := 2, ground := Ground.data }, { on := 1, ground := Ground.chain }], guard := none }) rfl (fun K hK => ?_) AllReadyH.nil)
    · go_simp
      refine (HB.out _).mono ?_
      rintro e wa ⟨rfl, hba⟩
      refine hK.out _ _ (hHeld.on hba) (fun hHeld => ?_)
      (try simp only [Act.put, List.setIfInBounds_toArray, List.set_cons_zero, List.set_cons_succ])
      refine wpAnyH_take (i := 4) (oi := { dst := some 5, op := Op.assign (Operand.tmp 8), type := 4, pos := "ref.go:128", after := #[{ on := 1, ground := Ground.data }, { on := 3, ground := Ground.chain }, { on := 0, ground := Ground.phase }, { on := 1, ground := Ground.phase }, { on := 2, ground := Ground.textOnly Departure.lateStores }, { on := 3, ground := Ground.textOnly Departure.lateStoresUnsure }], guard := none }) (v := ?_) rfl (by kernel_rfl) (by kernel_rfl) (by kernel_rfl) (fun _ _ _ h => h) (Or.inl ⟨by rfl, ?_⟩) hHeld ?_
      rotate_left
      · (intro w hSw; go_simp; try with_reducible rfl)
      (try simp only [Act.put, List.setIfInBounds_toArray, List.set_cons_zero, List.set_cons_succ])
      refine wpAnyH_take (i := 5) (oi := { dst := some 6, op := Op.assign (Operand.tmp 10), type := 4, pos := "ref.go:128", after := #[{ on := 3, ground := Ground.data }, { on := 4, ground := Ground.chain }, { on := 0, ground := Ground.phase }, { on := 1, ground := Ground.phase }, { on := 2, ground := Ground.phase }, { on := 3, ground := Ground.phase }, { on := 4, ground := Ground.phase }], guard := none }) (v := ?_) rfl (by kernel_rfl) (by kernel_rfl) (by kernel_rfl) (fun _ _ _ h => h) (Or.inl ⟨by rfl, ?_⟩) hHeld ?_
      rotate_left
      · (intro w hSw; go_simp; try with_reducible rfl)
      (try simp only [Act.put, List.setIfInBounds_toArray, List.set_cons_zero, List.set_cons_succ])
      refine wpAnyH_done (by kernel_rfl) ?_ _
      have HT := Lib.hid hHeld
      clear hHeld
      obtain ⟨p0, p1, p2, p3, p4, p5, p6⟩ := HT.out.l
      obtain ⟨q0, q1, q2, q3, q4, q5, q6⟩ := HT.out.r
      go_wp2_with fail
      refine (hx _).mono ?_
      rintro e wH2 ⟨rfl, hz⟩
      have H2 := Lib.hid (HT.out.on hz)
      clear hz p0 p1 p2 p3 p4 p5 p6 q0 q1 q2 q3 q4 q5 q6
      obtain ⟨p0, p1, p2, p3, p4, p5, p6⟩ := H2.out.l
      obtain ⟨q0, q1, q2, q3, q4, q5, q6⟩ := H2.out.r
      go_wp2_with fail
      refine (hy _).mono ?_
      rintro e wH3 ⟨rfl, hz⟩
      have H3 := Lib.hid (H2.out.on hz)
      clear hz p0 p1 p2 p3 p4 p5 p6 q0 q1 q2 q3 q4 q5 q6
      obtain ⟨p0, p1, p2, p3, p4, p5, p6⟩ := H3.out.l
      obtain ⟨q0, q1, q2, q3, q4, q5, q6⟩ := H3.out.r
      go_wp2_with fail
      go_ret
      exact ⟨rfl, H3.out.low⟩

set_option maxRecDepth 100000 in
set_option maxHeartbeats 1000000 in
theorem rc_eq (a b : Ver) (ha : Rights a true) (hb : Rights b true) (hx : Aheads a b false) (hy : Aheads b a false) (w : World) : Calls Tryz.prog 53 #[.agg a.arr, .agg b.arr] w fun e w' => e = .returned (.int .i64 (0)) ∧ Below w.heap.size w w' := by
  have X1 : Box ((w.alloc (.cells a.arr 45)).alloc (.cells b.arr 45)) w.heap.size 45 a.arr := box_new.alloc _
  have X2 : Box ((w.alloc (.cells a.arr 45)).alloc (.cells b.arr 45)) (w.heap.size + 1) 45 b.arr := heap_alloc2_new w _ _
  have k0 : Hid (Two a b w.heap.size (w.heap.size + 1) w ((w.alloc (.cells a.arr 45)).alloc (.cells b.arr 45))) := Lib.hid ⟨X1.ver, X2.ver, ((Below.refl w.heap.size w).alloc (Nat.le_refl _) (.cells a.arr 45)).alloc (by simp) (.cells b.arr 45)⟩
  have HA := Lib.hid ha
  have HB := Lib.hid hb
  clear X1 X2 ha hb
  go_enter Tryz.func53, Tryz.ntmps53
  go_wp2_with fail
  refine wp_region_held_drew (S := fun w' => Two a b w.heap.size (w.heap.size + 1) w w') (by kernel_rfl) k0.out.drew (fun hHeld => ?_)
  refine wpAnyH_take (i := 0) (oi := { dst := some 7, op := Op.load 45 (Operand.tmp 2), type := 45, pos := "ref.go:128", after := #[], guard := none }) (v := ?_) rfl (by kernel_rfl) (by kernel_rfl) (by kernel_rfl) (fun _ _ _ h => h) (Or.inl ⟨by rfl, ?_⟩) hHeld ?_
  rotate_left
  · (intro w hSw; obtain ⟨p0, p1, p2, p3, p4, p5, p6⟩ := hSw.l; go_simp; try with_reducible rfl)
  (try simp only [Act.put, List.setIfInBounds_toArray, List.set_cons_zero, List.set_cons_succ])
  refine wpAnyH_take (i := 2) (oi := { dst := some 9, op := Op.load 45 (Operand.tmp 3), type := 45, pos := "ref.go:128", after := #[], guard := none }) (v := ?_) rfl (by kernel_rfl) (by kernel_rfl) (by kernel_rfl) (fun _ _ _ h => h) (Or.inl ⟨by rfl, ?_⟩) hHeld ?_
  rotate_left
  · (intro w hSw; obtain ⟨p0, p1, p2, p3, p4, p5, p6⟩ := hSw.r; go_simp; try with_reducible rfl)
  (try simp only [Act.put, List.setIfInBounds_toArray, List.set_cons_zero, List.set_cons_succ])
  refine wpAnyH_ready (rs := [1]) (by kernel_rfl) (by simp) (AllReadyH.cons (o := { dst := some 8, op := Op.call { callee := Callee.value (Operand.func 21), args := #[Operand.tmp 7], argTypes := #[45] }, type := 4, pos := "ref.go:128", after := #[{ on := 0, ground := Ground.data }], guard := none }) rfl (fun K hK => ?_) AllReadyH.nil)
  · go_simp
    refine (HA.out _).mono ?_
    rintro e wa ⟨rfl, hba⟩
    refine hK.out _ _ (hHeld.on hba) (fun hHeld => ?_)
    (try simp only [Act.put, List.setIfInBounds_toArray, List.set_cons_zero, List.set_cons_succ])
    refine wpAnyH_ready (rs := [3]) (by kernel_rfl) (by simp) (AllReadyH.cons (o := { dst := some 10, op := Op.call { callee := Callee.value (Operand.func 21), args := #[Operand.tmp 9], argTypes := #[45] }, type := 4, pos := "ref.go:128", after := #[{ on := 2, ground := Ground.data }, { on := 1, ground := Ground.chain }], guard := none }) rfl (fun K hK => ?_) AllReadyH.nil)
    · go_simp
      refine (HB.out _).mono ?_
      rintro e wa ⟨rfl, hba⟩
      refine hK.out _ _ (hHeld.on hba) (fun hHeld => ?_)
      (try simp only [Act.put, List.setIfInBounds_toArray, List.set_cons_zero, List.set_cons_succ])
      refine wpAnyH_take (i := 4) (oi := { dst := some 5, op := Op.assign (Operand.tmp 8), type := 4, pos := "ref.go:128", after := #[{ on := 1, ground := Ground.data }, { on := 3, ground := Ground.chain }, { on := 0, ground := Ground.phase }, { on := 1, ground := Ground.phase }, { on := 2, ground := Ground.textOnly Departure.lateStores }, { on := 3, ground := Ground.textOnly Departure.lateStoresUnsure }], guard := none }) (v := ?_) rfl (by kernel_rfl) (by kernel_rfl) (by kernel_rfl) (fun _ _ _ h => h) (Or.inl ⟨by rfl, ?_⟩) hHeld ?_
      rotate_left
      · (intro w hSw; go_simp; try with_reducible rfl)
      (try simp only [Act.put, List.setIfInBounds_toArray, List.set_cons_zero, List.set_cons_succ])
      refine wpAnyH_take (i := 5) (oi := { dst := some 6, op := Op.assign (Operand.tmp 10), type := 4, pos := "ref.go:128", after := #[{ on := 3, ground := Ground.data }, { on := 4, ground := Ground.chain }, { on := 0, ground := Ground.phase }, { on := 1, ground := Ground.phase }, { on := 2, ground := Ground.phase }, { on := 3, ground := Ground.phase }, { on := 4, ground := Ground.phase }], guard := none }) (v := ?_) rfl (by kernel_rfl) (by kernel_rfl) (by kernel_rfl) (fun _ _ _ h => h) (Or.inl ⟨by rfl, ?_⟩) hHeld ?_
      rotate_left
      · (intro w hSw; go_simp; try with_reducible rfl)
      (try simp only [Act.put, List.setIfInBounds_toArray, List.set_cons_zero, List.set_cons_succ])
      refine wpAnyH_done (by kernel_rfl) ?_ _
      have HT := Lib.hid hHeld
      clear hHeld
      obtain ⟨p0, p1, p2, p3, p4, p5, p6⟩ := HT.out.l
      obtain ⟨q0, q1, q2, q3, q4, q5, q6⟩ := HT.out.r
      go_wp2_with fail
      refine (hx _).mono ?_
      rintro e wH2 ⟨rfl, hz⟩
      have H2 := Lib.hid (HT.out.on hz)
      clear hz p0 p1 p2 p3 p4 p5 p6 q0 q1 q2 q3 q4 q5 q6
      obtain ⟨p0, p1, p2, p3, p4, p5, p6⟩ := H2.out.l
      obtain ⟨q0, q1, q2, q3, q4, q5, q6⟩ := H2.out.r
      go_wp2_with fail
      refine (hy _).mono ?_
      rintro e wH3 ⟨rfl, hz⟩
      have H3 := Lib.hid (H2.out.on hz)
      clear hz p0 p1 p2 p3 p4 p5 p6 q0 q1 q2 q3 q4 q5 q6
      obtain ⟨p0, p1, p2, p3, p4, p5, p6⟩ := H3.out.l
      obtain ⟨q0, q1, q2, q3, q4, q5, q6⟩ := H3.out.r
      go_wp2_with fail
      go_ret
      exact ⟨rfl, H3.out.low⟩

theorem rcompare_any (a b : Ver) (w : World) : Calls Tryz.prog 53 #[.agg a.arr, .agg b.arr] w fun e w' => e = .returned (.int .i64 (cmpW a b)) ∧ Below w.heap.size w w' := by
  have r := good_cmpV.rng a b
  have t := good_cmpV.anti a b
  unfold cmpW
  cases ha : a.ok <;> cases hb : b.ok
  · exact rc_ff a b (rights_of ha.symm) (rights_of hb.symm) w
  · exact rc_ft a b (rights_of ha.symm) (rights_of hb.symm) w
  · exact rc_tf a b (rights_of ha.symm) (rights_of hb.symm) w
  · simp only [if_true]
    rcases r with h | h | h
    · rw [h]
      exact rc_lt a b (rights_of ha.symm) (rights_of hb.symm) (aheads_of (decide_eq_true (by omega)).symm) w
    · rw [h]
      exact rc_eq a b (rights_of ha.symm) (rights_of hb.symm) (aheads_of (decide_eq_false (by omega)).symm) (aheads_of (decide_eq_false (by omega)).symm) w
    · rw [h]
      exact rc_gt a b (rights_of ha.symm) (rights_of hb.symm) (aheads_of (decide_eq_false (by omega)).symm) (aheads_of (decide_eq_true (by omega)).symm) w
end Go.Proofs.YtlfehjjnepiljaaGreatDoor

namespace Go.Proofs.YtlfehjjnepiljaaGreatDoor
open Go.RowKit Go.Shelf

theorem cat_b (a b : Str) : ofB (a ++ b) = ofB a ++ ofB b := by
  apply ByteArray.ext
  simp [ofB, ByteArray.data_append]
theorem dig_lit (n : Nat) : ((UInt8.ofNat (48 + n % 10)).toNat : Int) = 48 + (n : Int) % 10 := by
  rw [digit_nat (Nat.mod_lt _ (by omega))]
  omega
theorem addr_at (b j : Nat) : (⟨b, 0, none⟩ : Addr).add j = ⟨b, j, none⟩ := by
  unfold Addr.add
  split <;> simp_all
def Digs (n : Nat) : Prop := ∀ W, Calls Tryz.prog 63 #[.int .i64 (n : Int)] W fun e w' => e = .returned (.string (ofB (Lib.decDigits n))) ∧ Below W.heap.size W w'

set_option maxRecDepth 100000 in
set_option maxHeartbeats 1000000 in
theorem rdigits_any (n : Nat) (hn : n ≤ 9999) : Digs n := by
  induction n using Nat.strongRecOn with
  | ind n ih =>
    intro w
    obtain ⟨c, hc⟩ : ∃ c, c = UInt8.ofNat (48 + n % 10) := ⟨_, rfl⟩
    have hcv : (convert 112 9 (.slice (some ⟨w.heap.size, 0, none⟩) 1 1)).run Tryz.prog (w.alloc (.cells #[.int .u8 (48 + (n : Int) % 10)] 5)) = .ok (.string ⟨#[c]⟩) (w.alloc (.cells #[.int .u8 (48 + (n : Int) % 10)] 5)) := by
      refine run_convert_bytes_back (P := Tryz.prog) _ 112 9 5 ⟨w.heap.size, 0, none⟩ 1 [c] Tryz.underlying112 Tryz.underlying5 Tryz.underlying9 (fun j hj => ?_)
      have : j = 0 := by simpa using hj
      subst this
      rw [addr_at, World.cell?_alloc_new]
      simp only [List.getElem_cons_zero]
      rw [hc, dig_lit]
      rfl
    have hm0 : (0 : Int) ≤ (n : Int) % 10 := by omega
    have hm1 : (n : Int) % 10 ≤ 9 := by omega
    have hb0 := below_new w (.cells #[.int .u8 (48 + (n : Int) % 10)] 5)
    have r0 : (n : Int).tmod 10 = (n : Int) % 10 := Int.tmod_eq_emod_of_nonneg (by omega)
    have r1 : (n : Int).tdiv 10 = ((n / 10 : Nat) : Int) := by rw [Int.tdiv_eq_ediv_of_nonneg (by omega)]; omega
    have r2 : IntKind.i64.wrap (48 + (n : Int) % 10) = 48 + (n : Int) % 10 := IntWalk.i64_in _ (by omega)
    by_cases h : n < 10
    · have HD : Hid (ofB (Lib.decDigits n) = ⟨#[c]⟩) := Lib.hid (by rw [Lib.decDigits_one h, hc, Nat.mod_eq_of_lt h]; rfl)
      rw [HD.out]
      have t1 : decide ((n : Int) ≥ 10) = false := decide_eq_false (by omega)
      have t2 : decide ((10 : Int) ≤ (n : Int)) = false := decide_eq_false (by omega)
      clear ih hc
      go_enter Tryz.func63, Tryz.ntmps63
      go_wp2_with fail
      go_ret
      exact ⟨rfl, hb0⟩
    · have HD : Hid (ofB (Lib.decDigits n) = ofB (Lib.decDigits (n / 10)) ++ ⟨#[c]⟩) := Lib.hid (by rw [dec_big h, cat_b, hc]; rfl)
      rw [HD.out]
      have t1 : decide ((n : Int) ≥ 10) = true := decide_eq_true (by omega)
      have t2 : decide ((10 : Int) ≤ (n : Int)) = true := decide_eq_true (by omega)
      have hl : (ofB (Lib.decDigits (n / 10))).size ≤ 4 := nD_le (n / 10) (by omega)
      have HI := Lib.hid (ih (n / 10) (by omega) (by omega))
      clear ih hc
      go_enter Tryz.func63, Tryz.ntmps63
      go_wp2_with fail
      refine (HI.out _).mono ?_
      rintro e w1 ⟨rfl, hb1⟩
      go_wp2_with fail
      go_ret
      exact ⟨rfl, bch hb0 hb1⟩

theorem digs_of {x : Int} (h0 : 0 ≤ x) (h9 : x ≤ 9999) (W : World) : Calls Tryz.prog 63 #[.int .i64 x] W fun e w' => e = .returned (.string (ofB (Lib.decDigits x.toNat))) ∧ Below W.heap.size W w' := by
  have := rdigits_any x.toNat (by omega) W
  rw [show ((x.toNat : Nat) : Int) = x by omega] at this
  exact this
theorem size_ofB (l : Str) : (ofB l).size = l.length := rfl

set_option maxRecDepth 100000 in
set_option maxHeartbeats 4000000 in
theorem rtext_any (v : Ver) (hv : v.ok = true) (w : World) : Calls Tryz.prog 38 #[.agg v.arr] w fun e w' => e = .returned (.string (ofB v.text)) ∧ Below w.heap.size w w' := by
  obtain ⟨hm1, hm4⟩ := ok_many hv
  obtain ⟨k, hk⟩ : ∃ k : Nat, v.many = (k : Int) := ⟨v.many.toNat, by omega⟩
  have hnum : ∀ j, j < k → 0 ≤ v.num j ∧ v.num j ≤ 9999 := fun j hj => ok_num hv (by omega)
  have X0 : Box (w.alloc (.cells v.arr 45)) w.heap.size 45 v.arr := box_new
  have HB0 : Hid (Box (w.alloc (.cells v.arr 45)) w.heap.size 45 v.arr ∧ Below w.heap.size w (w.alloc (.cells v.arr 45))) := Lib.hid ⟨X0, below_new _ _⟩
  have c4 : (w.alloc (.cells v.arr 45)).cell? ⟨w.heap.size, 4, none⟩ = some (.int .i64 (k : Int)) := by rw [← hk]; exact X0.ver.c4
  have HNUM := Lib.hid hnum
  have hk4 : k ≤ 4 := by omega
  have HLEN : Hid (∀ j, j ≤ k → (dotsL v.num j).length ≤ 20) := Lib.hid (fun j hj => by
    have := dots_len v.num j (fun i hi => hnum i (by omega))
    omega)
  have HV := Lib.hid hv
  have HK := Lib.hid hk
  clear X0 hnum hv hm1 hm4 hk
  go_enter Tryz.func38, Tryz.ntmps38
  go_wp2_with fail
  go_loopw [3, 4, 7, 8, 9, 10, 11, 12, 13, 14, 15, 16, 17, 18, 19, 20, 21] (fun s _ i _ _ _ _ _ _ _ _ _ _ _ _ _ _ W => ∃ (j : Nat) (b : ByteArray), j ≤ k ∧ i = .int .i64 j ∧ s = .string b ∧ Hid (b = ofB (dotsL v.num j)) ∧ Hid (Box W w.heap.size 45 v.arr ∧ Below w.heap.size w W)) (fun _ _ i _ _ _ _ _ _ _ _ _ _ _ _ _ _ _ => k - (Lib.intOf i).toNat)
  case atStart => exact ⟨0, ⟨#[]⟩, Nat.zero_le _, rfl, rfl, Lib.hid rfl, HB0⟩
  case round =>
    obtain ⟨j, b, hj, rfl, rfl, HB, HX⟩ := hrel
    have hbs : b.size ≤ 20 := by rw [HB.out, size_ofB]; exact HLEN.out j hj
    by_cases hlt : j < k
    · have j1 : (j : Int) < (k : Int) := by omega
      have j2 : (0 : Int) ≤ (j : Int) := by omega
      have j3 : (j : Int) < 4 := by omega
      have j4 : IntKind.i64.wrap ((j : Int) + 1) = (j : Int) + 1 := IntWalk.i64_in _ (by omega)
      have cj := HX.out.1.ver.num (k := j) (by omega)
      obtain ⟨x, hx⟩ : ∃ x, x = v.num j := ⟨_, rfl⟩
      rw [← hx] at cj
      have hxb := HNUM.out j hlt
      rw [← hx] at hxb
      have HD := Lib.hid (digs_of hxb.1 hxb.2)
      have hdl : (ofB (Lib.decDigits x.toNat)).size ≤ 4 := nD_le x.toNat (by omega)
      have HS : Hid (ofB (dotsL v.num (j + 1)) = b ++ (if j = 0 then ⟨#[]⟩ else ⟨#[46]⟩) ++ ofB (Lib.decDigits x.toNat)) := Lib.hid (by
        rw [dotsL, cat_b, cat_b, ← hx, HB.out]
        split <;> rfl)
      clear hx hxb
      by_cases h0 : j = 0
      · subst h0
        have e0 : b ++ (⟨#[]⟩ : ByteArray) = b := by apply ByteArray.ext; simp [ByteArray.data_append]
        have HS2 : Hid (ofB (dotsL v.num (0 + 1)) = b ++ ofB (Lib.decDigits x.toNat)) := Lib.hid (by rw [HS.out, if_pos rfl, e0])
        clear HS e0
        go_wp2_with fail
        refine (HD.out _).mono ?_
        rintro e w1 ⟨rfl, hb⟩
        have H1 : Hid (Box w1 w.heap.size 45 v.arr ∧ Below w.heap.size w w1) := Lib.hid ⟨HX.out.1.on hb, bch HX.out.2 hb⟩
        clear hb HX
        go_wp2_with fail
        go_roundw
        case rel => exact ⟨1, _, hlt, rfl, rfl, Lib.hid HS2.out.symm, H1⟩
        case measure => simp [Lib.intOf]; omega
      · have d0 : decide ((j : Int) > 0) = true := decide_eq_true (by omega)
        have d1 : (j : Int) > 0 := by omega
        have HS2 : Hid (ofB (dotsL v.num (j + 1)) = b ++ ⟨#[46]⟩ ++ ofB (Lib.decDigits x.toNat)) := Lib.hid (by rw [HS.out, if_neg h0])
        clear HS h0
        go_wp2_with fail
        refine (HD.out _).mono ?_
        rintro e w1 ⟨rfl, hb⟩
        have H1 : Hid (Box w1 w.heap.size 45 v.arr ∧ Below w.heap.size w w1) := Lib.hid ⟨HX.out.1.on hb, bch HX.out.2 hb⟩
        clear hb HX
        go_wp2_with fail
        go_roundw
        case rel => exact ⟨j + 1, _, hlt, by go_num, rfl, Lib.hid HS2.out.symm, H1⟩
        case measure => simp [Lib.intOf]; omega
    · have hje : j = k := by omega
      have hj1 : ¬ ((j : Int) < (k : Int)) := by omega
      have hkn : v.many.toNat = k := by have := HK.out; omega
      have HE : Hid (ofB v.text = b ++ ofB (if v.tag.data.toList = [] then [] else 45 :: v.tag.data.toList) ++ ofB (if v.step = 0 then [] else Lib.decDigits v.step.toNat)) := Lib.hid (by
        unfold Ver.text
        rw [cat_b, cat_b, hkn, ← hje, ← HB.out])
      obtain ⟨wq, hwq⟩ : ∃ q, q = wr := ⟨_, rfl⟩
      rw [← hwq] at HX ⊢
      have c5 := HX.out.1.ver.c5
      have c6 := HX.out.1.ver.c6
      clear hje hlt hkn hwq
      by_cases ht : v.tag.data.toList = []
      · have hs := ok_step0 HV.out ht
        have htag : v.tag = ⟨#[]⟩ := ba_empty _ ht
        rw [htag] at c5
        rw [hs] at c6
        have HE2 : Hid (ofB v.text = b) := Lib.hid (by
          rw [HE.out, if_pos ht, if_pos hs]
          apply ByteArray.ext
          simp [ofB, ByteArray.data_append])
        clear ht hs htag HE
        go_wp2_with fail
        go_ret
        exact ⟨by rw [HE2.out]; rfl, HX.out.2⟩
      · have h6 := ok_tag HV.out ht
        obtain ⟨s0, s9⟩ := ok_stepb HV.out ht
        obtain ⟨t, htt⟩ : ∃ t, t = v.tag := ⟨_, rfl⟩
        obtain ⟨y, hy⟩ : ∃ y, y = v.step := ⟨_, rfl⟩
        rw [← htt] at c5
        rw [← hy] at c6 s0 s9
        have hts : t.size ≤ 6 := by rw [htt]; exact h6
        have f1 := isEmpty_no (l := t.toList) (by rw [Lib.toList_data, htt]; exact ht)
        have HE2 : Hid (ofB v.text = b ++ ((⟨#[45]⟩ : ByteArray) ++ t) ++ ofB (if y = 0 then [] else Lib.decDigits y.toNat)) := Lib.hid (by
          rw [HE.out, if_neg ht, ← hy, htt]
          congr 2)
        clear ht htt h6 HE
        by_cases hz : y = 0
        · have HE3 : Hid (ofB v.text = b ++ ((⟨#[45]⟩ : ByteArray) ++ t)) := Lib.hid (by
            rw [HE2.out, if_pos hz]
            apply ByteArray.ext
            simp [ofB, ByteArray.data_append])
          subst hz
          clear HE2 hy
          go_wp2_with fail
          go_ret
          exact ⟨by rw [HE3.out]; rfl, HX.out.2⟩
        · have HE3 : Hid (ofB v.text = b ++ ((⟨#[45]⟩ : ByteArray) ++ t) ++ ofB (Lib.decDigits y.toNat)) := Lib.hid (by rw [HE2.out, if_neg hz])
          have d2 : decide (y > 0) = true := decide_eq_true (by omega)
          have d3 : y > 0 := by omega
          have HD := Lib.hid (digs_of (x := y) (by omega) (by omega))
          have hdl : (ofB (Lib.decDigits y.toNat)).size ≤ 4 := nD_le y.toNat (by omega)
          clear HE2 hy hz
          go_wp2_with fail
          refine (HD.out _).mono ?_
          rintro e w1 ⟨rfl, hb⟩
          go_wp2_with fail
          go_ret
          exact ⟨by rw [HE3.out]; rfl, bch HX.out.2 hb⟩
end Go.Proofs.YtlfehjjnepiljaaGreatDoor

namespace Go.Proofs.YtlfehjjnepiljaaGreatDoor
open Go.RowKit Go.Shelf


/-- Three versions in their boxes, all else as it was. -/
structure Three (a b c : Ver) (ga gb gc : Nat) (w w' : World) : Prop where
  a : Box w' ga 45 a.arr
  b : Box w' gb 45 b.arr
  c : Box w' gc 45 c.arr
  low : Below w.heap.size w w'
theorem Three.on {a b c : Ver} {ga gb gc : Nat} {w w' w'' : World} (h : Three a b c ga gb gc w w') (hb : Below w'.heap.size w' w'') : Three a b c ga gb gc w w'' := ⟨h.a.on hb, h.b.on hb, h.c.on hb, bch h.low hb⟩
theorem Three.drew {a b c : Ver} {ga gb gc : Nat} {w w' : World} (h : Three a b c ga gb gc w w') : Three a b c ga gb gc w w'.drew := ⟨h.a, h.b, h.c, h.low.drew⟩
def Cmps (a b : Ver) (x : Int) : Prop := ∀ W, Calls Tryz.prog 31 #[.agg a.arr, .agg b.arr] W fun e w' => e = .returned (.int .i64 x) ∧ Below W.heap.size W w'
theorem cmps_of {a b : Ver} {x : Int} (h : x = cmpW a b) : Cmps a b x := fun W => by
  subst h
  exact comparew_any a b W
def Checks (a : Ver) (x : Int) : Prop := ∀ W, Calls Tryz.prog 30 #[.agg a.arr] W fun e w' => e = .returned (.int .i64 x) ∧ Below W.heap.size W w'
theorem checks_of {a : Ver} {o : Bool} (h : o = a.ok) : Checks a (if o then 0 else 140) := fun W => by
  subst h
  exact check_any a W
/-- A box that is read where the operation is guarded. -/
theorem guarded26 {ops : Array Oper} {rest : List Oper} {o : Oper} {a : Act} {w : World} {Q : Exit → Act → World → Prop} (hw : Region.wanted o (yielded ops a.tmps) = true) (x : Operand) (ho : o.op = .load 45 x) (g : Nat) (hx : a.eval x = .pointer (some ⟨g, 0, none⟩)) (v : Ver) (hg : Box w g 45 v.arr)
    (h : wpList Tryz.prog ops Q rest (a.put o.dst (.agg v.arr)) w) : wpList Tryz.prog ops Q (o :: rest) a w :=
  wpList_step fun K hK => by
    rw [if_pos hw]
    exact wp_load_row 45 x ho g hx 45 v.arr (0, 0) _ hg Tryz.underlying45 rfl (info26 v) (hK _ _ h)
end Go.Proofs.YtlfehjjnepiljaaGreatDoor

namespace Go.Proofs.YtlfehjjnepiljaaGreatDoor
open Go.RowKit Go.Shelf
end Go.Proofs.YtlfehjjnepiljaaGreatDoor

namespace Go.Proofs.YtlfehjjnepiljaaGreatDoor
open Go.RowKit Go.Shelf

/-- A row of versions that can be read. -/
def RdV (w : World) (x : Value) (l : List Ver) : Prop :=
  ∃ a c, x = .slice a l.length c ∧ l.length ≤ c ∧ c ≤ maxLen ∧ (0 < l.length → ∃ g o, a = some ⟨g, o, none⟩ ∧ g < w.heap.size ∧ ∀ (j : Nat) (v : Ver), l[j]? = some v →
    w.cell? ⟨g, o + j * 7, none⟩ = some (.int .i64 v.n0) ∧ w.cell? ⟨g, o + j * 7 + 1, none⟩ = some (.int .i64 v.n1) ∧ w.cell? ⟨g, o + j * 7 + 2, none⟩ = some (.int .i64 v.n2) ∧ w.cell? ⟨g, o + j * 7 + 3, none⟩ = some (.int .i64 v.n3) ∧ w.cell? ⟨g, o + j * 7 + 4, none⟩ = some (.int .i64 v.many) ∧ w.cell? ⟨g, o + j * 7 + 5, none⟩ = some (.string v.tag) ∧ w.cell? ⟨g, o + j * 7 + 6, none⟩ = some (.int .i64 v.step))
theorem RdV.nil (w : World) : RdV w (.slice none 0 0) [] := ⟨none, 0, rfl, Nat.le_refl _, Nat.zero_le _, fun h => absurd h (Nat.lt_irrefl _)⟩
theorem next_bare {v : Ver} (h : v.ok = true) : v.next = v.bare.incr (v.many.toNat - 1) := by
  unfold Ver.next
  rw [first_bare h]

set_option maxRecDepth 100000 in
theorem gbuild26 {ops : Array Oper} {rest : List Oper} {o : Oper} {a : Act} {w : World} {Q : Exit → Act → World → Prop} (hw : Region.wanted o (yielded ops a.tmps) = true) (ho : o.op = .build 45 #[]) (h : wpList Tryz.prog ops Q rest (a.put o.dst (.agg Ver.zero.arr)) w) : wpList Tryz.prog ops Q (o :: rest) a w := by
  have e : Tryz.prog.built 45 ((#[] : Array (Nat × Operand)).map fun (i, x) => (i, a.eval x)).toList = some Ver.zero.arr := (congrArg (Tryz.prog.built 45) (by simp)).trans zeroV
  exact wpList_step fun K hK => by
    rw [if_pos hw]
    exact wp_build 45 #[] ho (by rw [e]; rfl) (hK _ _ (by rw [e]; exact h))
end Go.Proofs.YtlfehjjnepiljaaGreatDoor

namespace Go.Proofs.YtlfehjjnepiljaaGreatDoor
open Go.RowKit Go.Shelf

def flatV (l : List Ver) : List Value := l.flatMap Ver.cells
theorem flatV_cons (v : Ver) (l : List Ver) : flatV (v :: l) = v.cells ++ flatV l := rfl
theorem flatV_append (a b : List Ver) : flatV (a ++ b) = flatV a ++ flatV b := List.flatMap_append
theorem cells_len (v : Ver) : v.cells.length = 7 := rfl
theorem flatV_len (l : List Ver) : (flatV l).length = l.length * 7 := by
  induction l with
  | nil => rfl
  | cons v l ih => rw [flatV_cons, List.length_append, ih, List.length_cons, cells_len]; omega
theorem flat7 (l : List Ver) (j r : Nat) (hr : r < 7) : (flatV l)[j * 7 + r]? = (l[j]?).bind fun v => v.cells[r]? := by
  induction l generalizing j with
  | nil => simp [flatV]
  | cons v l ih =>
    cases j with
    | zero =>
      rw [flatV_cons, Nat.zero_mul, Nat.zero_add, List.getElem?_append_left (by rw [cells_len]; exact hr)]
      rfl
    | succ j =>
      rw [flatV_cons, List.getElem?_append_right (by rw [cells_len]; omega), cells_len, show (j + 1) * 7 + r - 7 = j * 7 + r by omega, ih]
      rfl
theorem ver_one (v : Ver) : ∀ u ∈ v.cells, u.oneCell' = true := by
  intro u hu
  simp [Ver.cells] at hu
  rcases hu with rfl | rfl | rfl | rfl | rfl | rfl | rfl <;> rfl
theorem flatV_one (l : List Ver) : ∀ u ∈ flatV l, u.oneCell' = true := by
  intro u hu
  obtain ⟨v, _, hv⟩ := List.mem_flatMap.1 hu
  exact ver_one v u hv
theorem add_to (g o j : Nat) : (⟨g, o, none⟩ : Addr).add j = ⟨g, o + j, none⟩ := by
  unfold Addr.add
  split <;> simp_all

theorem RdV.flat {w : World} {x : Value} {l : List Ver} (h : RdV w x l) : ∃ (a : Option Addr) (cap : Nat), x = .slice a l.length cap ∧ l.length ≤ cap ∧ cap ≤ maxLen ∧ (0 < l.length → ∃ g o, a = some ⟨g, o, none⟩ ∧ g < w.heap.size ∧ ∀ (j : Nat) (u : Value), (flatV l)[j]? = some u → w.cell? ⟨g, o + j, none⟩ = some u) := by
  obtain ⟨a, cap, h1, h2, h3, h4⟩ := h
  refine ⟨a, cap, h1, h2, h3, fun h0 => ?_⟩
  obtain ⟨g, o, e, hg, hc⟩ := h4 h0
  refine ⟨g, o, e, hg, fun j u hu => ?_⟩
  obtain ⟨q, r, hr, rfl⟩ : ∃ q r, r < 7 ∧ j = q * 7 + r := ⟨j / 7, j % 7, by omega, by omega⟩
  rw [flat7 l q r hr] at hu
  obtain ⟨v, hv, hu⟩ := Option.bind_eq_some_iff.1 hu
  obtain ⟨c0, c1, c2, c3, c4, c5, c6⟩ := hc q v hv
  rw [← Nat.add_assoc]
  rcases (by omega : r = 0 ∨ r = 1 ∨ r = 2 ∨ r = 3 ∨ r = 4 ∨ r = 5 ∨ r = 6) with rfl | rfl | rfl | rfl | rfl | rfl | rfl
  · simp [Ver.cells] at hu; rw [← hu]; exact c0
  · simp [Ver.cells] at hu; rw [← hu]; exact c1
  · simp [Ver.cells] at hu; rw [← hu]; exact c2
  · simp [Ver.cells] at hu; rw [← hu]; exact c3
  · simp [Ver.cells] at hu; rw [← hu]; exact c4
  · simp [Ver.cells] at hu; rw [← hu]; exact c5
  · simp [Ver.cells] at hu; rw [← hu]; exact c6
theorem RdV.of_flat {w : World} {l : List Ver} {a : Option Addr} {cap : Nat} (h2 : l.length ≤ cap) (h3 : cap ≤ maxLen) (h4 : 0 < l.length → ∃ g o, a = some ⟨g, o, none⟩ ∧ g < w.heap.size ∧ ∀ (j : Nat) (u : Value), (flatV l)[j]? = some u → w.cell? ⟨g, o + j, none⟩ = some u) : RdV w (.slice a l.length cap) l := by
  refine ⟨a, cap, rfl, h2, h3, fun h0 => ?_⟩
  obtain ⟨g, o, e, hg, hc⟩ := h4 h0
  refine ⟨g, o, e, hg, fun j v hv => ?_⟩
  have key : ∀ r u, r < 7 → v.cells[r]? = some u → w.cell? ⟨g, o + j * 7 + r, none⟩ = some u := fun r u hr hu => by
    have := flat7 l j r hr
    rw [hv] at this
    rw [Nat.add_assoc]
    exact hc (j * 7 + r) u (this.trans hu)
  exact ⟨key 0 _ (by omega) rfl, key 1 _ (by omega) rfl, key 2 _ (by omega) rfl, key 3 _ (by omega) rfl, key 4 _ (by omega) rfl, key 5 _ (by omega) rfl, key 6 _ (by omega) rfl⟩
theorem RdV.of_own {w : World} {B : Nat} {x : Value} {l : List Ver} (h : w.ownsRow B 45 7 x l.length (flatV l)) : RdV w x l := by
  have hx := h
  rcases h.2 with ⟨rfl, h0⟩ | ⟨g, cap, cur, rfl, _, hg, h2, h3, _⟩
  · have : l = [] := List.eq_nil_of_length_eq_zero h0
    subst this
    exact RdV.nil w
  · exact RdV.of_flat h2 h3 fun _ => ⟨g, 0, rfl, (hx.lt g rfl).2, fun j u hu => by
      have := hx.cells (g := g) rfl j u hu
      rw [add_to] at this
      exact this⟩
theorem RdV.on {w w' : World} {x : Value} {l : List Ver} (h : RdV w x l) (hb : Below w.heap.size w w') : RdV w' x l := by
  obtain ⟨a, cap, h1, h2, h3, h4⟩ := h.flat
  subst h1
  refine RdV.of_flat h2 h3 fun h0 => ?_
  obtain ⟨g, o, e, hg, hc⟩ := h4 h0
  exact ⟨g, o, e, Nat.lt_of_lt_of_le hg hb.size, fun j u hu => (hb.cell (p := ⟨g, _, none⟩) hg).trans (hc j u hu)⟩

theorem info26z : (Tryz.prog.info? 45).map (fun i => (i.zero, i.size, i.bytes)) = some (some (.agg Ver.zero.arr), 7, 64) := by kernel_rfl

set_option maxRecDepth 100000 in
set_option maxHeartbeats 2000000 in
theorem clone_any (l : List Ver) (x : Value) (w : World) (hx : RdV w x l) (hl : l.length ≤ 1000000) :
    Calls Tryz.prog 19 #[x] w fun e w' => ∃ x', e = .returned x' ∧ w'.ownsRow w.heap.size 45 7 x' l.length (flatV l) ∧ Below w.heap.size w w' := by
  obtain ⟨a, cap, rfl, hlc, hcm, hcell⟩ := hx.flat
  obtain ⟨i0, hi, hz0, hz1, hz2⟩ := info_parts info26z
  have q33 : ∀ (w : World) (a : Option Addr) (n c n' c' : Nat), (binOp .eql 41 (.slice a n c) (.slice none n' c')).run Tryz.prog w = .ok (.bool a.isNone) w := fun w a n c n' c' => Lib.run_eql_slice_nil w _ _ a n c n' c' Tryz.underlying41
  cases a with
  | none =>
    have h0 : l.length = 0 := by
      rcases Nat.eq_zero_or_pos l.length with h | h
      · exact h
      · obtain ⟨g, o, e, _⟩ := hcell h; cases e
    have : l = [] := List.eq_nil_of_length_eq_zero h0
    subst this
    clear hcell hx
    go_enter Tryz.func19, Tryz.ntmps19
    go_wp2
    go_ret
    exact ⟨_, rfl, World.ownsRow_nil _ _ _ _, Below.refl _ _⟩
  | some ad =>
    have hnews : ∀ (j : Nat) (u : Value), (flatV l)[j]? = some u → (w.alloc (.cells #[] 45)).cell? (ad.add j) = some u := fun j u hu => by
      have h0 : 0 < l.length := by
        have := (List.getElem?_eq_some_iff.1 hu).1
        rw [flatV_len] at this
        omega
      obtain ⟨g, o, e, hg, hc⟩ := hcell h0
      cases e
      rw [add_to]
      exact Lib.cell?_alloc_some _ (hc j u hu)
    obtain ⟨n, hn⟩ : ∃ n, n = l.length := ⟨_, rfl⟩
    have hfl := flatV_len l
    rw [← hn] at hfl hl hlc
    rw [← hn]
    have HFL := Lib.hid hfl
    have HNW := Lib.hid hnews
    clear hcell hx hn hfl hnews
    go_enter Tryz.func19, Tryz.ntmps19
    go_wp2_with (at_builtin; refine wpList_append_own _ rfl _ _ 41 rfl w.heap.size 45 i0 (.agg Ver.zero.arr) 7 64 Tryz.underlying41 hi hz0 hz1 hz2 rfl (by decide) _ _ _ rfl (World.ownsRow_made w #[] 0 (Nat.le_refl _) (Nat.zero_le _) rfl) ad n cap (flatV l) rfl HFL.out HNW.out (flatV_one l) (by unfold maxLen; omega) (by omega) (by simp) ?_)
    intro v' w1 hown hgrow _
    go_wp2
    go_ret
    refine ⟨v', rfl, by simpa using hown, ?_⟩
    exact ((Below.refl _ w).alloc (Nat.le_refl _) _).grown hgrow (by simp) (by intro k hk; simp [Value.ownBlock] at hk; omega)

def EqR (w : World) (e : Ending) (w' : World) : Prop := e = .returned (.bool true) ∧ Below w.heap.size w w'
theorem guard26 : Tryz.prog.eqGuardType Tryz.prog.depth 45 = false := by kernel_rfl

set_option maxRecDepth 100000 in
set_option maxHeartbeats 4000000 in
theorem equal_any (l : List Ver) (v1 v2 : Value) (w : World) (h1 : RdV w v1 l) (h2 : RdV w v2 l) : Calls Tryz.prog 23 #[v1, v2] w (EqR w) := by
  obtain ⟨a1, cap1, rfl, hlc1, hcm1, hc1⟩ := h1
  obtain ⟨a2, cap2, rfl, hlc2, hcm2, hc2⟩ := h2
  unfold maxLen at hcm1 hcm2
  obtain ⟨n, hn⟩ : ∃ n, n = l.length := ⟨_, rfl⟩
  rw [← hn] at hlc1 hlc2 hc1 hc2
  rw [← hn]
  have HN := Lib.hid hn
  have H1 := Lib.hid hc1
  have H2 := Lib.hid hc2
  clear hn hc1 hc2
  have t0 : ((n : Int) == (n : Int)) = true := by simp
  go_enter Tryz.func23, Tryz.ntmps23
  go_wp2
  go_loopw [5, 13, 14, 15, 16, 17, 18, 19, 20, 21, 22, 23, 24, 25] (fun _ i _ _ _ _ _ _ _ _ _ _ _ _ wr => ∃ k : Nat, k ≤ n ∧ i = .int .i64 k ∧ Below w.heap.size w wr) (fun _ i _ _ _ _ _ _ _ _ _ _ _ _ _ => n - (Lib.intOf i).toNat)
  case atStart => exact ⟨0, Nat.zero_le _, rfl, Below.refl _ _⟩
  case round =>
    obtain ⟨k, hk, rfl, hB⟩ := hrel
    by_cases hlt : k < n
    · obtain ⟨p, hp⟩ : ∃ p, l[k]? = some p := ⟨_, List.getElem?_eq_getElem (by have := HN.out; omega)⟩
      obtain ⟨g1, o1, rfl, hg1, hc1⟩ := H1.out (by omega)
      obtain ⟨g2, o2, rfl, hg2, hc2⟩ := H2.out (by omega)
      obtain ⟨q0, q1, q2, q3, q4, q5, q6⟩ := hc1 k p hp
      obtain ⟨s0, s1, s2, s3, s4, s5, s6⟩ := hc2 k p hp
      have r0 := (hB.cell (p := ⟨g1, _, none⟩) hg1).trans q0
      have r1 := (hB.cell (p := ⟨g1, _, none⟩) hg1).trans q1
      have r2 := (hB.cell (p := ⟨g1, _, none⟩) hg1).trans q2
      have r3 := (hB.cell (p := ⟨g1, _, none⟩) hg1).trans q3
      have r4 := (hB.cell (p := ⟨g1, _, none⟩) hg1).trans q4
      have r5 := (hB.cell (p := ⟨g1, _, none⟩) hg1).trans q5
      have r6 := (hB.cell (p := ⟨g1, _, none⟩) hg1).trans q6
      have x0 := (hB.cell (p := ⟨g2, _, none⟩) hg2).trans s0
      have x1 := (hB.cell (p := ⟨g2, _, none⟩) hg2).trans s1
      have x2 := (hB.cell (p := ⟨g2, _, none⟩) hg2).trans s2
      have x3 := (hB.cell (p := ⟨g2, _, none⟩) hg2).trans s3
      have x4 := (hB.cell (p := ⟨g2, _, none⟩) hg2).trans s4
      have x5 := (hB.cell (p := ⟨g2, _, none⟩) hg2).trans s5
      have x6 := (hB.cell (p := ⟨g2, _, none⟩) hg2).trans s6
      have hne : ∀ W, (binOp .neq 45 (.agg #[.int .i64 p.n0, .int .i64 p.n1, .int .i64 p.n2, .int .i64 p.n3, .int .i64 p.many, .string p.tag, .int .i64 p.step]) (.agg #[.int .i64 p.n0, .int .i64 p.n1, .int .i64 p.n2, .int .i64 p.n3, .int .i64 p.many, .string p.tag, .int .i64 p.step])).run Tryz.prog W = .ok (.bool false) W := fun W => by
        have e := eq26 p p W
        rw [decide_eq_true rfl] at e
        rw [run_neq_struct]
        have e' : (Op.equalIn 10000 45 (.agg #[.int .i64 p.n0, .int .i64 p.n1, .int .i64 p.n2, .int .i64 p.n3, .int .i64 p.many, .string p.tag, .int .i64 p.step]) (.agg #[.int .i64 p.n0, .int .i64 p.n1, .int .i64 p.n2, .int .i64 p.n3, .int .i64 p.many, .string p.tag, .int .i64 p.step])).run Tryz.prog W = .ok true W := e
        rw [e']
        rfl
      have hgd := guard26
      clear q0 q1 q2 q3 q4 q5 q6 s0 s1 s2 s3 s4 s5 s6 hc1 hc2 hp
      go_wp2
      go_region
      go_wp2
      go_roundw
      case rel => exact ⟨k + 1, hlt, by go_num, hB.drew⟩
      case measure => simp [Lib.intOf]; omega
    · go_wp2
      go_ret
      exact ⟨rfl, hB⟩
end Go.Proofs.YtlfehjjnepiljaaGreatDoor

namespace Go.Proofs.YtlfehjjnepiljaaGreatDoor
open Go.RowKit Go.Shelf

def flatB (l : List Bd) : List Value := l.flatMap Bd.cells
theorem flatB_cons (v : Bd) (l : List Bd) : flatB (v :: l) = v.cells ++ flatB l := rfl
theorem flatB_append (a b : List Bd) : flatB (a ++ b) = flatB a ++ flatB b := List.flatMap_append
theorem bcells_len (v : Bd) : v.cells.length = 8 := rfl
theorem flatB_len (l : List Bd) : (flatB l).length = l.length * 8 := by
  induction l with
  | nil => rfl
  | cons v l ih => rw [flatB_cons, List.length_append, ih, List.length_cons, bcells_len]; omega
theorem flat8 (l : List Bd) (j r : Nat) (hr : r < 8) : (flatB l)[j * 8 + r]? = (l[j]?).bind fun v => v.cells[r]? := by
  induction l generalizing j with
  | nil => simp [flatB]
  | cons v l ih =>
    cases j with
    | zero =>
      rw [flatB_cons, Nat.zero_mul, Nat.zero_add, List.getElem?_append_left (by rw [bcells_len]; exact hr)]
      rfl
    | succ j =>
      rw [flatB_cons, List.getElem?_append_right (by rw [bcells_len]; omega), bcells_len, show (j + 1) * 8 + r - 8 = j * 8 + r by omega, ih]
      rfl
theorem bd_one (v : Bd) : ∀ u ∈ v.cells, u.oneCell' = true := by
  intro u hu
  unfold Bd.cells at hu
  rcases List.mem_cons.1 hu with rfl | hu
  · rfl
  · exact ver_one v.ver u hu
theorem flatB_one (l : List Bd) : ∀ u ∈ flatB l, u.oneCell' = true := by
  intro u hu
  obtain ⟨v, _, hv⟩ := List.mem_flatMap.1 hu
  exact bd_one v u hv
theorem flatB_take (l : List Bd) (k : Nat) : flatB (l.take k) = (flatB l).take (k * 8) := by
  induction l generalizing k with
  | nil => simp [flatB]
  | cons v l ih =>
    cases k with
    | zero => simp [flatB]
    | succ k =>
      rw [List.take_succ_cons, flatB_cons, flatB_cons, ih, show (k + 1) * 8 = v.cells.length + k * 8 by rw [bcells_len]; omega, List.take_append, Nat.add_sub_cancel_left, List.take_of_length_le (l := v.cells) (by omega)]

/-- A slice of n elements that reads as these cells. -/
def RdF (w : World) (x : Value) (n : Nat) (xs : List Value) : Prop :=
  ∃ a c, x = .slice a n c ∧ n ≤ c ∧ c ≤ maxLen ∧ (0 < n → ∃ g o, a = some ⟨g, o, none⟩ ∧ g < w.heap.size ∧ ∀ (j : Nat) (u : Value), xs[j]? = some u → w.cell? ⟨g, o + j, none⟩ = some u)
theorem RdF.nil (w : World) : RdF w (.slice none 0 0) 0 [] := ⟨none, 0, rfl, Nat.le_refl _, Nat.zero_le _, fun h => absurd h (Nat.lt_irrefl _)⟩
theorem RdF.on {w w' : World} {x : Value} {n : Nat} {xs : List Value} (h : RdF w x n xs) (hb : Below w.heap.size w w') : RdF w' x n xs := by
  obtain ⟨a, c, h1, h2, h3, h4⟩ := h
  refine ⟨a, c, h1, h2, h3, fun h0 => ?_⟩
  obtain ⟨g, o, e, hg, hc⟩ := h4 h0
  exact ⟨g, o, e, Nat.lt_of_lt_of_le hg hb.size, fun j u hu => (hb.cell (p := ⟨g, _, none⟩) hg).trans (hc j u hu)⟩
theorem RdF.of_own {w : World} {B s n : Nat} {e : TypeId} {x : Value} {xs : List Value} (h : w.ownsRow B e s x n xs) : RdF w x n xs := by
  have hx := h
  rcases h.2 with ⟨rfl, rfl⟩ | ⟨g, cap, cur, rfl, _, hg, h2, h3, _⟩
  · exact ⟨none, 0, rfl, Nat.le_refl _, Nat.zero_le _, fun h => absurd h (Nat.lt_irrefl _)⟩
  · exact ⟨_, _, rfl, h2, h3, fun _ => ⟨g, 0, rfl, (hx.lt g rfl).2, fun j u hu => by
      have := hx.cells (g := g) rfl j u hu
      rw [add_to] at this
      exact this⟩⟩
def RdB (w : World) (x : Value) (l : List Bd) : Prop := RdF w x l.length (flatB l)
theorem RdB.on {w w' : World} {x : Value} {l : List Bd} (h : RdB w x l) (hb : Below w.heap.size w w') : RdB w' x l := RdF.on h hb
/-- The eight cells of a bound. -/
structure BAt (w : World) (g o : Nat) (b : Bd) : Prop where
  c0 : w.cell? ⟨g, o, none⟩ = some (.int .i64 b.kind)
  c1 : w.cell? ⟨g, o + 1, none⟩ = some (.int .i64 b.ver.n0)
  c2 : w.cell? ⟨g, o + 2, none⟩ = some (.int .i64 b.ver.n1)
  c3 : w.cell? ⟨g, o + 3, none⟩ = some (.int .i64 b.ver.n2)
  c4 : w.cell? ⟨g, o + 4, none⟩ = some (.int .i64 b.ver.n3)
  c5 : w.cell? ⟨g, o + 5, none⟩ = some (.int .i64 b.ver.many)
  c6 : w.cell? ⟨g, o + 6, none⟩ = some (.string b.ver.tag)
  c7 : w.cell? ⟨g, o + 7, none⟩ = some (.int .i64 b.ver.step)
theorem bat_of {w : World} {g o : Nat} {l : List Bd} (hc : ∀ (j : Nat) (u : Value), (flatB l)[j]? = some u → w.cell? ⟨g, o + j, none⟩ = some u) (j : Nat) (b : Bd) (hj : l[j]? = some b) : BAt w g (o + j * 8) b := by
  have key : ∀ r u, r < 8 → b.cells[r]? = some u → w.cell? ⟨g, o + j * 8 + r, none⟩ = some u := fun r u hr hu => by
    have := flat8 l j r hr
    rw [hj] at this
    rw [Nat.add_assoc]
    exact hc (j * 8 + r) u (this.trans hu)
  exact ⟨key 0 _ (by omega) rfl, key 1 _ (by omega) rfl, key 2 _ (by omega) rfl, key 3 _ (by omega) rfl, key 4 _ (by omega) rfl, key 5 _ (by omega) rfl, key 6 _ (by omega) rfl, key 7 _ (by omega) rfl⟩
theorem BAt.on {w w' : World} {g o : Nat} {b : Bd} (h : BAt w g o b) (hg : g < w.heap.size) (hb : Below w.heap.size w w') : BAt w' g o b :=
  have k : ∀ r u, w.cell? ⟨g, r, none⟩ = some u → w'.cell? ⟨g, r, none⟩ = some u := fun _ _ hu => (hb.cell (p := ⟨g, _, none⟩) hg).trans hu
  ⟨k _ _ h.c0, k _ _ h.c1, k _ _ h.c2, k _ _ h.c3, k _ _ h.c4, k _ _ h.c5, k _ _ h.c6, k _ _ h.c7⟩
theorem Box.bd {w : World} {g : Nat} {t : TypeId} {b : Bd} (h : Box w g t b.arr) : BAt w g 0 b := ⟨h.cell rfl, h.cell rfl, h.cell rfl, h.cell rfl, h.cell rfl, h.cell rfl, h.cell rfl, h.cell rfl⟩
/-- Rows of bounds that can be read. -/
def RdR (w : World) (x : Value) (ls : List (List Bd)) : Prop :=
  ∃ vs : List Value, RdF w x vs.length vs ∧ vs.length = ls.length ∧ ∀ (i : Nat) (v : Value) (l : List Bd), vs[i]? = some v → ls[i]? = some l → RdB w v l
theorem RdR.on {w w' : World} {x : Value} {ls : List (List Bd)} (h : RdR w x ls) (hb : Below w.heap.size w w') : RdR w' x ls := by
  obtain ⟨vs, h1, h2, h3⟩ := h
  exact ⟨vs, h1.on hb, h2, fun i v l hv hl => (h3 i v l hv hl).on hb⟩
theorem RdR.nil (w : World) : RdR w (.slice none 0 0) [] := ⟨[], RdF.nil w, rfl, fun i v l h => by cases h⟩
/-- What a walk over rows needs of them. -/
theorem RdR.open {w : World} {x : Value} {ls : List (List Bd)} (h : RdR w x ls) : ∃ a c, x = .slice a ls.length c ∧ ls.length ≤ c ∧ c ≤ maxLen ∧
    (0 < ls.length → ∃ g o, a = some ⟨g, o, none⟩ ∧ g < w.heap.size ∧ ∀ (j : Nat) (l : List Bd), ls[j]? = some l → ∃ v, w.cell? ⟨g, o + j, none⟩ = some v ∧ RdB w v l) := by
  obtain ⟨vs, ⟨a, c, h1, h2, h3, h4⟩, hl, hr⟩ := h
  rw [hl] at h1 h2 h4
  refine ⟨a, c, h1, h2, h3, fun h0 => ?_⟩
  obtain ⟨g, o, e, hg, hc⟩ := h4 h0
  refine ⟨g, o, e, hg, fun j l hj => ?_⟩
  have hjl := (List.getElem?_eq_some_iff.1 hj).1
  have hv : vs[j]? = some vs[j] := List.getElem?_eq_getElem (by omega)
  exact ⟨_, hc j _ hv, hr j _ l hv hj⟩
theorem RdB.open {w : World} {x : Value} {l : List Bd} (h : RdB w x l) : ∃ a c, x = .slice a l.length c ∧ l.length ≤ c ∧ c ≤ maxLen ∧
    (0 < l.length → ∃ g o, a = some ⟨g, o, none⟩ ∧ g < w.heap.size ∧ ∀ (j : Nat) (b : Bd), l[j]? = some b → BAt w g (o + j * 8) b) := by
  obtain ⟨a, c, h1, h2, h3, h4⟩ := h
  refine ⟨a, c, h1, h2, h3, fun h0 => ?_⟩
  obtain ⟨g, o, e, hg, hc⟩ := h4 h0
  exact ⟨g, o, e, hg, fun j b hj => bat_of hc j b hj⟩
theorem zeroB : Tryz.prog.built 57 [] = some Bd.zero.arr := by kernel_rfl
theorem zero57 : (Tryz.prog.info? 57).map (·.zero) = some (some (.agg Bd.zero.arr)) := by kernel_rfl
theorem info57 (b : Bd) : (Tryz.prog.info? 57).map (·.size) = some b.arr.size := by
  show _ = some 8
  kernel_rfl
theorem info57z : (Tryz.prog.info? 57).map (fun i => (i.zero, i.size, i.bytes)) = some (some (.agg Bd.zero.arr), 8, 72) := by kernel_rfl
theorem barr_one (b : Bd) : (b.arr).all (·.oneCell') = true := by
  simp [Bd.arr, Value.oneCell']
end Go.Proofs.YtlfehjjnepiljaaGreatDoor

namespace Go.Proofs.YtlfehjjnepiljaaGreatDoor
open Go.RowKit Go.Shelf

theorem fits_no {r : List (List Bd)} (h : ¬ r.length ≤ 4 ∨ ∃ l ∈ r, ¬ l.length ≤ 4) : fitsB r = false := by
  unfold fitsB
  rcases h with h | ⟨l, hl, h⟩
  · rw [decide_eq_false h]; rfl
  · rw [Bool.and_eq_false_iff]
    right
    rw [List.all_eq_false]
    exact ⟨l, hl, by simpa using h⟩
theorem fits_yes {r : List (List Bd)} (h1 : r.length ≤ 4) (h2 : ∀ (j : Nat) (l : List Bd), r[j]? = some l → l.length ≤ 4) : fitsB r = true := by
  unfold fitsB
  rw [decide_eq_true h1, Bool.true_and]
  refine List.all_eq_true.2 fun l hl => ?_
  obtain ⟨j, hj⟩ := List.mem_iff_getElem?.1 hl
  exact decide_eq_true (h2 j l hj)

set_option maxRecDepth 100000 in
set_option maxHeartbeats 1000000 in
theorem fits_any (ls : List (List Bd)) (x : Value) (w : World) (hx : RdR w x ls) : Calls Tryz.prog 59 #[x] w fun e w' => e = .returned (.bool (fitsB ls)) ∧ w = w' := by
  obtain ⟨a, c, rfl, hlc, hcm, hcell⟩ := hx.open
  have HC := Lib.hid hcell
  obtain ⟨n, hn⟩ : ∃ n, n = ls.length := ⟨_, rfl⟩
  rw [← hn] at hlc HC ⊢
  have HN := Lib.hid hn
  unfold maxLen at hcm
  clear hn hcell hx
  by_cases h4 : n ≤ 4
  · have d4 : decide ((n : Int) > 4) = false := decide_eq_false (by omega)
    go_enter Tryz.func59, Tryz.ntmps59
    go_wp2_with fail
    go_loop [4, 10, 11, 12, 13, 14, 15, 16, 17] (fun _ i _ _ _ _ _ _ _ => ∃ k : Nat, k ≤ n ∧ i = .int .i64 k ∧ Hid (∀ (j : Nat) (l : List Bd), j < k → ls[j]? = some l → l.length ≤ 4)) (fun _ i _ _ _ _ _ _ _ => n - (Lib.intOf i).toNat)
    case atStart => exact ⟨0, Nat.zero_le _, rfl, Lib.hid (fun j l h => absurd h (Nat.not_lt_zero _))⟩
    case round =>
      obtain ⟨k, hk, rfl, HK⟩ := hrel
      by_cases hlt : k < n
      · obtain ⟨l, hl⟩ : ∃ v, ls[k]? = some v := ⟨_, List.getElem?_eq_getElem (by have := HN.out; omega)⟩
        obtain ⟨g, o, rfl, hg, hc⟩ := HC.out (by omega)
        obtain ⟨v, hv, hr⟩ := hc k l hl
        obtain ⟨a2, c2, rfl, hlc2, hcm2, _⟩ := hr.open
        obtain ⟨m, hm⟩ : ∃ m, m = l.length := ⟨_, rfl⟩
        rw [← hm] at hlc2 hv
        unfold maxLen at hcm2
        have HM := Lib.hid hm
        have HL := Lib.hid hl
        have k1 : (k : Int) < (n : Int) := by omega
        have k2 : (0 : Int) ≤ (k : Int) := by omega
        have k4 : IntKind.i64.wrap ((k : Int) + 1) = (k : Int) + 1 := IntWalk.i64_in _ (by omega)
        clear hm hl hr hc
        by_cases hm4 : m ≤ 4
        · have e4 : decide ((m : Int) > 4) = false := decide_eq_false (by omega)
          go_wp2_with fail
          go_round
          case rel =>
            refine ⟨k + 1, hlt, by go_num, Lib.hid (fun j y hj hy => ?_)⟩
            by_cases hjk : j < k
            · exact HK.out j y hjk hy
            · obtain rfl : j = k := by omega
              obtain rfl := Option.some.inj (HL.out.symm.trans hy)
              rw [← HM.out]; exact hm4
          case measure => simp [Lib.intOf]; omega
        · have e4 : decide ((m : Int) > 4) = true := decide_eq_true (by omega)
          have HF : Hid (fitsB ls = false) := Lib.hid (fits_no (.inr ⟨l, List.mem_of_getElem? HL.out, by rw [← HM.out]; exact hm4⟩))
          go_wp2_with fail
          go_ret
          exact ⟨ret_bool HF.out.symm, rfl⟩
      · have k1 : ¬ ((k : Int) < (n : Int)) := by omega
        have HF : Hid (fitsB ls = true) := Lib.hid (fits_yes (by have := HN.out; omega) (fun j l hj => HK.out j l (by have := (List.getElem?_eq_some_iff.1 hj).1; have := HN.out; omega) hj))
        go_wp2_with fail
        go_ret
        exact ⟨ret_bool HF.out.symm, rfl⟩
  · have d4 : decide ((n : Int) > 4) = true := decide_eq_true (by omega)
    have HF : Hid (fitsB ls = false) := Lib.hid (fits_no (.inl (by have := HN.out; omega)))
    go_enter Tryz.func59, Tryz.ntmps59
    go_wp2_with fail
    go_ret
    exact ⟨ret_bool HF.out.symm, rfl⟩

theorem bd_no {b : Bd} (h : b.kind < 1 ∨ b.kind > 7 ∨ b.ver.ok = false ∨ (b.kind = 7 ∧ b.ver.tag.data.toList ≠ [])) : b.ok = false := by
  unfold Bd.ok
  rcases h with h | h | h | ⟨h1, h2⟩
  · rw [decide_eq_false (by omega : ¬ (1 ≤ b.kind ∧ b.kind ≤ 7))]; rfl
  · rw [decide_eq_false (by omega : ¬ (1 ≤ b.kind ∧ b.kind ≤ 7))]; rfl
  · rw [h]; simp
  · rw [decide_eq_false (fun h => h h1 : ¬ (b.kind ≠ 7)), decide_eq_false h2]; simp
theorem bd_yes {b : Bd} (h1 : 1 ≤ b.kind ∧ b.kind ≤ 7) (h2 : b.ver.ok = true) (h3 : b.kind ≠ 7 ∨ b.ver.tag.data.toList = []) : b.ok = true := by
  unfold Bd.ok
  rw [decide_eq_true h1, h2]
  rcases h3 with h | h
  · rw [decide_eq_true h]; rfl
  · rw [decide_eq_true h]; simp
theorem bchecks_of {v : Ver} {o : Bool} (h : o = v.ok) (W : World) : Calls Tryz.prog 30 #[.agg v.arr] W fun e w' => e = .returned (.int .i64 (if o then 0 else 140)) ∧ Below W.heap.size W w' := by
  rw [h]; exact check_any v W

set_option maxRecDepth 100000 in
set_option maxHeartbeats 1000000 in
theorem validb_any (b : Bd) (w : World) : Calls Tryz.prog 60 #[.agg b.arr] w fun e w' => e = .returned (.bool b.ok) ∧ Below w.heap.size w w' := by
  have X : Box (w.alloc (.cells b.arr 57)) w.heap.size 57 b.arr := box_new
  obtain ⟨c0, c1, c2, c3, c4, c5, c6, c7⟩ := X.bd
  have hB := Lib.hid (below_new w (.cells b.arr 57))
  have XX := Lib.hid X
  clear X
  by_cases k1 : b.kind < 1
  · have d1 : decide (b.kind < 1) = true := decide_eq_true k1
    have HF := Lib.hid (bd_no (.inl k1))
    go_enter Tryz.func60, Tryz.ntmps60
    go_wp2_with fail
    go_ret
    exact ⟨ret_bool HF.out.symm, hB.out⟩
  · have d1 : decide (b.kind < 1) = false := decide_eq_false k1
    by_cases k7 : b.kind > 7
    · have d7 : decide (b.kind > 7) = true := decide_eq_true k7
      have HF := Lib.hid (bd_no (.inr (.inl k7)))
      go_enter Tryz.func60, Tryz.ntmps60
      go_wp2_with fail
      go_ret
      exact ⟨ret_bool HF.out.symm, hB.out⟩
    · have d7 : decide (b.kind > 7) = false := decide_eq_false k7
      obtain ⟨o, ho⟩ : ∃ o, o = b.ver.ok := ⟨_, rfl⟩
      have HA := Lib.hid (fun W => bchecks_of ho W)
      have HO := Lib.hid ho
      clear ho
      cases o with
      | false =>
        have HF : Hid (b.ok = false) := Lib.hid (bd_no (.inr (.inr (.inl HO.out.symm))))
        go_enter Tryz.func60, Tryz.ntmps60
        go_wp2_with fail
        refine (HA.out _).mono ?_
        rintro e w1 ⟨rfl, hb⟩
        have hB2 := Lib.hid (bch hB.out hb)
        go_wp2_with fail
        go_ret
        exact ⟨ret_bool HF.out.symm, hB2.out⟩
      | true =>
        by_cases e7 : b.kind = 7
        · have d8 : (b.kind != 7) = false := by simp [e7]
          by_cases ht : b.ver.tag.data.toList = []
          · have HF : Hid (b.ok = true) := Lib.hid (bd_yes (by omega) HO.out.symm (.inr ht))
            have hte := isEmpty_yes ht
            clear ht e7
            go_enter Tryz.func60, Tryz.ntmps60
            go_wp2_with fail
            refine (HA.out _).mono ?_
            rintro e w1 ⟨rfl, hb⟩
            have hB2 := Lib.hid (bch hB.out hb)
            obtain ⟨c0, c1, c2, c3, c4, c5, c6, c7⟩ := (XX.out.on hb).bd
            go_wp2_with fail
            go_ret
            exact ⟨ret_bool (by rw [HF.out, Lib.toList_data]; exact hte), hB2.out⟩
          · have HF : Hid (b.ok = false) := Lib.hid (bd_no (.inr (.inr (.inr ⟨e7, ht⟩))))
            have hte := isEmpty_no ht
            clear ht e7
            go_enter Tryz.func60, Tryz.ntmps60
            go_wp2_with fail
            refine (HA.out _).mono ?_
            rintro e w1 ⟨rfl, hb⟩
            have hB2 := Lib.hid (bch hB.out hb)
            obtain ⟨c0, c1, c2, c3, c4, c5, c6, c7⟩ := (XX.out.on hb).bd
            go_wp2_with fail
            go_ret
            exact ⟨ret_bool (by rw [HF.out, Lib.toList_data]; exact hte), hB2.out⟩
        · have d8 : (b.kind != 7) = true := by simp [e7]
          have HF : Hid (b.ok = true) := Lib.hid (bd_yes (by omega) HO.out.symm (.inl e7))
          clear e7
          go_enter Tryz.func60, Tryz.ntmps60
          go_wp2_with fail
          refine (HA.out _).mono ?_
          rintro e w1 ⟨rfl, hb⟩
          have hB2 := Lib.hid (bch hB.out hb)
          obtain ⟨c0, c1, c2, c3, c4, c5, c6, c7⟩ := (XX.out.on hb).bd
          go_wp2_with fail
          go_ret
          exact ⟨ret_bool HF.out.symm, hB2.out⟩
theorem validbs_of {b : Bd} {o : Bool} (h : o = b.ok) (W : World) : Calls Tryz.prog 60 #[.agg b.arr] W fun e w' => e = .returned (.bool o) ∧ Below W.heap.size W w' := by
  rw [h]; exact validb_any b W
theorem span_no1 {r : List (List Bd)} (h : ∃ l ∈ r, ∃ b ∈ l, b.ok = false) : spanOk r = false := by
  obtain ⟨l, hl, b, hb, he⟩ := h
  unfold spanOk
  rw [Bool.and_eq_false_iff]
  right
  rw [List.all_eq_false]
  refine ⟨l, hl, ?_⟩
  unfold rowOk
  rw [Bool.and_eq_true, not_and]
  intro _ h2
  rw [List.all_eq_true.1 h2 b hb] at he
  cases he
theorem span_nofit {r : List (List Bd)} (h : fitsB r = false) : spanOk r = false := by
  cases he : spanOk r with
  | false => rfl
  | true => rw [ok_fits he] at h; cases h
theorem loads_box {w : World} {g o : Nat} {b : Bd} (h : BAt w g o b) : w.cell? ⟨g, o, none⟩ = some (.int .i64 b.kind) := h.c0

set_option maxRecDepth 100000 in
set_option maxHeartbeats 4000000 in
theorem svalid_any (ls : List (List Bd)) (x : Value) (w : World) (hx : RdR w x ls) : Calls Tryz.prog 35 #[.agg #[x]] w fun e w' => e = .returned (.bool (spanOk ls)) ∧ Below w.heap.size w w' := by
  have HX := Lib.hid hx
  obtain ⟨a, c, rfl, hlc, hcm, hcell⟩ := hx.open
  have HC := Lib.hid hcell
  obtain ⟨n, hn⟩ : ∃ n, n = ls.length := ⟨_, rfl⟩
  rw [← hn] at hlc HC HX ⊢
  have HN := Lib.hid hn
  unfold maxLen at hcm
  have X : Box (w.alloc (.cells #[.slice a n c] 27)) w.heap.size 27 #[.slice a n c] := box_new
  have XX := Lib.hid X
  have c0 : (w.alloc (.cells #[.slice a n c] 27)).cell? ⟨w.heap.size, 0, none⟩ = some (.slice a n c) := X.cell rfl
  have B0 := Lib.hid (below_new w (.cells #[.slice a n c] 27))
  have HF : Hid (Calls Tryz.prog 59 #[.slice a n c] (w.alloc (.cells #[.slice a n c] 27)) fun e w' => e = .returned (.bool (fitsB ls)) ∧ w.alloc (.cells #[.slice a n c] 27) = w') := Lib.hid (fits_any ls _ _ (HX.out.on (below_new _ _)))
  clear hn hcell hx X
  by_cases h0 : n = 0
  · have z0 : ((n : Int) == 0) = true := by simp [h0]
    have HE : Hid (spanOk ls = false) := Lib.hid (by
      have : ls = [] := List.eq_nil_of_length_eq_zero (by have := HN.out; omega)
      rw [this]; rfl)
    clear h0
    go_enter Tryz.func35, Tryz.ntmps35
    go_wp2_with fail
    go_ret
    exact ⟨ret_bool HE.out.symm, B0.out⟩
  · have z0 : ((n : Int) == 0) = false := by rw [beq_eq_false_iff_ne]; omega
    obtain ⟨f, hf⟩ : ∃ f, f = fitsB ls := ⟨_, rfl⟩
    rw [← hf] at HF
    have HFF := Lib.hid hf
    clear h0 hf
    cases f with
    | false =>
      have HE : Hid (spanOk ls = false) := Lib.hid (span_nofit HFF.out.symm)
      go_enter Tryz.func35, Tryz.ntmps35
      go_wp2_with (go_at_call 59; refine HF.out.mono ?_; rintro e w' ⟨rfl, rfl⟩)
      go_ret
      exact ⟨ret_bool HE.out.symm, B0.out⟩
    | true =>
      go_enter Tryz.func35, Tryz.ntmps35
      go_wp2_with (go_at_call 59; refine HF.out.mono ?_; rintro e w' ⟨rfl, rfl⟩)
      go_loopw [4, 6, 20, 21, 22, 23, 24, 25, 26, 27, 28, 29, 30, 31, 32, 33, 34] (fun _ _ i _ _ _ _ _ _ _ _ _ _ _ _ _ _ W => ∃ k : Nat, k ≤ n ∧ i = .int .i64 k ∧ Hid (∀ (j : Nat) (l : List Bd), j < k → ls[j]? = some l → ∀ b ∈ l, b.ok = true) ∧ Hid (Below w.heap.size w W)) (fun _ _ i _ _ _ _ _ _ _ _ _ _ _ _ _ _ _ => n - (Lib.intOf i).toNat)
      case atStart => exact ⟨0, Nat.zero_le _, rfl, Lib.hid (fun j l h => absurd h (Nat.not_lt_zero _)), B0⟩
      case round =>
        clear c0 B0 HF XX
        obtain ⟨k, hk, rfl, HK, HB⟩ := hrel
        obtain ⟨wq, hwq⟩ : ∃ q, q = wr := ⟨_, rfl⟩
        rw [← hwq] at HB ⊢
        clear hwq
        by_cases hlt : k < n
        · obtain ⟨l, hl⟩ : ∃ v, ls[k]? = some v := ⟨_, List.getElem?_eq_getElem (by have := HN.out; omega)⟩
          obtain ⟨g, o, rfl, hg, hc⟩ := HC.out (by omega)
          obtain ⟨v, hv, hr⟩ := hc k l hl
          have r0 := (HB.out.cell (p := ⟨g, _, none⟩) hg).trans hv
          obtain ⟨a2, c2, rfl, hlc2, hcm2, hc2⟩ := hr.open
          obtain ⟨m, hm⟩ : ∃ m, m = l.length := ⟨_, rfl⟩
          rw [← hm] at hlc2 hc2 r0
          unfold maxLen at hcm2
          have HM := Lib.hid hm
          have HL := Lib.hid hl
          have HC2 := Lib.hid hc2
          have k1 : (k : Int) < (n : Int) := by omega
          have k2 : (0 : Int) ≤ (k : Int) := by omega
          have k4 : IntKind.i64.wrap ((k : Int) + 1) = (k : Int) + 1 := IntWalk.i64_in _ (by omega)
          clear hm hl hr hc hv hc2
          go_wp2_with fail
          go_loopw [6, 26, 27, 28, 29, 30, 31, 32, 33] (fun _ i _ _ _ _ _ _ _ W => ∃ j : Nat, j ≤ m ∧ i = .int .i64 j ∧ Hid (∀ (t : Nat) (b : Bd), t < j → l[t]? = some b → b.ok = true) ∧ Hid (Below w.heap.size w W)) (fun _ i _ _ _ _ _ _ _ _ => m - (Lib.intOf i).toNat)
          case atStart => exact ⟨0, Nat.zero_le _, rfl, Lib.hid (fun j l h => absurd h (Nat.not_lt_zero _)), HB⟩
          case round =>
            clear HB r0
            obtain ⟨j, hj, rfl, HJ, HB⟩ := hrel
            obtain ⟨wo, hwo⟩ : ∃ q, q = wr := ⟨_, rfl⟩
            rw [← hwo] at HB ⊢
            clear hwo
            by_cases jlt : j < m
            · obtain ⟨b, hb⟩ : ∃ v, l[j]? = some v := ⟨_, List.getElem?_eq_getElem (by have := HM.out; omega)⟩
              obtain ⟨g2, o2, rfl, hg2, hc2⟩ := HC2.out (by omega)
              obtain ⟨q0, q1, q2, q3, q4, q5, q6, q7⟩ := (hc2 j b hb).on hg2 HB.out
              have j1 : (j : Int) < (m : Int) := by omega
              have j2 : (0 : Int) ≤ (j : Int) := by omega
              have j4 : IntKind.i64.wrap ((j : Int) + 1) = (j : Int) + 1 := IntWalk.i64_in _ (by omega)
              have HBB := Lib.hid hb
              obtain ⟨ok, hok⟩ : ∃ ok, ok = b.ok := ⟨_, rfl⟩
              have HT := Lib.hid (fun W => validbs_of hok W)
              have HOK := Lib.hid hok
              have X0 : Hid (Box (wo.alloc (.cells Bd.zero.arr 57)) wo.heap.size 57 Bd.zero.arr) := Lib.hid box_new
              obtain ⟨w2, hw2⟩ : ∃ q, q = (wo.alloc (.cells Bd.zero.arr 57)).setRow wo.heap.size b.arr := ⟨_, rfl⟩
              have X2 : Hid (Box w2 wo.heap.size 57 b.arr) := Lib.hid (by rw [hw2]; exact X0.out.row _)
              have B2 : Hid (Below w.heap.size w w2) := Lib.hid (by rw [hw2]; exact below_row (HB.out.alloc HB.out.size _) HB.out.size _)
              clear hb hok hc2
              go_upto_region 9 with (first
                | (with_reducible refine wpList_zero rfl 57 rfl Bd.zero.arr zero57 ?_)
                | (refine wpList_store_row rfl 57 (.tmp 6) (.tmp 29) rfl wo.heap.size b.arr rfl rfl 57 _ X0.out (info57 _) rfl (barr_one _) ?_))
              rw [← hw2]
              clear hw2 X0 q0 q1 q2 q3 q4 q5 q6 q7 HB
              go_wp2_with (refine wpList_load_row rfl 57 (.tmp 6) rfl wo.heap.size rfl 57 b.arr (0, 0) _ X2.out Tryz.underlying57 rfl (info57 _) ?_)
              refine (HT.out _).mono ?_
              rintro e w3 ⟨rfl, hb⟩
              have B3 := Lib.hid (bch B2.out hb)
              clear X2 B2 HT hb
              cases ok with
              | true =>
                go_wp2_with fail
                go_roundw
                case rel =>
                  refine ⟨j + 1, jlt, by go_num, Lib.hid (fun t y ht hy => ?_), B3⟩
                  by_cases htj : t < j
                  · exact HJ.out t y htj hy
                  · obtain rfl : t = j := by omega
                    obtain rfl := Option.some.inj (HBB.out.symm.trans hy)
                    exact HOK.out.symm
                case measure => simp [Lib.intOf]; omega
              | false =>
                have HE : Hid (spanOk ls = false) := Lib.hid (span_no1 ⟨l, List.mem_of_getElem? HL.out, b, List.mem_of_getElem? HBB.out, HOK.out.symm⟩)
                go_wp2_with fail
                go_ret
                exact ⟨ret_bool HE.out.symm, B3.out⟩
            · have j1 : ¬ ((j : Int) < (m : Int)) := by omega
              go_wp2_with fail
              go_roundw
              case rel =>
                refine ⟨k + 1, hlt, by go_num, Lib.hid (fun t y ht hy => ?_), HB⟩
                by_cases htk : t < k
                · exact HK.out t y htk hy
                · obtain rfl : t = k := by omega
                  obtain rfl := Option.some.inj (HL.out.symm.trans hy)
                  intro b hb
                  obtain ⟨i, hi⟩ := List.mem_iff_getElem?.1 hb
                  have := (List.getElem?_eq_some_iff.1 hi).1
                  exact HJ.out i b (by have := HM.out; omega) hi
              case measure => simp [Lib.intOf]; omega
        · have k1 : ¬ ((k : Int) < (n : Int)) := by omega
          have HE : Hid (spanOk ls = true) := Lib.hid (rows_of_fits HFF.out.symm (fun l hl => by
            obtain ⟨i, hi⟩ := List.mem_iff_getElem?.1 hl
            have := (List.getElem?_eq_some_iff.1 hi).1
            exact HK.out i l (by have := HN.out; omega) hi) (by have := HN.out; have e : ((n : Int) == 0) = false := z0; rw [beq_eq_false_iff_ne] at e; omega))
          go_wp2_with fail
          go_ret
          exact ⟨ret_bool HE.out.symm, HB.out⟩
theorem svalids_of {ls : List (List Bd)} {o : Bool} (h : o = spanOk ls) {x : Value} {W : World} (hx : RdR W x ls) : Calls Tryz.prog 35 #[.agg #[x]] W fun e w' => e = .returned (.bool o) ∧ Below W.heap.size W w' := by
  rw [h]; exact svalid_any ls x W hx

set_option maxRecDepth 100000 in
set_option maxHeartbeats 1000000 in
theorem scheck_any (ls : List (List Bd)) (x : Value) (w : World) (hx : RdR w x ls) : Calls Tryz.prog 13 #[.agg #[x]] w fun e w' => e = .returned (.int .i64 (if spanOk ls then 0 else 150)) ∧ Below w.heap.size w w' := by
  have X1 : Box (w.alloc (.cells #[x] 27)) w.heap.size 27 #[x] := box_new
  have c0 : (w.alloc (.cells #[x] 27)).cell? ⟨w.heap.size, 0, none⟩ = some x := X1.cell rfl
  have hB := Lib.hid (below_new w (.cells #[x] 27))
  obtain ⟨o, ho⟩ : ∃ o, o = spanOk ls := ⟨_, rfl⟩
  have HA := Lib.hid (svalids_of ho (hx.on hB.out))
  rw [← ho]
  obtain ⟨a, c, rfl, _⟩ := hx.open
  clear X1 ho hx
  cases o with
  | true =>
    go_enter Tryz.func13, Tryz.ntmps13
    go_wp2_with fail
    refine HA.out.mono ?_
    rintro e w1 ⟨rfl, hb⟩
    go_wp2_with fail
    go_ret
    exact ⟨rfl, bch hB.out hb⟩
  | false =>
    go_enter Tryz.func13, Tryz.ntmps13
    go_wp2_with fail
    refine HA.out.mono ?_
    rintro e w1 ⟨rfl, hb⟩
    go_wp2_with fail
    go_ret
    exact ⟨rfl, bch hB.out hb⟩
end Go.Proofs.YtlfehjjnepiljaaGreatDoor
