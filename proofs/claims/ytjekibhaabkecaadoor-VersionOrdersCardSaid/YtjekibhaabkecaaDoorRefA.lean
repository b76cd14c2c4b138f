/- Proved here: ahead of puncheonref04. -/
import Derived.Test.YtjekibhaabkecaaDoorRefB
namespace Go.Proofs.YtjekibhaabkecaaDoor
open Go.RowKit Go.Shelf

theorem cmpV_rest {a b : Ver} (h : ∀ j, j < 4 → a.num j = b.num j) : cmpV a b = orI (tagC a.tag b.tag) (orI (Lib.compareInt a.step b.step) (Lib.compareInt a.many b.many)) := by
  have h0 : a.n0 = b.n0 := h 0 (by omega)
  have h1 : a.n1 = b.n1 := h 1 (by omega)
  have h2 : a.n2 = b.n2 := h 2 (by omega)
  have h3 : a.n3 = b.n3 := h 3 (by omega)
  rw [cmpV_eq, h0, h1, h2, h3, good_int.zero, good_int.zero, good_int.zero, good_int.zero]
  rfl
theorem or_left {x y : Int} (h : x ≠ 0) : orI x y = x := if_neg h
theorem or_right {x y : Int} (h : x = 0) : orI x y = y := if_pos h
theorem int_neg (x y : Int) : decide (Lib.compareInt x y < 0) = decide (x < y) := by
  unfold Lib.compareInt
  split
  · simp [*]
  · split <;> simp [*]
theorem less_bytes : ∀ (l m : Str), Op.bytesLess l m = decide (Lib.compareBytes l m < 0)
  | [], [] => rfl
  | _ :: _, [] => rfl
  | [], _ :: _ => rfl
  | c :: l, d :: m => by
    have ih := less_bytes l m
    unfold Op.bytesLess Lib.compareBytes
    by_cases h1 : c < d
    · simp [h1]
    · by_cases h2 : d < c
      · have hne : ¬ c = d := fun h => by subst h; exact h1 h2
        simp [h1, h2, hne]
      · have he : c = d := UInt8.le_antisymm (UInt8.not_lt.1 h2) (UInt8.not_lt.1 h1)
        subst he
        simp only [h1, if_false]
        rw [← ih]
        simp

set_option maxRecDepth 100000 in
set_option maxHeartbeats 400000 in
theorem rahead_any (a b : Ver) (w : World) : Calls Tryd.prog 34 #[.agg a.arr, .agg b.arr] w fun e w' => e = .returned (.bool (decide (cmpV a b < 0))) ∧ Below w.heap.size w w' := by
  have X1 : Box ((w.alloc (.cells a.arr 26)).alloc (.cells b.arr 26)) w.heap.size 26 a.arr := box_new.alloc _
  have X2 : Box ((w.alloc (.cells a.arr 26)).alloc (.cells b.arr 26)) (w.heap.size + 1) 26 b.arr := heap_alloc2_new w _ _
  have k0 : Two a b w.heap.size (w.heap.size + 1) w ((w.alloc (.cells a.arr 26)).alloc (.cells b.arr 26)) := ⟨X1.ver, X2.ver, ((Below.refl w.heap.size w).alloc (Nat.le_refl _) (.cells a.arr 26)).alloc (by simp) (.cells b.arr 26)⟩
  have HK := Lib.hid k0
  obtain ⟨p0, p1, p2, p3, p4, p5, p6⟩ := k0.l
  obtain ⟨q0, q1, q2, q3, q4, q5, q6⟩ := k0.r
  clear k0 X1 X2
  obtain ⟨r, hr⟩ : ∃ r, r = decide (cmpV a b < 0) := ⟨_, rfl⟩
  rw [← hr]
  have HNO : Hid (∀ k, k < 4 → (∀ j, j < k → a.num j = b.num j) → a.num k ≠ b.num k → r = decide (a.num k < b.num k)) := Lib.hid (fun k hk h0 hne => by
    rw [hr]
    by_cases hl : a.num k < b.num k
    · rw [ahead_at k hk h0 hl, decide_eq_true hl]
      rfl
    · have := ahead_at (w := b) (n := a) k hk (fun j hj => (h0 j hj).symm) (by omega)
      have t := good_cmpV.anti b a
      rw [decide_eq_false hl]
      exact decide_eq_false (by omega))
  have HR := Lib.hid hr
  clear hr
  go_enter Tryd.func34, Tryd.ntmps34
  go_wp2_with fail
  go_loop [5, 6, 9, 10, 11, 12, 13, 14, 15, 16, 17, 18, 19, 20, 21, 22, 23, 24, 25] (fun _ _ i _ _ _ _ _ _ _ _ _ _ _ _ _ _ _ _ => ∃ k : Nat, k ≤ 4 ∧ i = .int .i64 k ∧ Hid (∀ j, j < k → a.num j = b.num j)) (fun _ _ i _ _ _ _ _ _ _ _ _ _ _ _ _ _ _ _ => 4 - (Lib.intOf i).toNat)
  case atStart => exact ⟨0, Nat.zero_le _, rfl, Lib.hid (fun j hj => absurd hj (Nat.not_lt_zero _))⟩
  case round =>
    obtain ⟨k, hk, rfl, HE⟩ := hrel
    by_cases hlt : k < 4
    · have hix := run_index_arr (P := Tryd.prog) Tryd.underlying24 Tryd.isAgg3 Tryd.sizeOf3 hlt (num_get a k hlt)
      have k4 : (k : Int) < 4 := by omega
      have k5 : (0 : Int) ≤ (k : Int) := by omega
      have cp := HK.out.r.num hlt
      have HNX := Lib.hid (HNO.out k hlt HE.out)
      have HEX : Hid (a.num k = b.num k → ∀ j, j < k + 1 → a.num j = b.num j) := Lib.hid (fun he j hj => by
        rcases Nat.lt_or_ge j k with h | h
        · exact HE.out j h
        · obtain rfl : j = k := by omega
          exact he)
      generalize a.num k = x at hix HNX HEX
      generalize b.num k = y at cp HNX HEX
      by_cases hxy : x = y
      · have e1 : (x != y) = false := by simp [hxy]
        have HEY := Lib.hid (HEX.out hxy)
        clear hxy
        go_wp2_with fail
        go_round
        case rel => exact ⟨k + 1, hlt, by go_num, HEY⟩
        case measure => simp [Lib.intOf]; omega
      · have e1 : (x != y) = true := by simp [hxy]
        obtain ⟨l, hl⟩ : ∃ l, l = decide (x < y) := ⟨_, rfl⟩
        have HR2 : Hid (r = l) := Lib.hid (by rw [hl]; exact HNX.out hxy)
        have hl' := hl.symm
        clear hxy hl
        go_wp2_with fail
        go_ret
        exact ⟨ret_bool HR2.out.symm, HK.out.low⟩
    · obtain rfl : k = 4 := by omega
      have HC : Hid (r = decide (orI (tagC a.tag b.tag) (orI (Lib.compareInt a.step b.step) (Lib.compareInt a.many b.many)) < 0)) := Lib.hid (by rw [HR.out, cmpV_rest HE.out])
      clear HR HNO HE
      by_cases ha : a.tag.toList = []
      · have f1 := isEmpty_yes ha
        by_cases hb : b.tag.toList = []
        · have f2 := isEmpty_yes hb
          have hab : a.tag = b.tag := ba_ext (by rw [← Lib.toList_data, ← Lib.toList_data, ha, hb])
          have t2 : (a.tag.toList == b.tag.toList) = true := by rw [hab]; simp
          have t3 : (a.tag.toList != b.tag.toList) = false := by rw [hab]; simp
          have HT : Hid (tagC a.tag b.tag = 0) := Lib.hid (by rw [hab]; exact good_tag.zero _)
          clear ha hb hab
          by_cases hs : a.step = b.step
          · have s1 : (a.step != b.step) = false := by simp [hs]
            obtain ⟨l, hl⟩ : ∃ l, l = decide (a.many < b.many) := ⟨_, rfl⟩
            have HD : Hid (r = l) := Lib.hid (by rw [HC.out, or_right HT.out, hs, or_right (good_int.zero _), int_neg, hl])
            have hl' := hl.symm
            clear hs hl
            go_wp2_with fail
            go_ret
            exact ⟨ret_bool HD.out.symm, HK.out.low⟩
          · have s1 : (a.step != b.step) = true := by simp [hs]
            obtain ⟨l, hl⟩ : ∃ l, l = decide (a.step < b.step) := ⟨_, rfl⟩
            have HD : Hid (r = l) := Lib.hid (by rw [HC.out, or_right HT.out, or_left (fun h => hs (int_zero h)), int_neg, hl])
            have hl' := hl.symm
            clear hs hl
            go_wp2_with fail
            go_ret
            exact ⟨ret_bool HD.out.symm, HK.out.low⟩
        · have f2 := isEmpty_no hb
          have HD : Hid (r = false) := Lib.hid (by
            have : tagC a.tag b.tag = 1 := by
              rw [tagC_eq, tagL, if_pos (by rw [← Lib.toList_data]; exact ha), if_neg (by rw [← Lib.toList_data]; exact hb)]
            rw [HC.out, or_left (by omega), this]
            rfl)
          clear ha hb
          go_wp2_with fail
          go_ret
          exact ⟨ret_bool HD.out.symm, HK.out.low⟩
      · have f1 := isEmpty_no ha
        by_cases hb : b.tag.toList = []
        · have f2 := isEmpty_yes hb
          have HD : Hid (r = true) := Lib.hid (by
            have : tagC a.tag b.tag = -1 := by
              rw [tagC_eq, tagL, if_neg (by rw [← Lib.toList_data]; exact ha), if_pos (by rw [← Lib.toList_data]; exact hb)]
            rw [HC.out, or_left (by omega), this]
            rfl)
          clear ha hb
          go_wp2_with fail
          go_ret
          exact ⟨ret_bool HD.out.symm, HK.out.low⟩
        · have f2 := isEmpty_no hb
          by_cases hab : a.tag = b.tag
          · have t2 : (a.tag.toList == b.tag.toList) = true := by rw [hab]; simp
            have t3 : (a.tag.toList != b.tag.toList) = false := by rw [hab]; simp
            have HT : Hid (tagC a.tag b.tag = 0) := Lib.hid (by rw [hab]; exact good_tag.zero _)
            clear ha hb hab
            by_cases hs : a.step = b.step
            · have s1 : (a.step != b.step) = false := by simp [hs]
              obtain ⟨l, hl⟩ : ∃ l, l = decide (a.many < b.many) := ⟨_, rfl⟩
              have HD : Hid (r = l) := Lib.hid (by rw [HC.out, or_right HT.out, hs, or_right (good_int.zero _), int_neg, hl])
              have hl' := hl.symm
              clear hs hl
              go_wp2_with fail
              go_ret
              exact ⟨ret_bool HD.out.symm, HK.out.low⟩
            · have s1 : (a.step != b.step) = true := by simp [hs]
              obtain ⟨l, hl⟩ : ∃ l, l = decide (a.step < b.step) := ⟨_, rfl⟩
              have HD : Hid (r = l) := Lib.hid (by rw [HC.out, or_right HT.out, or_left (fun h => hs (int_zero h)), int_neg, hl])
              have hl' := hl.symm
              clear hs hl
              go_wp2_with fail
              go_ret
              exact ⟨ret_bool HD.out.symm, HK.out.low⟩
          · have hne : a.tag.toList ≠ b.tag.toList := fun h => hab (ba_ext (by rw [← Lib.toList_data, ← Lib.toList_data, h]))
            have t2 : (a.tag.toList == b.tag.toList) = false := by simp [hne]
            have t3 : (a.tag.toList != b.tag.toList) = true := by simp [hne]
            have HD : Hid (Op.bytesLess a.tag.toList b.tag.toList = r) := Lib.hid (by
              have e : tagC a.tag b.tag = Lib.compareBytes a.tag.data.toList b.tag.data.toList := by
                rw [tagC_eq, tagL, if_neg (by rw [← Lib.toList_data]; exact ha), if_neg (by rw [← Lib.toList_data]; exact hb)]
              rw [HC.out, or_left (fun h => hab (tag_zero h)), e, less_bytes, Lib.toList_data, Lib.toList_data])
            clear ha hb hab hne
            go_wp2_with fail
            go_ret
            exact ⟨ret_bool HD.out, HK.out.low⟩
end Go.Proofs.YtjekibhaabkecaaDoor
