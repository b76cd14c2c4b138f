/- Proved here: ShaRest of puncheonlaw03 returns true, whatever bytes and place it is called with. -/
import Derived.Test.YtkenbppoldfecaaDoorGoOn
namespace Go.Proofs.YtkenbppoldfecaaDoor
open Go.RowKit Go.Shelf Go.Joins


set_option maxRecDepth 100000 in
set_option maxHeartbeats 8000000 in
theorem rest_law (l : Bytes) (v : Value) (i : Int) (hi1 : -9223372036854775808 ≤ i) (hi2 : i ≤ 9223372036854775807) (t : TypeId) (fr : Nat × Nat) (w : World) (hP : Prim t fr w) (hv : Rd w v (bytesV l)) : Calls Tryd.prog 7 #[v, .int .i64 i] w fun e w' => e = .returned (.bool true) ∧ Below w.heap.size w w' := by
  have HP := Lib.hid hP
  have HV := Lib.hid hv
  have HI : Hid (-9223372036854775808 ≤ i ∧ i ≤ 9223372036854775807) := Lib.hid ⟨hi1, hi2⟩
  clear hP hv hi1 hi2
  go_enter Tryd.func7, Tryd.ntmps7
  go_wp2_with fail
  refine (wakes_any t fr w HP.out).mono ?_
  rintro e w1 ⟨rfl, hb1⟩
  go_wp2_with fail
  refine (few_any l v w1 (HV.out.on hb1)).mono ?_
  rintro e w2 ⟨v2, rfl, hown, hb2⟩
  have hB2 := bch hb1 hb2
  obtain ⟨b, hb⟩ : ∃ b, b = l.take 2000 := ⟨_, rfl⟩
  have hbl : b.length ≤ 2000 := by rw [hb, List.length_take]; omega
  rw [← hb] at hown
  have hR2 := Rd.of_own hown
  obtain ⟨a, cap, rfl, hlc, hcm, _⟩ := id hR2
  rw [bytesV_len] at hlc hR2 ⊢
  unfold maxLen at hcm
  obtain ⟨m, hm⟩ : ∃ m, m = b.length := ⟨_, rfl⟩
  rw [← hm] at hlc hR2 hbl ⊢
  have HB2 := Lib.hid hB2
  have HR2 := Lib.hid hR2
  have HM := Lib.hid hm
  clear hb hown hR2 hB2 hb1 hb2 hm
  by_cases h0 : m = 0
  · subst h0
    have hs : ∀ ls : List Bytes, ls.flatten = [] → ls.length ≤ 1000 → ∀ vv W, Prim t fr W → RdR W vv (ls.map bytesV) → Calls Tryd.prog 10 #[vv] W fun e w' => e = .returned (.agg (bytesA (sumL []))) ∧ Below W.heap.size W w' := fun ls h h2 vv W hp hr => sum_any ls [] h vv t fr W hp hr h2 (by simp)
    have heq := eql27_self (sumL []) (by rfl)
    have hgd := guard27
    go_wp2_with fail
    refine (hs [] rfl (by simp) _ _ (HP.out.on HB2.out) ⟨[], Rd.nil _, rfl, fun _ _ _ h => by cases h⟩).mono ?_
    rintro e w3 ⟨rfl, hb3⟩
    have hB3 := bch HB2.out hb3
    have HB3 := Lib.hid hB3
    have hbn : Below w3.heap.size w3 (w3.alloc (.cells #[.slice none 0 0] 24)) := (Below.refl _ _).alloc (Nat.le_refl _) _
    have hRR : RdR (w3.alloc (.cells #[.slice none 0 0] 24)) (.slice (some ⟨w3.heap.size, 0, none⟩) 1 1) ([[]].map bytesV) :=
      ⟨[.slice none 0 0], rd_box (xs := [.slice none 0 0]) (box_new _ _ _ rfl) rfl (by unfold maxLen; omega), rfl, fun j x r hx hr => by
        have hj : j = 0 := by
          have := (List.getElem?_eq_some_iff.1 hx).1
          simpa using this
        subst hj
        cases hx
        cases hr
        exact Rd.nil _⟩
    have HRR := Lib.hid hRR
    have HBN := Lib.hid hbn
    clear hRR hbn hb3 hB3
    go_wp2_with fail
    refine (hs [[]] rfl (by simp) _ _ ((HP.out.on HB3.out).on HBN.out) HRR.out).mono ?_
    rintro e w4 ⟨rfl, hb4⟩
    clear hs
    go_wp2_with fail
    go_ret
    exact ⟨rfl, bch (bch HB3.out HBN.out) hb4⟩
  · have t0 : ((m : Int) == 0) = false := by simp; omega
    have hm0 : ¬ ((m : Int) = 0) := by omega
    go_wp2_with fail
    refine (begin_q t fr _ (HP.out.on HB2.out)).mono ?_
    rintro e w3 ⟨rfl, hb3⟩
    obtain ⟨SB, hSB⟩ : ∃ S, S = wordsOf first b := ⟨_, rfl⟩
    obtain ⟨rB, hrB⟩ : ∃ r, r = restOf b := ⟨_, rfl⟩
    obtain ⟨q, hq⟩ : ∃ q, q = rB.length := ⟨_, rfl⟩
    have HSB := Lib.hid (Wrapped.mk hSB)
    have HRB := Lib.hid (Wrapped.mk hrB)
    have HQ := Lib.hid hq
    have HB3 := Lib.hid (bch HB2.out hb3)
    have HR3 := Lib.hid (HR2.out.on hb3)
    have HBL := Lib.hid hbl
    clear hSB hrB hq hb3
    go_wp2_with fail
    refine (more_first t fr b SB rB q m HSB.out.get HRB.out.get HQ.out HM.out _ w3 (HP.out.on HB3.out) HR3.out (by have := HBL.out; have := HM.out; omega)).mono ?_
    rintro e w4 ⟨a4, c4, rfl, hown4, hb4⟩
    have Z4 : Hid (Box (w4.alloc (.cells zeroR 52)) w4.heap.size 52 zeroR) := Lib.hid (box_new _ _ _ rfl)
    have Y4 : Hid (Box ((w4.alloc (.cells zeroR 52)).setRow w4.heap.size (runA SB (.slice a4 q c4) m)) w4.heap.size 52 (runA SB (.slice a4 q c4) m)) := Lib.hid (Z4.out.row _)
    have hbw : Below w4.heap.size w4 ((w4.alloc (.cells zeroR 52)).setRow w4.heap.size (runA SB (.slice a4 q c4) m)) := below_row ((Below.refl _ _).alloc (Nat.le_refl _) _) (Nat.le_refl _) _
    have HB5 := Lib.hid (bch (bch HB3.out hb4) hbw)
    have HR5 := Lib.hid ((HR3.out.on hb4).on hbw)
    have HO5 := Lib.hid ((Rd.of_own hown4.out).on hbw)
    clear hown4 hb4 hbw
    go_wp2_with (first
      | (with_reducible refine wpList_zero rfl 52 rfl zeroR zero52 ?_)
      | (refine wpList_store_row rfl 52 (.tmp 5) (.tmp 29) rfl w4.heap.size (runA SB (.slice a4 q c4) m) rfl rfl 52 zeroR Z4.out info52 rfl (runA_one _ _ _ _ _) ?_))
    obtain ⟨w5, hw5⟩ : ∃ x, x = (w4.alloc (.cells zeroR 52)).setRow w4.heap.size (runA SB (.slice a4 q c4) m) := ⟨_, rfl⟩
    obtain ⟨g5, hg5⟩ : ∃ x, x = w4.heap.size := ⟨_, rfl⟩
    rw [← hw5, ← hg5] at Y4
    rw [← hw5] at HB5 HR5 HO5 ⊢
    rw [← hg5]
    clear hw5 hg5 Z4
    -- the bytes without the last one
    obtain ⟨m1, hm1⟩ : ∃ m1, m = m1 + 1 := ⟨m - 1, by omega⟩
    have e3 : IntKind.i64.wrap (m1 : Int) = (m1 : Int) := IntWalk.i64_in _ (by have := HBL.out; omega)
    have k1 : (0 : Int) ≤ (m1 : Int) := by omega
    have k2 : (m1 : Int) ≤ (m : Int) := by omega
    have k3 : (m1 : Int) ≤ (cap : Int) := by omega
    have e2 : (m : Int) - 1 = (m1 : Int) := by omega
    have HB5w := HB5
    obtain ⟨x7, hx7⟩ : ∃ x, x = b.take m1 := ⟨_, rfl⟩
    have hx7l : x7.length = m1 := by rw [hx7, List.length_take]; have := HM.out; omega
    have RX7 : Hid (Rd w5 (.slice a m1 cap) (bytesV x7)) := Lib.hid (by rw [hx7]; exact take_rd HR5.out HM.out m1 (by omega))
    obtain ⟨S7, hS7⟩ : ∃ S, S = wordsOf first x7 := ⟨_, rfl⟩
    obtain ⟨r7, hr7⟩ : ∃ r, r = restOf x7 := ⟨_, rfl⟩
    obtain ⟨q7, hq7⟩ : ∃ q, q = r7.length := ⟨_, rfl⟩
    have HS7 := Lib.hid (Wrapped.mk hS7)
    have Hr7 := Lib.hid (Wrapped.mk hr7)
    have Hq7 := Lib.hid hq7
    have Hn7 := Lib.hid hx7l.symm
    have Hx7 : Hid (x7.length ≤ 1000000) := Lib.hid (by have := HBL.out; omega)
    have HXY7 : Hid (Wrapped (x7 ++ b.drop m1 = b)) := Lib.hid (Wrapped.mk (by rw [hx7]; exact List.take_append_drop _ _))
    have HM1 := Lib.hid hm1
    clear hS7 hr7 hq7 hx7l hx7 hm1 h0
    go_cut [7, 8] (fun p ee wx => ∃ h a9 c9, p = .pointer (some ⟨h, 0, none⟩) ∧ ee = .int .i64 0 ∧ Hid (w5.heap.size ≤ h ∧ Box wx h 52 (runA S7 (.slice a9 q7 c9) m1) ∧ Rd wx (.slice a9 q7 c9) (bytesV r7)) ∧ Hid (Below w5.heap.size w5 wx))
    case first =>
      rename_i J2 K2 hJ hK2
      refine wp_region_held_drew (S := fun w' => Below w5.heap.size w5 w') (by kernel_rfl) ((Below.refl _ _).drew) (fun hHeld => ?_)
      refine wpAnyH_take (i := 1) (oi := { dst := some 33, op := Op.move (Operand.tmp 0), type := 24, pos := "outright.go:64", after := #[], guard := none }) (v := ?_) rfl (by kernel_rfl) (by kernel_rfl) (by kernel_rfl) (fun _ _ _ h => h) (Or.inl ⟨by rfl, ?_⟩) hHeld ?_
      rotate_left
      · (intro w hSw; go_simp; try with_reducible rfl)
      (try simp only [Act.put, List.setIfInBounds_toArray, List.set_cons_zero, List.set_cons_succ])
      refine wpAnyH_take (i := 2) (oi := { dst := some 34, op := Op.move (Operand.tmp 0), type := 24, pos := "outright.go:64", after := #[], guard := none }) (v := ?_) rfl (by kernel_rfl) (by kernel_rfl) (by kernel_rfl) (fun _ _ _ h => h) (Or.inl ⟨by rfl, ?_⟩) hHeld ?_
      rotate_left
      · (intro w hSw; go_simp; try with_reducible rfl)
      (try simp only [Act.put, List.setIfInBounds_toArray, List.set_cons_zero, List.set_cons_succ])
      refine wpAnyH_take (i := 3) (oi := { dst := some 35, op := Op.call { callee := Callee.builtin Builtin.len, args := #[Operand.tmp 34], argTypes := #[24] }, type := 3, pos := "outright.go:64", after := #[{ on := 2, ground := Ground.data }], guard := none }) (v := ?_) rfl (by kernel_rfl) (by kernel_rfl) (by kernel_rfl) (fun _ _ _ h => h) (Or.inl ⟨by rfl, ?_⟩) hHeld ?_
      rotate_left
      · (intro w hSw; go_simp; try with_reducible rfl)
      (try simp only [Act.put, List.setIfInBounds_toArray, List.set_cons_zero, List.set_cons_succ])
      refine wpAnyH_take (i := 4) (oi := { dst := some 36, op := Op.binOp BinOp.sub 3 (Operand.tmp 35) (Operand.const (Value.int IntKind.i64 1)) 3, type := 3, pos := "outright.go:64", after := #[{ on := 3, ground := Ground.data }], guard := none }) (v := ?_) rfl (by kernel_rfl) (by kernel_rfl) (by kernel_rfl) (fun _ _ _ h => h) (Or.inl ⟨by rfl, ?_⟩) hHeld ?_
      rotate_left
      · (intro w hSw; go_simp; try with_reducible rfl)
      (try simp only [Act.put, List.setIfInBounds_toArray, List.set_cons_zero, List.set_cons_succ])
      refine wpAnyH_take (i := 5) (oi := { dst := some 37, op := Op.slice 24 (Operand.tmp 33) none (some (Operand.tmp 36)) none, type := 24, pos := "outright.go:64", after := #[{ on := 1, ground := Ground.data }, { on := 4, ground := Ground.data }], guard := none }) (v := ?_) rfl (by kernel_rfl) (by kernel_rfl) (by kernel_rfl) (fun _ _ _ h => h) (Or.inl ⟨by rfl, ?_⟩) hHeld ?_
      rotate_left
      · (intro w hSw; go_simp; try with_reducible rfl)
      (try simp only [Act.put, List.setIfInBounds_toArray, List.set_cons_zero, List.set_cons_succ])
      refine wpAnyH_ready (rs := [0, 10]) (by kernel_rfl) (by simp) (AllReadyH.cons (o := { dst := some 32, op := Op.call { callee := Callee.value (Operand.func 19), args := #[], argTypes := #[] }, type := 52, pos := "outright.go:64", after := #[], guard := none }) rfl (fun K hK => ?_) (AllReadyH.cons (o := { dst := some 7, op := Op.alloc 52, type := 0, pos := "outright.go:64", after := #[], guard := none }) rfl (fun K hK => ?_) AllReadyH.nil))
      · go_simp
        refine (begin_q t fr _ (HP.out.on (bch HB5.out hHeld))).mono ?_
        rintro e wa ⟨rfl, hba⟩
        refine hK.out _ _ (bch hHeld hba) (fun hHeld => ?_)
        (try simp only [Act.put, List.setIfInBounds_toArray, List.set_cons_zero, List.set_cons_succ])
        refine wpAnyH_ready (rs := [6, 10]) (by kernel_rfl) (by simp) (AllReadyH.cons (o := { dst := some 38, op := Op.call { callee := Callee.value (Operand.func 20), args := #[Operand.tmp 32, Operand.tmp 37], argTypes := #[52, 24] }, type := 55, pos := "outright.go:64", after := #[{ on := 0, ground := Ground.data }, { on := 5, ground := Ground.data }, { on := 0, ground := Ground.chain }], guard := none }) rfl (fun K hK => ?_) (AllReadyH.cons (o := { dst := some 7, op := Op.alloc 52, type := 0, pos := "outright.go:64", after := #[], guard := none }) rfl (fun K hK => ?_) AllReadyH.nil))
        · go_simp
          refine (more_first t fr x7 S7 r7 q7 m1 HS7.out.get Hr7.out.get Hq7.out Hn7.out _ _ (HP.out.on (bch HB5.out hHeld)) (RX7.out.on hHeld) Hx7.out).mono ?_
          rintro e wa ⟨a9, c9, rfl, hown, hba⟩
          refine hK.out _ _ (bch hHeld hba) (fun hHeld => ?_)
          (try simp only [Act.put, List.setIfInBounds_toArray, List.set_cons_zero, List.set_cons_succ])
          refine wpAnyH_take (i := 7) (oi := { dst := some 31, op := Op.move (Operand.tmp 38), type := 55, pos := "outright.go:64", after := #[{ on := 6, ground := Ground.data }], guard := none }) (v := ?_) rfl (by kernel_rfl) (by kernel_rfl) (by kernel_rfl) (fun _ _ _ h => h) (Or.inl ⟨by rfl, ?_⟩) hHeld ?_
          rotate_left
          · (intro w hSw; go_simp; try with_reducible rfl)
          (try simp only [Act.put, List.setIfInBounds_toArray, List.set_cons_zero, List.set_cons_succ])
          refine wpAnyH_take (i := 8) (oi := { dst := some 39, op := Op.extract (Operand.tmp 31) 0, type := 52, pos := "outright.go:64", after := #[{ on := 7, ground := Ground.data }], guard := none }) (v := ?_) rfl (by kernel_rfl) (by kernel_rfl) (by kernel_rfl) (fun _ _ _ h => h) (Or.inl ⟨by rfl, ?_⟩) hHeld ?_
          rotate_left
          · (intro w hSw; go_simp; try with_reducible rfl)
          (try simp only [Act.put, List.setIfInBounds_toArray, List.set_cons_zero, List.set_cons_succ])
          refine wpAnyH_take (i := 9) (oi := { dst := some 40, op := Op.extract (Operand.tmp 31) 1, type := 43, pos := "outright.go:64", after := #[{ on := 7, ground := Ground.data }, { on := 11, ground := Ground.gcOnly Departure.lateStores }], guard := none }) (v := ?_) rfl (by kernel_rfl) (by kernel_rfl) (by kernel_rfl) (fun _ _ _ h => h) (Or.inl ⟨by rfl, ?_⟩) hHeld ?_
          rotate_left
          · (intro w hSw; go_simp; try with_reducible rfl)
          (try simp only [Act.put, List.setIfInBounds_toArray, List.set_cons_zero, List.set_cons_succ])
          refine wpAnyH_ready (rs := [10]) (by kernel_rfl) (by simp) (AllReadyH.cons (o := { dst := some 7, op := Op.alloc 52, type := 0, pos := "outright.go:64", after := #[], guard := none }) rfl (fun K hK => ?_) AllReadyH.nil)
          · go_simp
            obtain ⟨hzl, hz⟩ := box52_new hHeld
            have hfar := fun cs => (Rd.of_own hown.out).on (below_row (below_new wa (.cells #[z32, z32, z32, z32, z32, z32, z32, z32, nilS, .int .u64 0] 52)) (Nat.le_refl _) cs)
            refine hK.out _ _ (bch hHeld (below_new _ _)) (fun hHeld => ?_)
            (try simp only [Act.put, List.setIfInBounds_toArray, List.set_cons_zero, List.set_cons_succ])
            refine wpAnyH_ready (rs := [11]) (by kernel_rfl) (by simp) (AllReadyH.cons (o := { dst := none, op := Op.store 52 (Operand.tmp 7) (Operand.tmp 39), type := 0, pos := "outright.go:64", after := #[{ on := 10, ground := Ground.data }, { on := 8, ground := Ground.data }, { on := 6, ground := Ground.chain }, { on := 0, ground := Ground.phase }, { on := 1, ground := Ground.phase }, { on := 2, ground := Ground.phase }, { on := 3, ground := Ground.phase }, { on := 4, ground := Ground.phase }, { on := 5, ground := Ground.phase }, { on := 6, ground := Ground.phase }, { on := 7, ground := Ground.phase }, { on := 8, ground := Ground.phase }, { on := 9, ground := Ground.textOnly Departure.lateStores }, { on := 10, ground := Ground.phase }], guard := none }) rfl (fun K hK => ?_) AllReadyH.nil)
            · refine wp_store_if (by rfl) 52 (.tmp 7) (.tmp 39) rfl _ 52 #[z32, z32, z32, z32, z32, z32, z32, z32, nilS, .int .u64 0] (runA S7 (.slice a9 q7 c9) m1) rfl rfl hz info52 rfl (runA_one _ _ _ _ _) ?_
              have hz2 := hz.row (runA S7 (.slice a9 q7 c9) m1)
              have hr2 := hfar (runA S7 (.slice a9 q7 c9) m1)
              have hb2 := below_row hHeld hzl (runA S7 (.slice a9 q7 c9) m1)
              refine hK.out _ _ hb2 (fun hHeld => ?_)
              (try simp only [Act.put])
              refine wpAnyH_take (i := 12) (oi := { dst := some 8, op := Op.assign (Operand.tmp 40), type := 43, pos := "outright.go:64", after := #[{ on := 9, ground := Ground.data }, { on := 11, ground := Ground.chain }, { on := 0, ground := Ground.phase }, { on := 1, ground := Ground.phase }, { on := 2, ground := Ground.phase }, { on := 3, ground := Ground.phase }, { on := 4, ground := Ground.phase }, { on := 5, ground := Ground.phase }, { on := 6, ground := Ground.phase }, { on := 7, ground := Ground.phase }, { on := 8, ground := Ground.phase }, { on := 9, ground := Ground.phase }, { on := 10, ground := Ground.phase }, { on := 11, ground := Ground.phase }], guard := none }) (v := ?_) rfl (by kernel_rfl) (by kernel_rfl) (by kernel_rfl) (fun _ _ _ h => h) (Or.inl ⟨by rfl, ?_⟩) hHeld ?_
              rotate_left
              · (intro w hSw; go_simp; try with_reducible rfl)
              (try simp only [Act.put, List.setIfInBounds_toArray, List.set_cons_zero, List.set_cons_succ])
              refine wpAnyH_done (by kernel_rfl) ?_ _
              first | refine hK2 _ _ (Met.intro (hJ _ _ ?_)) | refine Met.intro (hJ _ _ ?_)
              (repeat apply Exists.intro)
              refine ⟨?_, rfl⟩
              exact ⟨_, _, _, rfl, rfl, Lib.hid ⟨hzl, hz2, hr2⟩, Lib.hid hHeld⟩
        · go_simp
          obtain ⟨hzl, hz⟩ := box52_new hHeld
          refine hK.out _ _ (bch hHeld (below_new _ _)) (fun hHeld => ?_)
          (try simp only [Act.put, List.setIfInBounds_toArray, List.set_cons_zero, List.set_cons_succ])
          refine wpAnyH_ready (rs := [6]) (by kernel_rfl) (by simp) (AllReadyH.cons (o := { dst := some 38, op := Op.call { callee := Callee.value (Operand.func 20), args := #[Operand.tmp 32, Operand.tmp 37], argTypes := #[52, 24] }, type := 55, pos := "outright.go:64", after := #[{ on := 0, ground := Ground.data }, { on := 5, ground := Ground.data }, { on := 0, ground := Ground.chain }], guard := none }) rfl (fun K hK => ?_) AllReadyH.nil)
          · go_simp
            refine (more_first t fr x7 S7 r7 q7 m1 HS7.out.get Hr7.out.get Hq7.out Hn7.out _ _ (HP.out.on (bch HB5.out hHeld)) (RX7.out.on hHeld) Hx7.out).mono ?_
            rintro e wa ⟨a9, c9, rfl, hown, hba⟩
            have hfar := fun cs => Rd.of_own (own_far_row hown.out hz.lt cs)
            have hz := hz.below hba hz.lt
            refine hK.out _ _ (bch hHeld hba) (fun hHeld => ?_)
            (try simp only [Act.put, List.setIfInBounds_toArray, List.set_cons_zero, List.set_cons_succ])
            refine wpAnyH_take (i := 7) (oi := { dst := some 31, op := Op.move (Operand.tmp 38), type := 55, pos := "outright.go:64", after := #[{ on := 6, ground := Ground.data }], guard := none }) (v := ?_) rfl (by kernel_rfl) (by kernel_rfl) (by kernel_rfl) (fun _ _ _ h => h) (Or.inl ⟨by rfl, ?_⟩) hHeld ?_
            rotate_left
            · (intro w hSw; go_simp; try with_reducible rfl)
            (try simp only [Act.put, List.setIfInBounds_toArray, List.set_cons_zero, List.set_cons_succ])
            refine wpAnyH_take (i := 8) (oi := { dst := some 39, op := Op.extract (Operand.tmp 31) 0, type := 52, pos := "outright.go:64", after := #[{ on := 7, ground := Ground.data }], guard := none }) (v := ?_) rfl (by kernel_rfl) (by kernel_rfl) (by kernel_rfl) (fun _ _ _ h => h) (Or.inl ⟨by rfl, ?_⟩) hHeld ?_
            rotate_left
            · (intro w hSw; go_simp; try with_reducible rfl)
            (try simp only [Act.put, List.setIfInBounds_toArray, List.set_cons_zero, List.set_cons_succ])
            refine wpAnyH_take (i := 9) (oi := { dst := some 40, op := Op.extract (Operand.tmp 31) 1, type := 43, pos := "outright.go:64", after := #[{ on := 7, ground := Ground.data }, { on := 11, ground := Ground.gcOnly Departure.lateStores }], guard := none }) (v := ?_) rfl (by kernel_rfl) (by kernel_rfl) (by kernel_rfl) (fun _ _ _ h => h) (Or.inl ⟨by rfl, ?_⟩) hHeld ?_
            rotate_left
            · (intro w hSw; go_simp; try with_reducible rfl)
            (try simp only [Act.put, List.setIfInBounds_toArray, List.set_cons_zero, List.set_cons_succ])
            refine wpAnyH_ready (rs := [11]) (by kernel_rfl) (by simp) (AllReadyH.cons (o := { dst := none, op := Op.store 52 (Operand.tmp 7) (Operand.tmp 39), type := 0, pos := "outright.go:64", after := #[{ on := 10, ground := Ground.data }, { on := 8, ground := Ground.data }, { on := 6, ground := Ground.chain }, { on := 0, ground := Ground.phase }, { on := 1, ground := Ground.phase }, { on := 2, ground := Ground.phase }, { on := 3, ground := Ground.phase }, { on := 4, ground := Ground.phase }, { on := 5, ground := Ground.phase }, { on := 6, ground := Ground.phase }, { on := 7, ground := Ground.phase }, { on := 8, ground := Ground.phase }, { on := 9, ground := Ground.textOnly Departure.lateStores }, { on := 10, ground := Ground.phase }], guard := none }) rfl (fun K hK => ?_) AllReadyH.nil)
            · refine wp_store_if (by rfl) 52 (.tmp 7) (.tmp 39) rfl _ 52 #[z32, z32, z32, z32, z32, z32, z32, z32, nilS, .int .u64 0] (runA S7 (.slice a9 q7 c9) m1) rfl rfl hz info52 rfl (runA_one _ _ _ _ _) ?_
              have hz2 := hz.row (runA S7 (.slice a9 q7 c9) m1)
              have hr2 := hfar (runA S7 (.slice a9 q7 c9) m1)
              have hb2 := below_row hHeld hzl (runA S7 (.slice a9 q7 c9) m1)
              refine hK.out _ _ hb2 (fun hHeld => ?_)
              (try simp only [Act.put])
              refine wpAnyH_take (i := 12) (oi := { dst := some 8, op := Op.assign (Operand.tmp 40), type := 43, pos := "outright.go:64", after := #[{ on := 9, ground := Ground.data }, { on := 11, ground := Ground.chain }, { on := 0, ground := Ground.phase }, { on := 1, ground := Ground.phase }, { on := 2, ground := Ground.phase }, { on := 3, ground := Ground.phase }, { on := 4, ground := Ground.phase }, { on := 5, ground := Ground.phase }, { on := 6, ground := Ground.phase }, { on := 7, ground := Ground.phase }, { on := 8, ground := Ground.phase }, { on := 9, ground := Ground.phase }, { on := 10, ground := Ground.phase }, { on := 11, ground := Ground.phase }], guard := none }) (v := ?_) rfl (by kernel_rfl) (by kernel_rfl) (by kernel_rfl) (fun _ _ _ h => h) (Or.inl ⟨by rfl, ?_⟩) hHeld ?_
              rotate_left
              · (intro w hSw; go_simp; try with_reducible rfl)
              (try simp only [Act.put, List.setIfInBounds_toArray, List.set_cons_zero, List.set_cons_succ])
              refine wpAnyH_done (by kernel_rfl) ?_ _
              first | refine hK2 _ _ (Met.intro (hJ _ _ ?_)) | refine Met.intro (hJ _ _ ?_)
              (repeat apply Exists.intro)
              refine ⟨?_, rfl⟩
              exact ⟨_, _, _, rfl, rfl, Lib.hid ⟨hzl, hz2, hr2⟩, Lib.hid hHeld⟩
      · go_simp
        obtain ⟨hzl, hz⟩ := box52_new hHeld
        refine hK.out _ _ (bch hHeld (below_new _ _)) (fun hHeld => ?_)
        (try simp only [Act.put, List.setIfInBounds_toArray, List.set_cons_zero, List.set_cons_succ])
        refine wpAnyH_ready (rs := [0]) (by kernel_rfl) (by simp) (AllReadyH.cons (o := { dst := some 32, op := Op.call { callee := Callee.value (Operand.func 19), args := #[], argTypes := #[] }, type := 52, pos := "outright.go:64", after := #[], guard := none }) rfl (fun K hK => ?_) AllReadyH.nil)
        · go_simp
          refine (begin_q t fr _ (HP.out.on (bch HB5.out hHeld))).mono ?_
          rintro e wa ⟨rfl, hba⟩
          have hz := hz.below hba hz.lt
          refine hK.out _ _ (bch hHeld hba) (fun hHeld => ?_)
          (try simp only [Act.put, List.setIfInBounds_toArray, List.set_cons_zero, List.set_cons_succ])
          refine wpAnyH_ready (rs := [6]) (by kernel_rfl) (by simp) (AllReadyH.cons (o := { dst := some 38, op := Op.call { callee := Callee.value (Operand.func 20), args := #[Operand.tmp 32, Operand.tmp 37], argTypes := #[52, 24] }, type := 55, pos := "outright.go:64", after := #[{ on := 0, ground := Ground.data }, { on := 5, ground := Ground.data }, { on := 0, ground := Ground.chain }], guard := none }) rfl (fun K hK => ?_) AllReadyH.nil)
          · go_simp
            refine (more_first t fr x7 S7 r7 q7 m1 HS7.out.get Hr7.out.get Hq7.out Hn7.out _ _ (HP.out.on (bch HB5.out hHeld)) (RX7.out.on hHeld) Hx7.out).mono ?_
            rintro e wa ⟨a9, c9, rfl, hown, hba⟩
            have hfar := fun cs => Rd.of_own (own_far_row hown.out hz.lt cs)
            have hz := hz.below hba hz.lt
            refine hK.out _ _ (bch hHeld hba) (fun hHeld => ?_)
            (try simp only [Act.put, List.setIfInBounds_toArray, List.set_cons_zero, List.set_cons_succ])
            refine wpAnyH_take (i := 7) (oi := { dst := some 31, op := Op.move (Operand.tmp 38), type := 55, pos := "outright.go:64", after := #[{ on := 6, ground := Ground.data }], guard := none }) (v := ?_) rfl (by kernel_rfl) (by kernel_rfl) (by kernel_rfl) (fun _ _ _ h => h) (Or.inl ⟨by rfl, ?_⟩) hHeld ?_
            rotate_left
            · (intro w hSw; go_simp; try with_reducible rfl)
            (try simp only [Act.put, List.setIfInBounds_toArray, List.set_cons_zero, List.set_cons_succ])
            refine wpAnyH_take (i := 8) (oi := { dst := some 39, op := Op.extract (Operand.tmp 31) 0, type := 52, pos := "outright.go:64", after := #[{ on := 7, ground := Ground.data }], guard := none }) (v := ?_) rfl (by kernel_rfl) (by kernel_rfl) (by kernel_rfl) (fun _ _ _ h => h) (Or.inl ⟨by rfl, ?_⟩) hHeld ?_
            rotate_left
            · (intro w hSw; go_simp; try with_reducible rfl)
            (try simp only [Act.put, List.setIfInBounds_toArray, List.set_cons_zero, List.set_cons_succ])
            refine wpAnyH_take (i := 9) (oi := { dst := some 40, op := Op.extract (Operand.tmp 31) 1, type := 43, pos := "outright.go:64", after := #[{ on := 7, ground := Ground.data }, { on := 11, ground := Ground.gcOnly Departure.lateStores }], guard := none }) (v := ?_) rfl (by kernel_rfl) (by kernel_rfl) (by kernel_rfl) (fun _ _ _ h => h) (Or.inl ⟨by rfl, ?_⟩) hHeld ?_
            rotate_left
            · (intro w hSw; go_simp; try with_reducible rfl)
            (try simp only [Act.put, List.setIfInBounds_toArray, List.set_cons_zero, List.set_cons_succ])
            refine wpAnyH_ready (rs := [11]) (by kernel_rfl) (by simp) (AllReadyH.cons (o := { dst := none, op := Op.store 52 (Operand.tmp 7) (Operand.tmp 39), type := 0, pos := "outright.go:64", after := #[{ on := 10, ground := Ground.data }, { on := 8, ground := Ground.data }, { on := 6, ground := Ground.chain }, { on := 0, ground := Ground.phase }, { on := 1, ground := Ground.phase }, { on := 2, ground := Ground.phase }, { on := 3, ground := Ground.phase }, { on := 4, ground := Ground.phase }, { on := 5, ground := Ground.phase }, { on := 6, ground := Ground.phase }, { on := 7, ground := Ground.phase }, { on := 8, ground := Ground.phase }, { on := 9, ground := Ground.textOnly Departure.lateStores }, { on := 10, ground := Ground.phase }], guard := none }) rfl (fun K hK => ?_) AllReadyH.nil)
            · refine wp_store_if (by rfl) 52 (.tmp 7) (.tmp 39) rfl _ 52 #[z32, z32, z32, z32, z32, z32, z32, z32, nilS, .int .u64 0] (runA S7 (.slice a9 q7 c9) m1) rfl rfl hz info52 rfl (runA_one _ _ _ _ _) ?_
              have hz2 := hz.row (runA S7 (.slice a9 q7 c9) m1)
              have hr2 := hfar (runA S7 (.slice a9 q7 c9) m1)
              have hb2 := below_row hHeld hzl (runA S7 (.slice a9 q7 c9) m1)
              refine hK.out _ _ hb2 (fun hHeld => ?_)
              (try simp only [Act.put])
              refine wpAnyH_take (i := 12) (oi := { dst := some 8, op := Op.assign (Operand.tmp 40), type := 43, pos := "outright.go:64", after := #[{ on := 9, ground := Ground.data }, { on := 11, ground := Ground.chain }, { on := 0, ground := Ground.phase }, { on := 1, ground := Ground.phase }, { on := 2, ground := Ground.phase }, { on := 3, ground := Ground.phase }, { on := 4, ground := Ground.phase }, { on := 5, ground := Ground.phase }, { on := 6, ground := Ground.phase }, { on := 7, ground := Ground.phase }, { on := 8, ground := Ground.phase }, { on := 9, ground := Ground.phase }, { on := 10, ground := Ground.phase }, { on := 11, ground := Ground.phase }], guard := none }) (v := ?_) rfl (by kernel_rfl) (by kernel_rfl) (by kernel_rfl) (fun _ _ _ h => h) (Or.inl ⟨by rfl, ?_⟩) hHeld ?_
              rotate_left
              · (intro w hSw; go_simp; try with_reducible rfl)
              (try simp only [Act.put, List.setIfInBounds_toArray, List.set_cons_zero, List.set_cons_succ])
              refine wpAnyH_done (by kernel_rfl) ?_ _
              first | refine hK2 _ _ (Met.intro (hJ _ _ ?_)) | refine Met.intro (hJ _ _ ?_)
              (repeat apply Exists.intro)
              refine ⟨?_, rfl⟩
              exact ⟨_, _, _, rfl, rfl, Lib.hid ⟨hzl, hz2, hr2⟩, Lib.hid hHeld⟩
    case rest =>
    obtain ⟨h7, ap, cp, rfl, rfl, HC7, HB7⟩ := hcut
    have HZ8 : Hid (Box wc h7 52 (runA S7 (.slice ap q7 cp) m1)) := Lib.hid HC7.out.2.1
    have HL8 : Hid (w5.heap.size ≤ h7) := Lib.hid HC7.out.1
    have HP8 : Hid (Prim t fr wc.drew) := Lib.hid (show Prim t fr wc from HP.out.on (bch HB5.out HB7.out))
    have RY8 : Rd wc (.slice (if cap = m1 then a else a.map (fun x => x.add m1)) (m - m1) (cap - m1)) (bytesV (b.drop m1)) := (drop_rd HR5.out HM.out m1 (by have := HM1.out; omega)).on HB7.out
    have HMN8 : Hid (∀ W, W = wc.drew → Calls Tryd.prog 20 #[.agg (runA S7 (.slice ap q7 cp) m1), .slice (if cap = m1 then a else a.map (fun x => x.add m1)) (m - m1) (cap - m1)] W (MoreQ SB rB q m W)) := Lib.hid (fun W hW => by
      subst hW
      exact more_next t fr x7 (b.drop m1) S7 r7 q7 m1 HS7.out.get Hr7.out.get Hq7.out Hn7.out SB rB q m (by rw [HXY7.out.get]; exact HSB.out.get) (by rw [HXY7.out.get]; exact HRB.out.get) HQ.out (by rw [HXY7.out.get]; exact HM.out) ap cp _ _ HP8.out HC7.out.2.2 RY8 (by rw [HXY7.out.get]; have := HBL.out; have := HM.out; omega))
    clear RY8
    go_wp2_with fail
    go_cut [9] (fun ee wx => ∃ a9 c9, ee = .int .i64 0 ∧ Hid (Box wx h7 52 (runA SB (.slice a9 q c9) m) ∧ Rd wx (.slice a9 q c9) (bytesV rB)) ∧ Hid (Below w5.heap.size w5 wx))
    case first =>
      rename_i J2 K2 hJ hK2
      have hHB := HB7.out
      refine wp_region_held_drew (S := fun w' => Below w5.heap.size w5 w') (by kernel_rfl) hHB.drew (fun hHeld => ?_)
      refine wpAnyH_take (i := 1) (oi := { dst := some 43, op := Op.move (Operand.tmp 0), type := 24, pos := "outright.go:65", after := #[], guard := none }) (v := ?_) rfl (by kernel_rfl) (by kernel_rfl) (by kernel_rfl) (fun _ _ _ h => h) (Or.inl ⟨by rfl, ?_⟩) hHeld ?_
      rotate_left
      · (intro w hSw; go_simp; try with_reducible rfl)
      (try simp only [Act.put, List.setIfInBounds_toArray, List.set_cons_zero, List.set_cons_succ])
      refine wpAnyH_take (i := 2) (oi := { dst := some 44, op := Op.move (Operand.tmp 0), type := 24, pos := "outright.go:65", after := #[], guard := none }) (v := ?_) rfl (by kernel_rfl) (by kernel_rfl) (by kernel_rfl) (fun _ _ _ h => h) (Or.inl ⟨by rfl, ?_⟩) hHeld ?_
      rotate_left
      · (intro w hSw; go_simp; try with_reducible rfl)
      (try simp only [Act.put, List.setIfInBounds_toArray, List.set_cons_zero, List.set_cons_succ])
      refine wpAnyH_take (i := 3) (oi := { dst := some 45, op := Op.call { callee := Callee.builtin Builtin.len, args := #[Operand.tmp 44], argTypes := #[24] }, type := 3, pos := "outright.go:65", after := #[{ on := 2, ground := Ground.data }], guard := none }) (v := ?_) rfl (by kernel_rfl) (by kernel_rfl) (by kernel_rfl) (fun _ _ _ h => h) (Or.inl ⟨by rfl, ?_⟩) hHeld ?_
      rotate_left
      · (intro w hSw; go_simp; try with_reducible rfl)
      (try simp only [Act.put, List.setIfInBounds_toArray, List.set_cons_zero, List.set_cons_succ])
      refine wpAnyH_take (i := 4) (oi := { dst := some 46, op := Op.binOp BinOp.sub 3 (Operand.tmp 45) (Operand.const (Value.int IntKind.i64 1)) 3, type := 3, pos := "outright.go:65", after := #[{ on := 3, ground := Ground.data }], guard := none }) (v := ?_) rfl (by kernel_rfl) (by kernel_rfl) (by kernel_rfl) (fun _ _ _ h => h) (Or.inl ⟨by rfl, ?_⟩) hHeld ?_
      rotate_left
      · (intro w hSw; go_simp; try with_reducible rfl)
      (try simp only [Act.put, List.setIfInBounds_toArray, List.set_cons_zero, List.set_cons_succ])
      refine wpAnyH_take (i := 5) (oi := { dst := some 47, op := Op.slice 24 (Operand.tmp 43) (some (Operand.tmp 46)) none none, type := 24, pos := "outright.go:65", after := #[{ on := 1, ground := Ground.data }, { on := 4, ground := Ground.data }], guard := none }) (v := ?_) rfl (by kernel_rfl) (by kernel_rfl) (by kernel_rfl) (fun _ _ _ h => h) (Or.inl ⟨by rfl, ?_⟩) hHeld ?_
      rotate_left
      · (intro w hSw; go_simp; try with_reducible rfl)
      (try simp only [Act.put, List.setIfInBounds_toArray, List.set_cons_zero, List.set_cons_succ])
      refine wpAnyH_ready (rs := [0]) (by kernel_rfl) (by simp) (AllReadyH.cons (o := { dst := some 42, op := Op.load 52 (Operand.tmp 7), type := 52, pos := "outright.go:65", after := #[], guard := none }) rfl (fun K hK => ?_) AllReadyH.nil)
      · refine wp_load_if (by rfl) 52 (.tmp 7) rfl h7 52 (runA S7 (.slice ap q7 cp) m1) rfl HZ8.out.drew _ Tryd.underlying52 rfl info52 ?_
        refine hK.out _ _ hHeld (fun hHeld => ?_)
        (try simp only [Act.put, List.setIfInBounds_toArray, List.set_cons_zero, List.set_cons_succ])
        refine wpAnyH_ready (rs := [6]) (by kernel_rfl) (by simp) (AllReadyH.cons (o := { dst := some 48, op := Op.call { callee := Callee.value (Operand.func 20), args := #[Operand.tmp 42, Operand.tmp 47], argTypes := #[52, 24] }, type := 55, pos := "outright.go:65", after := #[{ on := 0, ground := Ground.data }, { on := 5, ground := Ground.data }], guard := none }) rfl (fun K hK => ?_) AllReadyH.nil)
        · go_simp
          refine (HMN8.out _ rfl).mono ?_
          rintro e wa ⟨a9, c9, rfl, hown, hba⟩
          have hlt := HZ8.out.lt
          have hfar := fun cs => Rd.of_own (own_far_row hown.out (show _ < _ from hlt) cs)
          have hz := HZ8.out.drew.below hba hlt
          refine hK.out _ _ (bch hHeld hba) (fun hHeld => ?_)
          (try simp only [Act.put, List.setIfInBounds_toArray, List.set_cons_zero, List.set_cons_succ])
          refine wpAnyH_take (i := 7) (oi := { dst := some 41, op := Op.move (Operand.tmp 48), type := 55, pos := "outright.go:65", after := #[{ on := 6, ground := Ground.data }], guard := none }) (v := ?_) rfl (by kernel_rfl) (by kernel_rfl) (by kernel_rfl) (fun _ _ _ h => h) (Or.inl ⟨by rfl, ?_⟩) hHeld ?_
          rotate_left
          · (intro w hSw; go_simp; try with_reducible rfl)
          (try simp only [Act.put, List.setIfInBounds_toArray, List.set_cons_zero, List.set_cons_succ])
          refine wpAnyH_take (i := 8) (oi := { dst := some 49, op := Op.extract (Operand.tmp 41) 0, type := 52, pos := "outright.go:65", after := #[{ on := 7, ground := Ground.data }], guard := none }) (v := ?_) rfl (by kernel_rfl) (by kernel_rfl) (by kernel_rfl) (fun _ _ _ h => h) (Or.inl ⟨by rfl, ?_⟩) hHeld ?_
          rotate_left
          · (intro w hSw; go_simp; try with_reducible rfl)
          (try simp only [Act.put, List.setIfInBounds_toArray, List.set_cons_zero, List.set_cons_succ])
          refine wpAnyH_take (i := 9) (oi := { dst := some 50, op := Op.extract (Operand.tmp 41) 1, type := 43, pos := "outright.go:65", after := #[{ on := 7, ground := Ground.data }, { on := 10, ground := Ground.gcOnly Departure.lateStores }], guard := none }) (v := ?_) rfl (by kernel_rfl) (by kernel_rfl) (by kernel_rfl) (fun _ _ _ h => h) (Or.inl ⟨by rfl, ?_⟩) hHeld ?_
          rotate_left
          · (intro w hSw; go_simp; try with_reducible rfl)
          (try simp only [Act.put, List.setIfInBounds_toArray, List.set_cons_zero, List.set_cons_succ])
          refine wpAnyH_ready (rs := [10]) (by kernel_rfl) (by simp) (AllReadyH.cons (o := { dst := none, op := Op.store 52 (Operand.tmp 7) (Operand.tmp 49), type := 0, pos := "outright.go:65", after := #[{ on := 8, ground := Ground.data }, { on := 6, ground := Ground.chain }, { on := 0, ground := Ground.phase }, { on := 1, ground := Ground.phase }, { on := 2, ground := Ground.phase }, { on := 3, ground := Ground.phase }, { on := 4, ground := Ground.phase }, { on := 5, ground := Ground.phase }, { on := 6, ground := Ground.phase }, { on := 7, ground := Ground.phase }, { on := 8, ground := Ground.phase }, { on := 9, ground := Ground.textOnly Departure.lateStores }], guard := none }) rfl (fun K hK => ?_) AllReadyH.nil)
          · refine wp_store_if (by rfl) 52 (.tmp 7) (.tmp 49) rfl h7 52 (runA S7 (.slice ap q7 cp) m1) (runA SB (.slice a9 q c9) m) rfl rfl hz info52 rfl (runA_one _ _ _ _ _) ?_
            have hz2 := hz.row (runA SB (.slice a9 q c9) m)
            have hr2 := hfar (runA SB (.slice a9 q c9) m)
            have hb2 := below_row hHeld HL8.out (runA SB (.slice a9 q c9) m)
            refine hK.out _ _ hb2 (fun hHeld => ?_)
            (try simp only [Act.put])
            refine wpAnyH_take (i := 11) (oi := { dst := some 9, op := Op.assign (Operand.tmp 50), type := 43, pos := "outright.go:65", after := #[{ on := 9, ground := Ground.data }, { on := 10, ground := Ground.chain }, { on := 0, ground := Ground.phase }, { on := 1, ground := Ground.phase }, { on := 2, ground := Ground.phase }, { on := 3, ground := Ground.phase }, { on := 4, ground := Ground.phase }, { on := 5, ground := Ground.phase }, { on := 6, ground := Ground.phase }, { on := 7, ground := Ground.phase }, { on := 8, ground := Ground.phase }, { on := 9, ground := Ground.phase }, { on := 10, ground := Ground.phase }], guard := none }) (v := ?_) rfl (by kernel_rfl) (by kernel_rfl) (by kernel_rfl) (fun _ _ _ h => h) (Or.inl ⟨by rfl, ?_⟩) hHeld ?_
            rotate_left
            · (intro w hSw; go_simp; try with_reducible rfl)
            (try simp only [Act.put, List.setIfInBounds_toArray, List.set_cons_zero, List.set_cons_succ])
            refine wpAnyH_done (by kernel_rfl) ?_ _
            first | refine hK2 _ _ (Met.intro (hJ _ _ ?_)) | refine Met.intro (hJ _ _ ?_)
            (repeat apply Exists.intro)
            refine ⟨?_, rfl⟩
            exact ⟨_, _, rfl, Lib.hid ⟨hz2, hr2⟩, Lib.hid hHeld⟩
    case rest =>
    obtain ⟨w8, rfl⟩ : ∃ x, x = wc := ⟨_, rfl⟩
    obtain ⟨a8, c8, rfl, HC8, HB8⟩ := hcut
    clear HC7 HB7 HMN8 HXY7 HS7 Hr7 Hq7 Hn7 Hx7 HZ8 HP8 RX7
    have HB8w := Lib.hid (bch HB5.out HB8.out)
    have HR8 := Lib.hid (HR5.out.on HB8.out)
    obtain ⟨kk, hkk, hkm⟩ : ∃ kk : Nat, wrap64 ((IntKind.u64.wrap i).tmod (m : Int)) = (kk : Int) ∧ kk < m := by
      have hU : (0 : Int) ≤ IntKind.u64.wrap i := by
        have e : IntKind.u64.wrap i = i % 18446744073709551616 := by simp [IntKind.wrap, IntKind.bits, IntKind.signed]
        rw [e]
        omega
      have hm := HBL.out
      have hmp : 0 < m := by have := HM1.out; omega
      generalize IntKind.u64.wrap i = U at hU
      have h1 : 0 ≤ U.tmod (m : Int) := Int.tmod_nonneg _ hU
      have h2 : U.tmod (m : Int) < (m : Int) := Int.tmod_lt_of_pos _ (by omega)
      refine ⟨(U.tmod (m : Int)).toNat, ?_, by omega⟩
      rw [IntWalk.wrap64_in _ (by omega)]
      omega
    have HKM := Lib.hid hkm
    clear e2 e3 k1 k2 k3 hkm
    have HKK := Lib.hid hkk
    clear hkk
    go_wp2_with fail
    rw [HKK.out]
    have hkm := HKM.out
    have e3 : IntKind.i64.wrap (kk : Int) = (kk : Int) := IntWalk.i64_in _ (by have := HBL.out; omega)
    have k1 : (0 : Int) ≤ (kk : Int) := by omega
    have k2 : (kk : Int) ≤ (m : Int) := by omega
    have k3 : (kk : Int) ≤ (cap : Int) := by omega
    obtain ⟨x10, hx10⟩ : ∃ x, x = b.take kk := ⟨_, rfl⟩
    have hx10l : x10.length = kk := by rw [hx10, List.length_take]; have := HM.out; omega
    have RX10 : Hid (Rd w8 (.slice a kk cap) (bytesV x10)) := Lib.hid (by rw [hx10]; exact take_rd HR8.out HM.out kk (by omega))
    obtain ⟨S10, hS10⟩ : ∃ S, S = wordsOf first x10 := ⟨_, rfl⟩
    obtain ⟨r10, hr10⟩ : ∃ r, r = restOf x10 := ⟨_, rfl⟩
    obtain ⟨q10, hq10⟩ : ∃ q, q = r10.length := ⟨_, rfl⟩
    have HS10 := Lib.hid (Wrapped.mk hS10)
    have Hr10 := Lib.hid (Wrapped.mk hr10)
    have Hq10 := Lib.hid hq10
    have Hn10 := Lib.hid hx10l.symm
    have Hx10 : Hid (x10.length ≤ 1000000) := Lib.hid (by have := HBL.out; omega)
    have HXY10 : Hid (Wrapped (x10 ++ b.drop kk = b)) := Lib.hid (Wrapped.mk (by rw [hx10]; exact List.take_append_drop _ _))
    clear hS10 hr10 hq10 hx10l hx10 HKK HI
    go_cut [11, 12] (fun p ee wx => ∃ h a9 c9, p = .pointer (some ⟨h, 0, none⟩) ∧ ee = .int .i64 0 ∧ Hid (w8.heap.size ≤ h ∧ Box wx h 52 (runA S10 (.slice a9 q10 c9) kk) ∧ Rd wx (.slice a9 q10 c9) (bytesV r10)) ∧ Hid (Below w8.heap.size w8 wx))
    case first =>
      rename_i J2 K2 hJ hK2
      refine wp_region_held_drew (S := fun w' => Below w8.heap.size w8 w') (by kernel_rfl) ((Below.refl _ _).drew) (fun hHeld => ?_)
      refine wpAnyH_take (i := 1) (oi := { dst := some 60, op := Op.move (Operand.tmp 0), type := 24, pos := "outright.go:67", after := #[], guard := none }) (v := ?_) rfl (by kernel_rfl) (by kernel_rfl) (by kernel_rfl) (fun _ _ _ h => h) (Or.inl ⟨by rfl, ?_⟩) hHeld ?_
      rotate_left
      · (intro w hSw; go_simp; try with_reducible rfl)
      (try simp only [Act.put, List.setIfInBounds_toArray, List.set_cons_zero, List.set_cons_succ])
      refine wpAnyH_take (i := 2) (oi := { dst := some 61, op := Op.move (Operand.tmp 10), type := 3, pos := "outright.go:67", after := #[], guard := none }) (v := ?_) rfl (by kernel_rfl) (by kernel_rfl) (by kernel_rfl) (fun _ _ _ h => h) (Or.inl ⟨by rfl, ?_⟩) hHeld ?_
      rotate_left
      · (intro w hSw; go_simp; try with_reducible rfl)
      (try simp only [Act.put, List.setIfInBounds_toArray, List.set_cons_zero, List.set_cons_succ])
      refine wpAnyH_take (i := 3) (oi := { dst := some 62, op := Op.slice 24 (Operand.tmp 60) none (some (Operand.tmp 61)) none, type := 24, pos := "outright.go:67", after := #[{ on := 1, ground := Ground.data }, { on := 2, ground := Ground.data }], guard := none }) (v := ?_) rfl (by kernel_rfl) (by kernel_rfl) (by kernel_rfl) (fun _ _ _ h => h) (Or.inl ⟨by rfl, ?_⟩) hHeld ?_
      rotate_left
      · (intro w hSw; go_simp; try with_reducible rfl)
      (try simp only [Act.put, List.setIfInBounds_toArray, List.set_cons_zero, List.set_cons_succ])
      refine wpAnyH_ready (rs := [0, 8]) (by kernel_rfl) (by simp) (AllReadyH.cons (o := { dst := some 59, op := Op.call { callee := Callee.value (Operand.func 19), args := #[], argTypes := #[] }, type := 52, pos := "outright.go:67", after := #[], guard := none }) rfl (fun K hK => ?_) (AllReadyH.cons (o := { dst := some 11, op := Op.alloc 52, type := 0, pos := "outright.go:67", after := #[], guard := none }) rfl (fun K hK => ?_) AllReadyH.nil))
      · go_simp
        refine (begin_q t fr _ (HP.out.on (bch HB8w.out hHeld))).mono ?_
        rintro e wa ⟨rfl, hba⟩
        refine hK.out _ _ (bch hHeld hba) (fun hHeld => ?_)
        (try simp only [Act.put, List.setIfInBounds_toArray, List.set_cons_zero, List.set_cons_succ])
        refine wpAnyH_ready (rs := [4, 8]) (by kernel_rfl) (by simp) (AllReadyH.cons (o := { dst := some 63, op := Op.call { callee := Callee.value (Operand.func 20), args := #[Operand.tmp 59, Operand.tmp 62], argTypes := #[52, 24] }, type := 55, pos := "outright.go:67", after := #[{ on := 0, ground := Ground.data }, { on := 3, ground := Ground.data }, { on := 0, ground := Ground.chain }], guard := none }) rfl (fun K hK => ?_) (AllReadyH.cons (o := { dst := some 11, op := Op.alloc 52, type := 0, pos := "outright.go:67", after := #[], guard := none }) rfl (fun K hK => ?_) AllReadyH.nil))
        · go_simp
          refine (more_first t fr x10 S10 r10 q10 kk HS10.out.get Hr10.out.get Hq10.out Hn10.out _ _ (HP.out.on (bch HB8w.out hHeld)) (RX10.out.on hHeld) Hx10.out).mono ?_
          rintro e wa ⟨a9, c9, rfl, hown, hba⟩
          refine hK.out _ _ (bch hHeld hba) (fun hHeld => ?_)
          (try simp only [Act.put, List.setIfInBounds_toArray, List.set_cons_zero, List.set_cons_succ])
          refine wpAnyH_take (i := 5) (oi := { dst := some 58, op := Op.move (Operand.tmp 63), type := 55, pos := "outright.go:67", after := #[{ on := 4, ground := Ground.data }], guard := none }) (v := ?_) rfl (by kernel_rfl) (by kernel_rfl) (by kernel_rfl) (fun _ _ _ h => h) (Or.inl ⟨by rfl, ?_⟩) hHeld ?_
          rotate_left
          · (intro w hSw; go_simp; try with_reducible rfl)
          (try simp only [Act.put, List.setIfInBounds_toArray, List.set_cons_zero, List.set_cons_succ])
          refine wpAnyH_take (i := 6) (oi := { dst := some 64, op := Op.extract (Operand.tmp 58) 0, type := 52, pos := "outright.go:67", after := #[{ on := 5, ground := Ground.data }], guard := none }) (v := ?_) rfl (by kernel_rfl) (by kernel_rfl) (by kernel_rfl) (fun _ _ _ h => h) (Or.inl ⟨by rfl, ?_⟩) hHeld ?_
          rotate_left
          · (intro w hSw; go_simp; try with_reducible rfl)
          (try simp only [Act.put, List.setIfInBounds_toArray, List.set_cons_zero, List.set_cons_succ])
          refine wpAnyH_take (i := 7) (oi := { dst := some 65, op := Op.extract (Operand.tmp 58) 1, type := 43, pos := "outright.go:67", after := #[{ on := 5, ground := Ground.data }, { on := 9, ground := Ground.gcOnly Departure.lateStores }], guard := none }) (v := ?_) rfl (by kernel_rfl) (by kernel_rfl) (by kernel_rfl) (fun _ _ _ h => h) (Or.inl ⟨by rfl, ?_⟩) hHeld ?_
          rotate_left
          · (intro w hSw; go_simp; try with_reducible rfl)
          (try simp only [Act.put, List.setIfInBounds_toArray, List.set_cons_zero, List.set_cons_succ])
          refine wpAnyH_ready (rs := [8]) (by kernel_rfl) (by simp) (AllReadyH.cons (o := { dst := some 11, op := Op.alloc 52, type := 0, pos := "outright.go:67", after := #[], guard := none }) rfl (fun K hK => ?_) AllReadyH.nil)
          · go_simp
            obtain ⟨hzl, hz⟩ := box52_new hHeld
            have hfar := fun cs => (Rd.of_own hown.out).on (below_row (below_new wa (.cells #[z32, z32, z32, z32, z32, z32, z32, z32, nilS, .int .u64 0] 52)) (Nat.le_refl _) cs)
            refine hK.out _ _ (bch hHeld (below_new _ _)) (fun hHeld => ?_)
            (try simp only [Act.put, List.setIfInBounds_toArray, List.set_cons_zero, List.set_cons_succ])
            refine wpAnyH_ready (rs := [9]) (by kernel_rfl) (by simp) (AllReadyH.cons (o := { dst := none, op := Op.store 52 (Operand.tmp 11) (Operand.tmp 64), type := 0, pos := "outright.go:67", after := #[{ on := 8, ground := Ground.data }, { on := 6, ground := Ground.data }, { on := 4, ground := Ground.chain }, { on := 0, ground := Ground.phase }, { on := 1, ground := Ground.phase }, { on := 2, ground := Ground.phase }, { on := 3, ground := Ground.phase }, { on := 4, ground := Ground.phase }, { on := 5, ground := Ground.phase }, { on := 6, ground := Ground.phase }, { on := 7, ground := Ground.textOnly Departure.lateStores }, { on := 8, ground := Ground.phase }], guard := none }) rfl (fun K hK => ?_) AllReadyH.nil)
            · refine wp_store_if (by rfl) 52 (.tmp 11) (.tmp 64) rfl _ 52 #[z32, z32, z32, z32, z32, z32, z32, z32, nilS, .int .u64 0] (runA S10 (.slice a9 q10 c9) kk) rfl rfl hz info52 rfl (runA_one _ _ _ _ _) ?_
              have hz2 := hz.row (runA S10 (.slice a9 q10 c9) kk)
              have hr2 := hfar (runA S10 (.slice a9 q10 c9) kk)
              have hb2 := below_row hHeld hzl (runA S10 (.slice a9 q10 c9) kk)
              refine hK.out _ _ hb2 (fun hHeld => ?_)
              (try simp only [Act.put])
              refine wpAnyH_take (i := 10) (oi := { dst := some 12, op := Op.assign (Operand.tmp 65), type := 43, pos := "outright.go:67", after := #[{ on := 7, ground := Ground.data }, { on := 9, ground := Ground.chain }, { on := 0, ground := Ground.phase }, { on := 1, ground := Ground.phase }, { on := 2, ground := Ground.phase }, { on := 3, ground := Ground.phase }, { on := 4, ground := Ground.phase }, { on := 5, ground := Ground.phase }, { on := 6, ground := Ground.phase }, { on := 7, ground := Ground.phase }, { on := 8, ground := Ground.phase }, { on := 9, ground := Ground.phase }], guard := none }) (v := ?_) rfl (by kernel_rfl) (by kernel_rfl) (by kernel_rfl) (fun _ _ _ h => h) (Or.inl ⟨by rfl, ?_⟩) hHeld ?_
              rotate_left
              · (intro w hSw; go_simp; try with_reducible rfl)
              (try simp only [Act.put, List.setIfInBounds_toArray, List.set_cons_zero, List.set_cons_succ])
              refine wpAnyH_done (by kernel_rfl) ?_ _
              first | refine hK2 _ _ (Met.intro (hJ _ _ ?_)) | refine Met.intro (hJ _ _ ?_)
              (repeat apply Exists.intro)
              refine ⟨?_, rfl⟩
              exact ⟨_, _, _, rfl, rfl, Lib.hid ⟨hzl, hz2, hr2⟩, Lib.hid hHeld⟩
        · go_simp
          obtain ⟨hzl, hz⟩ := box52_new hHeld
          refine hK.out _ _ (bch hHeld (below_new _ _)) (fun hHeld => ?_)
          (try simp only [Act.put, List.setIfInBounds_toArray, List.set_cons_zero, List.set_cons_succ])
          refine wpAnyH_ready (rs := [4]) (by kernel_rfl) (by simp) (AllReadyH.cons (o := { dst := some 63, op := Op.call { callee := Callee.value (Operand.func 20), args := #[Operand.tmp 59, Operand.tmp 62], argTypes := #[52, 24] }, type := 55, pos := "outright.go:67", after := #[{ on := 0, ground := Ground.data }, { on := 3, ground := Ground.data }, { on := 0, ground := Ground.chain }], guard := none }) rfl (fun K hK => ?_) AllReadyH.nil)
          · go_simp
            refine (more_first t fr x10 S10 r10 q10 kk HS10.out.get Hr10.out.get Hq10.out Hn10.out _ _ (HP.out.on (bch HB8w.out hHeld)) (RX10.out.on hHeld) Hx10.out).mono ?_
            rintro e wa ⟨a9, c9, rfl, hown, hba⟩
            have hfar := fun cs => Rd.of_own (own_far_row hown.out hz.lt cs)
            have hz := hz.below hba hz.lt
            refine hK.out _ _ (bch hHeld hba) (fun hHeld => ?_)
            (try simp only [Act.put, List.setIfInBounds_toArray, List.set_cons_zero, List.set_cons_succ])
            refine wpAnyH_take (i := 5) (oi := { dst := some 58, op := Op.move (Operand.tmp 63), type := 55, pos := "outright.go:67", after := #[{ on := 4, ground := Ground.data }], guard := none }) (v := ?_) rfl (by kernel_rfl) (by kernel_rfl) (by kernel_rfl) (fun _ _ _ h => h) (Or.inl ⟨by rfl, ?_⟩) hHeld ?_
            rotate_left
            · (intro w hSw; go_simp; try with_reducible rfl)
            (try simp only [Act.put, List.setIfInBounds_toArray, List.set_cons_zero, List.set_cons_succ])
            refine wpAnyH_take (i := 6) (oi := { dst := some 64, op := Op.extract (Operand.tmp 58) 0, type := 52, pos := "outright.go:67", after := #[{ on := 5, ground := Ground.data }], guard := none }) (v := ?_) rfl (by kernel_rfl) (by kernel_rfl) (by kernel_rfl) (fun _ _ _ h => h) (Or.inl ⟨by rfl, ?_⟩) hHeld ?_
            rotate_left
            · (intro w hSw; go_simp; try with_reducible rfl)
            (try simp only [Act.put, List.setIfInBounds_toArray, List.set_cons_zero, List.set_cons_succ])
            refine wpAnyH_take (i := 7) (oi := { dst := some 65, op := Op.extract (Operand.tmp 58) 1, type := 43, pos := "outright.go:67", after := #[{ on := 5, ground := Ground.data }, { on := 9, ground := Ground.gcOnly Departure.lateStores }], guard := none }) (v := ?_) rfl (by kernel_rfl) (by kernel_rfl) (by kernel_rfl) (fun _ _ _ h => h) (Or.inl ⟨by rfl, ?_⟩) hHeld ?_
            rotate_left
            · (intro w hSw; go_simp; try with_reducible rfl)
            (try simp only [Act.put, List.setIfInBounds_toArray, List.set_cons_zero, List.set_cons_succ])
            refine wpAnyH_ready (rs := [9]) (by kernel_rfl) (by simp) (AllReadyH.cons (o := { dst := none, op := Op.store 52 (Operand.tmp 11) (Operand.tmp 64), type := 0, pos := "outright.go:67", after := #[{ on := 8, ground := Ground.data }, { on := 6, ground := Ground.data }, { on := 4, ground := Ground.chain }, { on := 0, ground := Ground.phase }, { on := 1, ground := Ground.phase }, { on := 2, ground := Ground.phase }, { on := 3, ground := Ground.phase }, { on := 4, ground := Ground.phase }, { on := 5, ground := Ground.phase }, { on := 6, ground := Ground.phase }, { on := 7, ground := Ground.textOnly Departure.lateStores }, { on := 8, ground := Ground.phase }], guard := none }) rfl (fun K hK => ?_) AllReadyH.nil)
            · refine wp_store_if (by rfl) 52 (.tmp 11) (.tmp 64) rfl _ 52 #[z32, z32, z32, z32, z32, z32, z32, z32, nilS, .int .u64 0] (runA S10 (.slice a9 q10 c9) kk) rfl rfl hz info52 rfl (runA_one _ _ _ _ _) ?_
              have hz2 := hz.row (runA S10 (.slice a9 q10 c9) kk)
              have hr2 := hfar (runA S10 (.slice a9 q10 c9) kk)
              have hb2 := below_row hHeld hzl (runA S10 (.slice a9 q10 c9) kk)
              refine hK.out _ _ hb2 (fun hHeld => ?_)
              (try simp only [Act.put])
              refine wpAnyH_take (i := 10) (oi := { dst := some 12, op := Op.assign (Operand.tmp 65), type := 43, pos := "outright.go:67", after := #[{ on := 7, ground := Ground.data }, { on := 9, ground := Ground.chain }, { on := 0, ground := Ground.phase }, { on := 1, ground := Ground.phase }, { on := 2, ground := Ground.phase }, { on := 3, ground := Ground.phase }, { on := 4, ground := Ground.phase }, { on := 5, ground := Ground.phase }, { on := 6, ground := Ground.phase }, { on := 7, ground := Ground.phase }, { on := 8, ground := Ground.phase }, { on := 9, ground := Ground.phase }], guard := none }) (v := ?_) rfl (by kernel_rfl) (by kernel_rfl) (by kernel_rfl) (fun _ _ _ h => h) (Or.inl ⟨by rfl, ?_⟩) hHeld ?_
              rotate_left
              · (intro w hSw; go_simp; try with_reducible rfl)
              (try simp only [Act.put, List.setIfInBounds_toArray, List.set_cons_zero, List.set_cons_succ])
              refine wpAnyH_done (by kernel_rfl) ?_ _
              first | refine hK2 _ _ (Met.intro (hJ _ _ ?_)) | refine Met.intro (hJ _ _ ?_)
              (repeat apply Exists.intro)
              refine ⟨?_, rfl⟩
              exact ⟨_, _, _, rfl, rfl, Lib.hid ⟨hzl, hz2, hr2⟩, Lib.hid hHeld⟩
      · go_simp
        obtain ⟨hzl, hz⟩ := box52_new hHeld
        refine hK.out _ _ (bch hHeld (below_new _ _)) (fun hHeld => ?_)
        (try simp only [Act.put, List.setIfInBounds_toArray, List.set_cons_zero, List.set_cons_succ])
        refine wpAnyH_ready (rs := [0]) (by kernel_rfl) (by simp) (AllReadyH.cons (o := { dst := some 59, op := Op.call { callee := Callee.value (Operand.func 19), args := #[], argTypes := #[] }, type := 52, pos := "outright.go:67", after := #[], guard := none }) rfl (fun K hK => ?_) AllReadyH.nil)
        · go_simp
          refine (begin_q t fr _ (HP.out.on (bch HB8w.out hHeld))).mono ?_
          rintro e wa ⟨rfl, hba⟩
          have hz := hz.below hba hz.lt
          refine hK.out _ _ (bch hHeld hba) (fun hHeld => ?_)
          (try simp only [Act.put, List.setIfInBounds_toArray, List.set_cons_zero, List.set_cons_succ])
          refine wpAnyH_ready (rs := [4]) (by kernel_rfl) (by simp) (AllReadyH.cons (o := { dst := some 63, op := Op.call { callee := Callee.value (Operand.func 20), args := #[Operand.tmp 59, Operand.tmp 62], argTypes := #[52, 24] }, type := 55, pos := "outright.go:67", after := #[{ on := 0, ground := Ground.data }, { on := 3, ground := Ground.data }, { on := 0, ground := Ground.chain }], guard := none }) rfl (fun K hK => ?_) AllReadyH.nil)
          · go_simp
            refine (more_first t fr x10 S10 r10 q10 kk HS10.out.get Hr10.out.get Hq10.out Hn10.out _ _ (HP.out.on (bch HB8w.out hHeld)) (RX10.out.on hHeld) Hx10.out).mono ?_
            rintro e wa ⟨a9, c9, rfl, hown, hba⟩
            have hfar := fun cs => Rd.of_own (own_far_row hown.out hz.lt cs)
            have hz := hz.below hba hz.lt
            refine hK.out _ _ (bch hHeld hba) (fun hHeld => ?_)
            (try simp only [Act.put, List.setIfInBounds_toArray, List.set_cons_zero, List.set_cons_succ])
            refine wpAnyH_take (i := 5) (oi := { dst := some 58, op := Op.move (Operand.tmp 63), type := 55, pos := "outright.go:67", after := #[{ on := 4, ground := Ground.data }], guard := none }) (v := ?_) rfl (by kernel_rfl) (by kernel_rfl) (by kernel_rfl) (fun _ _ _ h => h) (Or.inl ⟨by rfl, ?_⟩) hHeld ?_
            rotate_left
            · (intro w hSw; go_simp; try with_reducible rfl)
            (try simp only [Act.put, List.setIfInBounds_toArray, List.set_cons_zero, List.set_cons_succ])
            refine wpAnyH_take (i := 6) (oi := { dst := some 64, op := Op.extract (Operand.tmp 58) 0, type := 52, pos := "outright.go:67", after := #[{ on := 5, ground := Ground.data }], guard := none }) (v := ?_) rfl (by kernel_rfl) (by kernel_rfl) (by kernel_rfl) (fun _ _ _ h => h) (Or.inl ⟨by rfl, ?_⟩) hHeld ?_
            rotate_left
            · (intro w hSw; go_simp; try with_reducible rfl)
            (try simp only [Act.put, List.setIfInBounds_toArray, List.set_cons_zero, List.set_cons_succ])
            refine wpAnyH_take (i := 7) (oi := { dst := some 65, op := Op.extract (Operand.tmp 58) 1, type := 43, pos := "outright.go:67", after := #[{ on := 5, ground := Ground.data }, { on := 9, ground := Ground.gcOnly Departure.lateStores }], guard := none }) (v := ?_) rfl (by kernel_rfl) (by kernel_rfl) (by kernel_rfl) (fun _ _ _ h => h) (Or.inl ⟨by rfl, ?_⟩) hHeld ?_
            rotate_left
            · (intro w hSw; go_simp; try with_reducible rfl)
            (try simp only [Act.put, List.setIfInBounds_toArray, List.set_cons_zero, List.set_cons_succ])
            refine wpAnyH_ready (rs := [9]) (by kernel_rfl) (by simp) (AllReadyH.cons (o := { dst := none, op := Op.store 52 (Operand.tmp 11) (Operand.tmp 64), type := 0, pos := "outright.go:67", after := #[{ on := 8, ground := Ground.data }, { on := 6, ground := Ground.data }, { on := 4, ground := Ground.chain }, { on := 0, ground := Ground.phase }, { on := 1, ground := Ground.phase }, { on := 2, ground := Ground.phase }, { on := 3, ground := Ground.phase }, { on := 4, ground := Ground.phase }, { on := 5, ground := Ground.phase }, { on := 6, ground := Ground.phase }, { on := 7, ground := Ground.textOnly Departure.lateStores }, { on := 8, ground := Ground.phase }], guard := none }) rfl (fun K hK => ?_) AllReadyH.nil)
            · refine wp_store_if (by rfl) 52 (.tmp 11) (.tmp 64) rfl _ 52 #[z32, z32, z32, z32, z32, z32, z32, z32, nilS, .int .u64 0] (runA S10 (.slice a9 q10 c9) kk) rfl rfl hz info52 rfl (runA_one _ _ _ _ _) ?_
              have hz2 := hz.row (runA S10 (.slice a9 q10 c9) kk)
              have hr2 := hfar (runA S10 (.slice a9 q10 c9) kk)
              have hb2 := below_row hHeld hzl (runA S10 (.slice a9 q10 c9) kk)
              refine hK.out _ _ hb2 (fun hHeld => ?_)
              (try simp only [Act.put])
              refine wpAnyH_take (i := 10) (oi := { dst := some 12, op := Op.assign (Operand.tmp 65), type := 43, pos := "outright.go:67", after := #[{ on := 7, ground := Ground.data }, { on := 9, ground := Ground.chain }, { on := 0, ground := Ground.phase }, { on := 1, ground := Ground.phase }, { on := 2, ground := Ground.phase }, { on := 3, ground := Ground.phase }, { on := 4, ground := Ground.phase }, { on := 5, ground := Ground.phase }, { on := 6, ground := Ground.phase }, { on := 7, ground := Ground.phase }, { on := 8, ground := Ground.phase }, { on := 9, ground := Ground.phase }], guard := none }) (v := ?_) rfl (by kernel_rfl) (by kernel_rfl) (by kernel_rfl) (fun _ _ _ h => h) (Or.inl ⟨by rfl, ?_⟩) hHeld ?_
              rotate_left
              · (intro w hSw; go_simp; try with_reducible rfl)
              (try simp only [Act.put, List.setIfInBounds_toArray, List.set_cons_zero, List.set_cons_succ])
              refine wpAnyH_done (by kernel_rfl) ?_ _
              first | refine hK2 _ _ (Met.intro (hJ _ _ ?_)) | refine Met.intro (hJ _ _ ?_)
              (repeat apply Exists.intro)
              refine ⟨?_, rfl⟩
              exact ⟨_, _, _, rfl, rfl, Lib.hid ⟨hzl, hz2, hr2⟩, Lib.hid hHeld⟩
    case rest =>
    obtain ⟨w10, rfl⟩ : ∃ x, x = wc := ⟨_, rfl⟩
    obtain ⟨h10, ap, cp, rfl, rfl, HC10, HB10⟩ := hcut
    have HZ11 : Hid (Box w10 h10 52 (runA S10 (.slice ap q10 cp) kk)) := Lib.hid HC10.out.2.1
    have HL11 : Hid (w8.heap.size ≤ h10) := Lib.hid HC10.out.1
    have HP11 : Hid (Prim t fr w10.drew) := Lib.hid (show Prim t fr w10 from HP.out.on (bch HB8w.out HB10.out))
    have RY11 : Rd w10 (.slice (if cap = kk then a else a.map (fun x => x.add kk)) (m - kk) (cap - kk)) (bytesV (b.drop kk)) := (drop_rd HR8.out HM.out kk (by omega)).on HB10.out
    have HMN11 : Hid (∀ W, W = w10.drew → Calls Tryd.prog 20 #[.agg (runA S10 (.slice ap q10 cp) kk), .slice (if cap = kk then a else a.map (fun x => x.add kk)) (m - kk) (cap - kk)] W (MoreQ SB rB q m W)) := Lib.hid (fun W hW => by
      subst hW
      exact more_next t fr x10 (b.drop kk) S10 r10 q10 kk HS10.out.get Hr10.out.get Hq10.out Hn10.out SB rB q m (by rw [HXY10.out.get]; exact HSB.out.get) (by rw [HXY10.out.get]; exact HRB.out.get) HQ.out (by rw [HXY10.out.get]; exact HM.out) ap cp _ _ HP11.out HC10.out.2.2 RY11 (by rw [HXY10.out.get]; have := HBL.out; have := HM.out; omega))
    clear RY11
    go_wp2_with fail
    go_cut [13] (fun ee wx => ∃ a9 c9, ee = .int .i64 0 ∧ Hid (Box wx h10 52 (runA SB (.slice a9 q c9) m) ∧ Rd wx (.slice a9 q c9) (bytesV rB)) ∧ Hid (Below w8.heap.size w8 wx))
    case first =>
      rename_i J2 K2 hJ hK2
      have hHB := HB10.out
      refine wp_region_held_drew (S := fun w' => Below w8.heap.size w8 w') (by kernel_rfl) hHB.drew (fun hHeld => ?_)
      refine wpAnyH_take (i := 1) (oi := { dst := some 68, op := Op.move (Operand.tmp 0), type := 24, pos := "outright.go:68", after := #[], guard := none }) (v := ?_) rfl (by kernel_rfl) (by kernel_rfl) (by kernel_rfl) (fun _ _ _ h => h) (Or.inl ⟨by rfl, ?_⟩) hHeld ?_
      rotate_left
      · (intro w hSw; go_simp; try with_reducible rfl)
      (try simp only [Act.put, List.setIfInBounds_toArray, List.set_cons_zero, List.set_cons_succ])
      refine wpAnyH_take (i := 2) (oi := { dst := some 69, op := Op.move (Operand.tmp 10), type := 3, pos := "outright.go:68", after := #[], guard := none }) (v := ?_) rfl (by kernel_rfl) (by kernel_rfl) (by kernel_rfl) (fun _ _ _ h => h) (Or.inl ⟨by rfl, ?_⟩) hHeld ?_
      rotate_left
      · (intro w hSw; go_simp; try with_reducible rfl)
      (try simp only [Act.put, List.setIfInBounds_toArray, List.set_cons_zero, List.set_cons_succ])
      refine wpAnyH_take (i := 3) (oi := { dst := some 70, op := Op.slice 24 (Operand.tmp 68) (some (Operand.tmp 69)) none none, type := 24, pos := "outright.go:68", after := #[{ on := 1, ground := Ground.data }, { on := 2, ground := Ground.data }], guard := none }) (v := ?_) rfl (by kernel_rfl) (by kernel_rfl) (by kernel_rfl) (fun _ _ _ h => h) (Or.inl ⟨by rfl, ?_⟩) hHeld ?_
      rotate_left
      · (intro w hSw; go_simp; try with_reducible rfl)
      (try simp only [Act.put, List.setIfInBounds_toArray, List.set_cons_zero, List.set_cons_succ])
      refine wpAnyH_ready (rs := [0]) (by kernel_rfl) (by simp) (AllReadyH.cons (o := { dst := some 67, op := Op.load 52 (Operand.tmp 11), type := 52, pos := "outright.go:68", after := #[], guard := none }) rfl (fun K hK => ?_) AllReadyH.nil)
      · refine wp_load_if (by rfl) 52 (.tmp 11) rfl h10 52 (runA S10 (.slice ap q10 cp) kk) rfl HZ11.out.drew _ Tryd.underlying52 rfl info52 ?_
        refine hK.out _ _ hHeld (fun hHeld => ?_)
        (try simp only [Act.put, List.setIfInBounds_toArray, List.set_cons_zero, List.set_cons_succ])
        refine wpAnyH_ready (rs := [4]) (by kernel_rfl) (by simp) (AllReadyH.cons (o := { dst := some 71, op := Op.call { callee := Callee.value (Operand.func 20), args := #[Operand.tmp 67, Operand.tmp 70], argTypes := #[52, 24] }, type := 55, pos := "outright.go:68", after := #[{ on := 0, ground := Ground.data }, { on := 3, ground := Ground.data }], guard := none }) rfl (fun K hK => ?_) AllReadyH.nil)
        · go_simp
          refine (HMN11.out _ rfl).mono ?_
          rintro e wa ⟨a9, c9, rfl, hown, hba⟩
          have hlt := HZ11.out.lt
          have hfar := fun cs => Rd.of_own (own_far_row hown.out (show _ < _ from hlt) cs)
          have hz := HZ11.out.drew.below hba hlt
          refine hK.out _ _ (bch hHeld hba) (fun hHeld => ?_)
          (try simp only [Act.put, List.setIfInBounds_toArray, List.set_cons_zero, List.set_cons_succ])
          refine wpAnyH_take (i := 5) (oi := { dst := some 66, op := Op.move (Operand.tmp 71), type := 55, pos := "outright.go:68", after := #[{ on := 4, ground := Ground.data }], guard := none }) (v := ?_) rfl (by kernel_rfl) (by kernel_rfl) (by kernel_rfl) (fun _ _ _ h => h) (Or.inl ⟨by rfl, ?_⟩) hHeld ?_
          rotate_left
          · (intro w hSw; go_simp; try with_reducible rfl)
          (try simp only [Act.put, List.setIfInBounds_toArray, List.set_cons_zero, List.set_cons_succ])
          refine wpAnyH_take (i := 6) (oi := { dst := some 72, op := Op.extract (Operand.tmp 66) 0, type := 52, pos := "outright.go:68", after := #[{ on := 5, ground := Ground.data }], guard := none }) (v := ?_) rfl (by kernel_rfl) (by kernel_rfl) (by kernel_rfl) (fun _ _ _ h => h) (Or.inl ⟨by rfl, ?_⟩) hHeld ?_
          rotate_left
          · (intro w hSw; go_simp; try with_reducible rfl)
          (try simp only [Act.put, List.setIfInBounds_toArray, List.set_cons_zero, List.set_cons_succ])
          refine wpAnyH_take (i := 7) (oi := { dst := some 73, op := Op.extract (Operand.tmp 66) 1, type := 43, pos := "outright.go:68", after := #[{ on := 5, ground := Ground.data }, { on := 8, ground := Ground.gcOnly Departure.lateStores }], guard := none }) (v := ?_) rfl (by kernel_rfl) (by kernel_rfl) (by kernel_rfl) (fun _ _ _ h => h) (Or.inl ⟨by rfl, ?_⟩) hHeld ?_
          rotate_left
          · (intro w hSw; go_simp; try with_reducible rfl)
          (try simp only [Act.put, List.setIfInBounds_toArray, List.set_cons_zero, List.set_cons_succ])
          refine wpAnyH_ready (rs := [8]) (by kernel_rfl) (by simp) (AllReadyH.cons (o := { dst := none, op := Op.store 52 (Operand.tmp 11) (Operand.tmp 72), type := 0, pos := "outright.go:68", after := #[{ on := 6, ground := Ground.data }, { on := 4, ground := Ground.chain }, { on := 0, ground := Ground.phase }, { on := 1, ground := Ground.phase }, { on := 2, ground := Ground.phase }, { on := 3, ground := Ground.phase }, { on := 4, ground := Ground.phase }, { on := 5, ground := Ground.phase }, { on := 6, ground := Ground.phase }, { on := 7, ground := Ground.textOnly Departure.lateStores }], guard := none }) rfl (fun K hK => ?_) AllReadyH.nil)
          · refine wp_store_if (by rfl) 52 (.tmp 11) (.tmp 72) rfl h10 52 (runA S10 (.slice ap q10 cp) kk) (runA SB (.slice a9 q c9) m) rfl rfl hz info52 rfl (runA_one _ _ _ _ _) ?_
            have hz2 := hz.row (runA SB (.slice a9 q c9) m)
            have hr2 := hfar (runA SB (.slice a9 q c9) m)
            have hb2 := below_row hHeld HL11.out (runA SB (.slice a9 q c9) m)
            refine hK.out _ _ hb2 (fun hHeld => ?_)
            (try simp only [Act.put])
            refine wpAnyH_take (i := 9) (oi := { dst := some 13, op := Op.assign (Operand.tmp 73), type := 43, pos := "outright.go:68", after := #[{ on := 7, ground := Ground.data }, { on := 8, ground := Ground.chain }, { on := 0, ground := Ground.phase }, { on := 1, ground := Ground.phase }, { on := 2, ground := Ground.phase }, { on := 3, ground := Ground.phase }, { on := 4, ground := Ground.phase }, { on := 5, ground := Ground.phase }, { on := 6, ground := Ground.phase }, { on := 7, ground := Ground.phase }, { on := 8, ground := Ground.phase }], guard := none }) (v := ?_) rfl (by kernel_rfl) (by kernel_rfl) (by kernel_rfl) (fun _ _ _ h => h) (Or.inl ⟨by rfl, ?_⟩) hHeld ?_
            rotate_left
            · (intro w hSw; go_simp; try with_reducible rfl)
            (try simp only [Act.put, List.setIfInBounds_toArray, List.set_cons_zero, List.set_cons_succ])
            refine wpAnyH_done (by kernel_rfl) ?_ _
            first | refine hK2 _ _ (Met.intro (hJ _ _ ?_)) | refine Met.intro (hJ _ _ ?_)
            (repeat apply Exists.intro)
            refine ⟨?_, rfl⟩
            exact ⟨_, _, rfl, Lib.hid ⟨hz2, hr2⟩, Lib.hid hHeld⟩
    case rest =>
    obtain ⟨w11, rfl⟩ : ∃ x, x = wc := ⟨_, rfl⟩
    obtain ⟨a11, c11, rfl, HC11, HB11⟩ := hcut
    clear HC10 HB10 HMN11 HXY10 HS10 Hr10 Hq10 Hn10 Hx10 HZ11 HP11 RX10
    have B5 : Hid (Box w11 g5 52 (runA SB (.slice a4 q c4) m)) := Lib.hid ((Y4.out.below HB8.out Y4.out.lt).below HB11.out (Y4.out.below HB8.out Y4.out.lt).lt)
    have B7 : Hid (Box w11 h7 52 (runA SB (.slice a8 q c8) m)) := Lib.hid (HC8.out.1.below HB11.out HC8.out.1.lt)
    have B11 : Hid (Box w11 h10 52 (runA SB (.slice a11 q c11) m)) := Lib.hid HC11.out.1
    have D4 : Hid (Rd w11 (.slice a4 q c4) (bytesV rB)) := Lib.hid ((HO5.out.on HB8.out).on HB11.out)
    have D8 : Hid (Rd w11 (.slice a8 q c8) (bytesV rB)) := Lib.hid (HC8.out.2.on HB11.out)
    have D11 : Hid (Rd w11 (.slice a11 q c11) (bytesV rB)) := Lib.hid HC11.out.2
    have DB : Hid (Rd w11 (.slice a m cap) (bytesV b)) := Lib.hid (HR8.out.on HB11.out)
    have HBA : Hid (Below w.heap.size w w11) := Lib.hid (bch HB8w.out HB11.out)
    clear HC8 HC11 HB8 HB11 HB8w HB5 HB5w HO5 HR5 HR8 Y4 e3 k1 k2 k3 hkm HB2 HB3 HR2 HR3
    go_wp2_with fail
    have cr := (runA_w B5.out).1
    have l5 := B5.out.lt
    have l7 := B7.out.lt
    have l11 := B11.out.lt
    have n5 := range_w2 B5.out
    have n7 := range_w2 B7.out
    have n11 := range_w2 B11.out
    have hu := Tryd.underlying52
    have hi : (Tryd.prog.info? 52).map (·.size) = some 10 := info52
    obtain ⟨jj, hjj⟩ : ∃ jj, jj = m / 64 * 64 := ⟨_, rfl⟩
    have hjm : jj ≤ m := by omega
    have q2 : (m : Int) / 64 * 64 = (jj : Int) := by omega
    have q3 : IntKind.i64.wrap (jj : Int) = (jj : Int) := IntWalk.i64_in _ (by have := HBL.out; omega)
    have q4 : IntKind.i64.wrap ((m : Int) / 64) = (m : Int) / 64 := IntWalk.i64_in _ (by have := HBL.out; omega)
    have k1 : (0 : Int) ≤ (jj : Int) := by omega
    have k2 : (jj : Int) ≤ (m : Int) := by omega
    have hdr : (if cap = jj then a else a.map (fun x => x.add jj)) = (if cap = jj then a else a.map (fun x => x.add jj)) := rfl
    have DR : Hid (Rd w11 (.slice (if cap = jj then a else a.map (fun x => x.add jj)) (m - jj) (cap - jj)) (bytesV rB)) := Lib.hid (by
      have h := drop_rd DB.out HM.out jj hjm
      rw [HRB.out.get]
      unfold restOf
      rw [← HM.out, ← hjj]
      exact h)
    clear hdr hjj hjm
    refine wp_region_held_drew (S := fun w' => Below w11.heap.size w11 w') (by kernel_rfl) ((Below.refl _ _).drew) (fun hHeld => ?_)
    refine wpAnyH_take (i := 0) (oi := { dst := some 74, op := Op.move (Operand.tmp 6), type := 43, pos := "outright.go:69", after := #[], guard := none }) (v := ?_) rfl (by kernel_rfl) (by kernel_rfl) (by kernel_rfl) (fun _ _ _ h => h) (Or.inl ⟨by rfl, ?_⟩) hHeld ?_
    rotate_left
    · (intro w hSw; go_simp; try with_reducible rfl)
    (try simp only [Act.put, List.setIfInBounds_toArray, List.set_cons_zero, List.set_cons_succ])
    refine wpAnyH_take (i := 1) (oi := { dst := some 75, op := Op.binOp BinOp.eql 43 (Operand.tmp 74) (Operand.const (Value.int IntKind.i64 0)) 43, type := 4, pos := "outright.go:69", after := #[{ on := 0, ground := Ground.data }], guard := none }) (v := ?_) rfl (by kernel_rfl) (by kernel_rfl) (by kernel_rfl) (fun _ _ _ h => h) (Or.inl ⟨by rfl, ?_⟩) hHeld ?_
    rotate_left
    · (intro w hSw; go_simp; try with_reducible rfl)
    (try simp only [Act.put, List.setIfInBounds_toArray, List.set_cons_zero, List.set_cons_succ])
    refine wpAnyH_take (i := 2) (oi := { dst := some 76, op := Op.move (Operand.tmp 75), type := 4, pos := "outright.go:69", after := #[{ on := 1, ground := Ground.data }], guard := none }) (v := ?_) rfl (by kernel_rfl) (by kernel_rfl) (by kernel_rfl) (fun _ _ _ h => h) (Or.inl ⟨by rfl, ?_⟩) hHeld ?_
    rotate_left
    · (intro w hSw; go_simp; try with_reducible rfl)
    (try simp only [Act.put, List.setIfInBounds_toArray, List.set_cons_zero, List.set_cons_succ])
    refine wpAnyH_take (i := 3) (oi := { dst := some 77, op := Op.move (Operand.tmp 8), type := 43, pos := "outright.go:69", after := #[{ on := 2, ground := Ground.guard }], guard := some (2, true) }) (v := ?_) rfl (by kernel_rfl) (by kernel_rfl) (by kernel_rfl) (fun _ _ _ h => h) (Or.inl ⟨by rfl, ?_⟩) hHeld ?_
    rotate_left
    · (intro w hSw; go_simp; try with_reducible rfl)
    (try simp only [Act.put, List.setIfInBounds_toArray, List.set_cons_zero, List.set_cons_succ])
    refine wpAnyH_take (i := 4) (oi := { dst := some 78, op := Op.binOp BinOp.eql 43 (Operand.tmp 77) (Operand.const (Value.int IntKind.i64 0)) 43, type := 4, pos := "outright.go:69", after := #[{ on := 3, ground := Ground.data }, { on := 2, ground := Ground.guard }], guard := some (2, true) }) (v := ?_) rfl (by kernel_rfl) (by kernel_rfl) (by kernel_rfl) (fun _ _ _ h => h) (Or.inl ⟨by rfl, ?_⟩) hHeld ?_
    rotate_left
    · (intro w hSw; go_simp; try with_reducible rfl)
    (try simp only [Act.put, List.setIfInBounds_toArray, List.set_cons_zero, List.set_cons_succ])
    refine wpAnyH_take (i := 5) (oi := { dst := some 79, op := Op.pick (Operand.tmp 76) (Operand.tmp 78) (Operand.const (Value.bool false)), type := 4, pos := "outright.go:69", after := #[{ on := 2, ground := Ground.data }, { on := 4, ground := Ground.data }], guard := none }) (v := ?_) rfl (by kernel_rfl) (by kernel_rfl) (by kernel_rfl) (fun _ _ _ h => h) (Or.inl ⟨by rfl, ?_⟩) hHeld ?_
    rotate_left
    · (intro w hSw; go_simp; try with_reducible rfl)
    (try simp only [Act.put, List.setIfInBounds_toArray, List.set_cons_zero, List.set_cons_succ])
    refine wpAnyH_take (i := 6) (oi := { dst := some 80, op := Op.move (Operand.tmp 79), type := 4, pos := "outright.go:69", after := #[{ on := 5, ground := Ground.data }, { on := 2, ground := Ground.chain }], guard := none }) (v := ?_) rfl (by kernel_rfl) (by kernel_rfl) (by kernel_rfl) (fun _ _ _ h => h) (Or.inl ⟨by rfl, ?_⟩) hHeld ?_
    rotate_left
    · (intro w hSw; go_simp; try with_reducible rfl)
    (try simp only [Act.put, List.setIfInBounds_toArray, List.set_cons_zero, List.set_cons_succ])
    refine wpAnyH_take (i := 7) (oi := { dst := some 81, op := Op.move (Operand.tmp 9), type := 43, pos := "outright.go:69", after := #[{ on := 6, ground := Ground.guard }], guard := some (6, true) }) (v := ?_) rfl (by kernel_rfl) (by kernel_rfl) (by kernel_rfl) (fun _ _ _ h => h) (Or.inl ⟨by rfl, ?_⟩) hHeld ?_
    rotate_left
    · (intro w hSw; go_simp; try with_reducible rfl)
    (try simp only [Act.put, List.setIfInBounds_toArray, List.set_cons_zero, List.set_cons_succ])
    refine wpAnyH_take (i := 8) (oi := { dst := some 82, op := Op.binOp BinOp.eql 43 (Operand.tmp 81) (Operand.const (Value.int IntKind.i64 0)) 43, type := 4, pos := "outright.go:69", after := #[{ on := 7, ground := Ground.data }, { on := 6, ground := Ground.guard }], guard := some (6, true) }) (v := ?_) rfl (by kernel_rfl) (by kernel_rfl) (by kernel_rfl) (fun _ _ _ h => h) (Or.inl ⟨by rfl, ?_⟩) hHeld ?_
    rotate_left
    · (intro w hSw; go_simp; try with_reducible rfl)
    (try simp only [Act.put, List.setIfInBounds_toArray, List.set_cons_zero, List.set_cons_succ])
    refine wpAnyH_take (i := 9) (oi := { dst := some 83, op := Op.pick (Operand.tmp 80) (Operand.tmp 82) (Operand.const (Value.bool false)), type := 4, pos := "outright.go:69", after := #[{ on := 6, ground := Ground.data }, { on := 8, ground := Ground.data }], guard := none }) (v := ?_) rfl (by kernel_rfl) (by kernel_rfl) (by kernel_rfl) (fun _ _ _ h => h) (Or.inl ⟨by rfl, ?_⟩) hHeld ?_
    rotate_left
    · (intro w hSw; go_simp; try with_reducible rfl)
    (try simp only [Act.put, List.setIfInBounds_toArray, List.set_cons_zero, List.set_cons_succ])
    refine wpAnyH_take (i := 10) (oi := { dst := some 84, op := Op.move (Operand.tmp 83), type := 4, pos := "outright.go:69", after := #[{ on := 9, ground := Ground.data }, { on := 6, ground := Ground.chain }], guard := none }) (v := ?_) rfl (by kernel_rfl) (by kernel_rfl) (by kernel_rfl) (fun _ _ _ h => h) (Or.inl ⟨by rfl, ?_⟩) hHeld ?_
    rotate_left
    · (intro w hSw; go_simp; try with_reducible rfl)
    (try simp only [Act.put, List.setIfInBounds_toArray, List.set_cons_zero, List.set_cons_succ])
    refine wpAnyH_take (i := 11) (oi := { dst := some 85, op := Op.move (Operand.tmp 12), type := 43, pos := "outright.go:69", after := #[{ on := 10, ground := Ground.guard }], guard := some (10, true) }) (v := ?_) rfl (by kernel_rfl) (by kernel_rfl) (by kernel_rfl) (fun _ _ _ h => h) (Or.inl ⟨by rfl, ?_⟩) hHeld ?_
    rotate_left
    · (intro w hSw; go_simp; try with_reducible rfl)
    (try simp only [Act.put, List.setIfInBounds_toArray, List.set_cons_zero, List.set_cons_succ])
    refine wpAnyH_take (i := 12) (oi := { dst := some 86, op := Op.binOp BinOp.eql 43 (Operand.tmp 85) (Operand.const (Value.int IntKind.i64 0)) 43, type := 4, pos := "outright.go:69", after := #[{ on := 11, ground := Ground.data }, { on := 10, ground := Ground.guard }], guard := some (10, true) }) (v := ?_) rfl (by kernel_rfl) (by kernel_rfl) (by kernel_rfl) (fun _ _ _ h => h) (Or.inl ⟨by rfl, ?_⟩) hHeld ?_
    rotate_left
    · (intro w hSw; go_simp; try with_reducible rfl)
    (try simp only [Act.put, List.setIfInBounds_toArray, List.set_cons_zero, List.set_cons_succ])
    refine wpAnyH_take (i := 13) (oi := { dst := some 87, op := Op.pick (Operand.tmp 84) (Operand.tmp 86) (Operand.const (Value.bool false)), type := 4, pos := "outright.go:69", after := #[{ on := 10, ground := Ground.data }, { on := 12, ground := Ground.data }], guard := none }) (v := ?_) rfl (by kernel_rfl) (by kernel_rfl) (by kernel_rfl) (fun _ _ _ h => h) (Or.inl ⟨by rfl, ?_⟩) hHeld ?_
    rotate_left
    · (intro w hSw; go_simp; try with_reducible rfl)
    (try simp only [Act.put, List.setIfInBounds_toArray, List.set_cons_zero, List.set_cons_succ])
    refine wpAnyH_take (i := 14) (oi := { dst := some 88, op := Op.move (Operand.tmp 87), type := 4, pos := "outright.go:69", after := #[{ on := 13, ground := Ground.data }, { on := 10, ground := Ground.chain }], guard := none }) (v := ?_) rfl (by kernel_rfl) (by kernel_rfl) (by kernel_rfl) (fun _ _ _ h => h) (Or.inl ⟨by rfl, ?_⟩) hHeld ?_
    rotate_left
    · (intro w hSw; go_simp; try with_reducible rfl)
    (try simp only [Act.put, List.setIfInBounds_toArray, List.set_cons_zero, List.set_cons_succ])
    refine wpAnyH_take (i := 15) (oi := { dst := some 89, op := Op.move (Operand.tmp 13), type := 43, pos := "outright.go:69", after := #[{ on := 14, ground := Ground.guard }], guard := some (14, true) }) (v := ?_) rfl (by kernel_rfl) (by kernel_rfl) (by kernel_rfl) (fun _ _ _ h => h) (Or.inl ⟨by rfl, ?_⟩) hHeld ?_
    rotate_left
    · (intro w hSw; go_simp; try with_reducible rfl)
    (try simp only [Act.put, List.setIfInBounds_toArray, List.set_cons_zero, List.set_cons_succ])
    refine wpAnyH_take (i := 16) (oi := { dst := some 90, op := Op.binOp BinOp.eql 43 (Operand.tmp 89) (Operand.const (Value.int IntKind.i64 0)) 43, type := 4, pos := "outright.go:69", after := #[{ on := 15, ground := Ground.data }, { on := 14, ground := Ground.guard }], guard := some (14, true) }) (v := ?_) rfl (by kernel_rfl) (by kernel_rfl) (by kernel_rfl) (fun _ _ _ h => h) (Or.inl ⟨by rfl, ?_⟩) hHeld ?_
    rotate_left
    · (intro w hSw; go_simp; try with_reducible rfl)
    (try simp only [Act.put, List.setIfInBounds_toArray, List.set_cons_zero, List.set_cons_succ])
    refine wpAnyH_take (i := 17) (oi := { dst := some 91, op := Op.pick (Operand.tmp 88) (Operand.tmp 90) (Operand.const (Value.bool false)), type := 4, pos := "outright.go:69", after := #[{ on := 14, ground := Ground.data }, { on := 16, ground := Ground.data }], guard := none }) (v := ?_) rfl (by kernel_rfl) (by kernel_rfl) (by kernel_rfl) (fun _ _ _ h => h) (Or.inl ⟨by rfl, ?_⟩) hHeld ?_
    rotate_left
    · (intro w hSw; go_simp; try with_reducible rfl)
    (try simp only [Act.put, List.setIfInBounds_toArray, List.set_cons_zero, List.set_cons_succ])
    refine wpAnyH_take (i := 18) (oi := { dst := some 92, op := Op.move (Operand.tmp 91), type := 4, pos := "outright.go:69", after := #[{ on := 17, ground := Ground.data }, { on := 14, ground := Ground.chain }], guard := none }) (v := ?_) rfl (by kernel_rfl) (by kernel_rfl) (by kernel_rfl) (fun _ _ _ h => h) (Or.inl ⟨by rfl, ?_⟩) hHeld ?_
    rotate_left
    · (intro w hSw; go_simp; try with_reducible rfl)
    (try simp only [Act.put, List.setIfInBounds_toArray, List.set_cons_zero, List.set_cons_succ])
    refine wpAnyH_take (i := 19) (oi := { dst := some 93, op := Op.load 52 (Operand.tmp 5), type := 52, pos := "outright.go:69", after := #[{ on := 18, ground := Ground.guard }], guard := some (18, true) }) (v := _) rfl (by kernel_rfl) (by kernel_rfl) (by kernel_rfl) (fun _ _ _ h => h) (yieldsIf_load_mid (by rfl) 52 (.tmp 5) rfl g5 0 rfl (runV SB (.slice a4 q c4) m) _ (fun _ h => range_on n5 h l5) hu rfl hi) hHeld ?_
    (try simp only [Act.put, List.setIfInBounds_toArray, List.set_cons_zero, List.set_cons_succ])
    refine wpAnyH_take (i := 20) (oi := { dst := some 94, op := Op.load 52 (Operand.tmp 7), type := 52, pos := "outright.go:69", after := #[{ on := 18, ground := Ground.guard }], guard := some (18, true) }) (v := _) rfl (by kernel_rfl) (by kernel_rfl) (by kernel_rfl) (fun _ _ _ h => h) (yieldsIf_load_mid (by rfl) 52 (.tmp 7) rfl h7 0 rfl (runV SB (.slice a8 q c8) m) _ (fun _ h => range_on n7 h l7) hu rfl hi) hHeld ?_
    (try simp only [Act.put, List.setIfInBounds_toArray, List.set_cons_zero, List.set_cons_succ])
    refine wpAnyH_ready (rs := [21]) (by kernel_rfl) (by simp) (AllReadyH.cons (o := { dst := some 95, op := Op.call { callee := Callee.value (Operand.func 22), args := #[Operand.tmp 93, Operand.tmp 94], argTypes := #[52, 52] }, type := 4, pos := "outright.go:69", after := #[{ on := 19, ground := Ground.data }, { on := 20, ground := Ground.data }, { on := 18, ground := Ground.chain }, { on := 18, ground := Ground.guard }], guard := some (18, true) }) rfl (fun K hK => ?_) AllReadyH.nil)
    · go_simp
      refine (same_any SB rB a4 a8 q c4 c8 m _ (D4.out.on hHeld) (D8.out.on hHeld)).mono ?_
      rintro e wa ⟨rfl, hba⟩
      refine hK.out _ _ (bch hHeld hba) (fun hHeld => ?_)
      (try simp only [Act.put, List.setIfInBounds_toArray, List.set_cons_zero, List.set_cons_succ])
      refine wpAnyH_take (i := 22) (oi := { dst := some 96, op := Op.pick (Operand.tmp 92) (Operand.tmp 95) (Operand.const (Value.bool false)), type := 4, pos := "outright.go:69", after := #[{ on := 18, ground := Ground.data }, { on := 21, ground := Ground.data }], guard := none }) (v := ?_) rfl (by kernel_rfl) (by kernel_rfl) (by kernel_rfl) (fun _ _ _ h => h) (Or.inl ⟨by rfl, ?_⟩) hHeld ?_
      rotate_left
      · (intro w hSw; go_simp; try with_reducible rfl)
      (try simp only [Act.put, List.setIfInBounds_toArray, List.set_cons_zero, List.set_cons_succ])
      refine wpAnyH_take (i := 23) (oi := { dst := some 97, op := Op.move (Operand.tmp 96), type := 4, pos := "outright.go:69", after := #[{ on := 22, ground := Ground.data }, { on := 21, ground := Ground.chain }], guard := none }) (v := ?_) rfl (by kernel_rfl) (by kernel_rfl) (by kernel_rfl) (fun _ _ _ h => h) (Or.inl ⟨by rfl, ?_⟩) hHeld ?_
      rotate_left
      · (intro w hSw; go_simp; try with_reducible rfl)
      (try simp only [Act.put, List.setIfInBounds_toArray, List.set_cons_zero, List.set_cons_succ])
      refine wpAnyH_take (i := 24) (oi := { dst := some 98, op := Op.load 52 (Operand.tmp 5), type := 52, pos := "outright.go:69", after := #[{ on := 23, ground := Ground.guard }], guard := some (23, true) }) (v := _) rfl (by kernel_rfl) (by kernel_rfl) (by kernel_rfl) (fun _ _ _ h => h) (yieldsIf_load_mid (by rfl) 52 (.tmp 5) rfl g5 0 rfl (runV SB (.slice a4 q c4) m) _ (fun _ h => range_on n5 h l5) hu rfl hi) hHeld ?_
      (try simp only [Act.put, List.setIfInBounds_toArray, List.set_cons_zero, List.set_cons_succ])
      refine wpAnyH_take (i := 25) (oi := { dst := some 99, op := Op.load 52 (Operand.tmp 11), type := 52, pos := "outright.go:69", after := #[{ on := 23, ground := Ground.guard }], guard := some (23, true) }) (v := _) rfl (by kernel_rfl) (by kernel_rfl) (by kernel_rfl) (fun _ _ _ h => h) (yieldsIf_load_mid (by rfl) 52 (.tmp 11) rfl h10 0 rfl (runV SB (.slice a11 q c11) m) _ (fun _ h => range_on n11 h l11) hu rfl hi) hHeld ?_
      (try simp only [Act.put, List.setIfInBounds_toArray, List.set_cons_zero, List.set_cons_succ])
      refine wpAnyH_ready (rs := [26]) (by kernel_rfl) (by simp) (AllReadyH.cons (o := { dst := some 100, op := Op.call { callee := Callee.value (Operand.func 22), args := #[Operand.tmp 98, Operand.tmp 99], argTypes := #[52, 52] }, type := 4, pos := "outright.go:69", after := #[{ on := 24, ground := Ground.data }, { on := 25, ground := Ground.data }, { on := 23, ground := Ground.chain }, { on := 23, ground := Ground.guard }], guard := some (23, true) }) rfl (fun K hK => ?_) AllReadyH.nil)
      · go_simp
        refine (same_any SB rB a4 a11 q c4 c11 m _ (D4.out.on hHeld) (D11.out.on hHeld)).mono ?_
        rintro e wa ⟨rfl, hba⟩
        refine hK.out _ _ (bch hHeld hba) (fun hHeld => ?_)
        (try simp only [Act.put, List.setIfInBounds_toArray, List.set_cons_zero, List.set_cons_succ])
        refine wpAnyH_take (i := 27) (oi := { dst := some 101, op := Op.pick (Operand.tmp 97) (Operand.tmp 100) (Operand.const (Value.bool false)), type := 4, pos := "outright.go:69", after := #[{ on := 23, ground := Ground.data }, { on := 26, ground := Ground.data }], guard := none }) (v := ?_) rfl (by kernel_rfl) (by kernel_rfl) (by kernel_rfl) (fun _ _ _ h => h) (Or.inl ⟨by rfl, ?_⟩) hHeld ?_
        rotate_left
        · (intro w hSw; go_simp; try with_reducible rfl)
        (try simp only [Act.put, List.setIfInBounds_toArray, List.set_cons_zero, List.set_cons_succ])
        refine wpAnyH_take (i := 28) (oi := { dst := some 102, op := Op.move (Operand.tmp 101), type := 4, pos := "outright.go:69", after := #[{ on := 27, ground := Ground.data }, { on := 26, ground := Ground.chain }], guard := none }) (v := ?_) rfl (by kernel_rfl) (by kernel_rfl) (by kernel_rfl) (fun _ _ _ h => h) (Or.inl ⟨by rfl, ?_⟩) hHeld ?_
        rotate_left
        · (intro w hSw; go_simp; try with_reducible rfl)
        (try simp only [Act.put, List.setIfInBounds_toArray, List.set_cons_zero, List.set_cons_succ])
        refine wpAnyH_take (i := 29) (oi := { dst := some 103, op := Op.fieldAddr 52 (Operand.tmp 5) 1, type := 0, pos := "outright.go:69", after := #[{ on := 28, ground := Ground.guard }], guard := some (28, true) }) (v := ?_) rfl (by kernel_rfl) (by kernel_rfl) (by kernel_rfl) (fun _ _ _ h => h) (Or.inl ⟨by rfl, ?_⟩) hHeld ?_
        rotate_left
        · (intro w hSw; go_simp; try with_reducible rfl)
        (try simp only [Act.put, List.setIfInBounds_toArray, List.set_cons_zero, List.set_cons_succ])
        refine wpAnyH_take (i := 30) (oi := { dst := some 104, op := Op.load 24 (Operand.tmp 103), type := 24, pos := "outright.go:69", after := #[{ on := 29, ground := Ground.data }, { on := 28, ground := Ground.guard }], guard := some (28, true) }) (v := ?_) rfl (by kernel_rfl) (by kernel_rfl) (by kernel_rfl) (fun _ _ _ h => h) (Or.inl ⟨by rfl, ?_⟩) hHeld ?_
        rotate_left
        · (intro w hSw; have hc := (hSw.cell (p := ⟨g5, 8, none⟩) l5).trans cr; go_simp; try with_reducible rfl)
        (try simp only [Act.put, List.setIfInBounds_toArray, List.set_cons_zero, List.set_cons_succ])
        refine wpAnyH_take (i := 31) (oi := { dst := some 105, op := Op.move (Operand.tmp 0), type := 24, pos := "outright.go:69", after := #[{ on := 28, ground := Ground.guard }], guard := some (28, true) }) (v := ?_) rfl (by kernel_rfl) (by kernel_rfl) (by kernel_rfl) (fun _ _ _ h => h) (Or.inl ⟨by rfl, ?_⟩) hHeld ?_
        rotate_left
        · (intro w hSw; go_simp; try with_reducible rfl)
        (try simp only [Act.put, List.setIfInBounds_toArray, List.set_cons_zero, List.set_cons_succ])
        refine wpAnyH_take (i := 32) (oi := { dst := some 106, op := Op.move (Operand.tmp 0), type := 24, pos := "outright.go:69", after := #[{ on := 28, ground := Ground.guard }], guard := some (28, true) }) (v := ?_) rfl (by kernel_rfl) (by kernel_rfl) (by kernel_rfl) (fun _ _ _ h => h) (Or.inl ⟨by rfl, ?_⟩) hHeld ?_
        rotate_left
        · (intro w hSw; go_simp; try with_reducible rfl)
        (try simp only [Act.put, List.setIfInBounds_toArray, List.set_cons_zero, List.set_cons_succ])
        refine wpAnyH_take (i := 33) (oi := { dst := some 107, op := Op.call { callee := Callee.builtin Builtin.len, args := #[Operand.tmp 106], argTypes := #[24] }, type := 3, pos := "outright.go:69", after := #[{ on := 32, ground := Ground.data }, { on := 28, ground := Ground.guard }], guard := some (28, true) }) (v := ?_) rfl (by kernel_rfl) (by kernel_rfl) (by kernel_rfl) (fun _ _ _ h => h) (Or.inl ⟨by rfl, ?_⟩) hHeld ?_
        rotate_left
        · (intro w hSw; go_simp; try with_reducible rfl)
        (try simp only [Act.put, List.setIfInBounds_toArray, List.set_cons_zero, List.set_cons_succ])
        refine wpAnyH_take (i := 34) (oi := { dst := some 108, op := Op.binOp BinOp.quo 3 (Operand.tmp 107) (Operand.const (Value.int IntKind.i64 64)) 3, type := 3, pos := "outright.go:69", after := #[{ on := 33, ground := Ground.data }, { on := 28, ground := Ground.guard }], guard := some (28, true) }) (v := ?_) rfl (by kernel_rfl) (by kernel_rfl) (by kernel_rfl) (fun _ _ _ h => h) (Or.inl ⟨by rfl, ?_⟩) hHeld ?_
        rotate_left
        · (intro w hSw; go_simp; try with_reducible rfl)
        (try simp only [Act.put, List.setIfInBounds_toArray, List.set_cons_zero, List.set_cons_succ])
        refine wpAnyH_take (i := 35) (oi := { dst := some 109, op := Op.binOp BinOp.mul 3 (Operand.tmp 108) (Operand.const (Value.int IntKind.i64 64)) 3, type := 3, pos := "outright.go:69", after := #[{ on := 34, ground := Ground.data }, { on := 28, ground := Ground.guard }], guard := some (28, true) }) (v := ?_) rfl (by kernel_rfl) (by kernel_rfl) (by kernel_rfl) (fun _ _ _ h => h) (Or.inl ⟨by rfl, ?_⟩) hHeld ?_
        rotate_left
        · (intro w hSw; go_simp; try with_reducible rfl)
        (try simp only [Act.put, List.setIfInBounds_toArray, List.set_cons_zero, List.set_cons_succ])
        refine wpAnyH_take (i := 36) (oi := { dst := some 110, op := Op.slice 24 (Operand.tmp 105) (some (Operand.tmp 109)) none none, type := 24, pos := "outright.go:69", after := #[{ on := 31, ground := Ground.data }, { on := 35, ground := Ground.data }, { on := 28, ground := Ground.guard }], guard := some (28, true) }) (v := ?_) rfl (by kernel_rfl) (by kernel_rfl) (by kernel_rfl) (fun _ _ _ h => h) (Or.inl ⟨by rfl, ?_⟩) hHeld ?_
        rotate_left
        · (intro w hSw; go_simp; try with_reducible rfl)
        (try simp only [Act.put, List.setIfInBounds_toArray, List.set_cons_zero, List.set_cons_succ])
        refine wpAnyH_ready (rs := [37]) (by kernel_rfl) (by simp) (AllReadyH.cons (o := { dst := some 111, op := Op.call { callee := Callee.value (Operand.func 14), args := #[Operand.tmp 104, Operand.tmp 110], argTypes := #[24, 24] }, type := 4, pos := "outright.go:69", after := #[{ on := 30, ground := Ground.data }, { on := 36, ground := Ground.data }, { on := 28, ground := Ground.chain }, { on := 28, ground := Ground.guard }], guard := some (28, true) }) rfl (fun K hK => ?_) AllReadyH.nil)
        · go_simp
          refine (equal_any rB _ _ _ (D4.out.on hHeld) (DR.out.on hHeld)).mono ?_
          rintro e wa ⟨rfl, hba⟩
          refine hK.out _ _ (bch hHeld hba) (fun hHeld => ?_)
          (try simp only [Act.put, List.setIfInBounds_toArray, List.set_cons_zero, List.set_cons_succ])
          refine wpAnyH_take (i := 38) (oi := { dst := some 112, op := Op.pick (Operand.tmp 102) (Operand.tmp 111) (Operand.const (Value.bool false)), type := 4, pos := "outright.go:69", after := #[{ on := 28, ground := Ground.data }, { on := 37, ground := Ground.data }], guard := none }) (v := ?_) rfl (by kernel_rfl) (by kernel_rfl) (by kernel_rfl) (fun _ _ _ h => h) (Or.inl ⟨by rfl, ?_⟩) hHeld ?_
          rotate_left
          · (intro w hSw; go_simp; try with_reducible rfl)
          (try simp only [Act.put, List.setIfInBounds_toArray, List.set_cons_zero, List.set_cons_succ])
          refine wpAnyH_take (i := 39) (oi := { dst := some 4, op := Op.assign (Operand.tmp 112), type := 4, pos := "outright.go:69", after := #[{ on := 38, ground := Ground.data }, { on := 37, ground := Ground.chain }, { on := 0, ground := Ground.phase }, { on := 1, ground := Ground.phase }, { on := 2, ground := Ground.phase }, { on := 3, ground := Ground.phase }, { on := 4, ground := Ground.phase }, { on := 5, ground := Ground.phase }, { on := 6, ground := Ground.phase }, { on := 7, ground := Ground.phase }, { on := 8, ground := Ground.phase }, { on := 9, ground := Ground.phase }, { on := 10, ground := Ground.phase }, { on := 11, ground := Ground.phase }, { on := 12, ground := Ground.phase }, { on := 13, ground := Ground.phase }, { on := 14, ground := Ground.phase }, { on := 15, ground := Ground.phase }, { on := 16, ground := Ground.phase }, { on := 17, ground := Ground.phase }, { on := 18, ground := Ground.phase }, { on := 19, ground := Ground.phase }, { on := 20, ground := Ground.phase }, { on := 21, ground := Ground.phase }, { on := 22, ground := Ground.phase }, { on := 23, ground := Ground.phase }, { on := 24, ground := Ground.phase }, { on := 25, ground := Ground.phase }, { on := 26, ground := Ground.phase }, { on := 27, ground := Ground.phase }, { on := 28, ground := Ground.phase }, { on := 29, ground := Ground.phase }, { on := 30, ground := Ground.phase }, { on := 31, ground := Ground.phase }, { on := 32, ground := Ground.phase }, { on := 33, ground := Ground.phase }, { on := 34, ground := Ground.phase }, { on := 35, ground := Ground.phase }, { on := 36, ground := Ground.phase }, { on := 37, ground := Ground.phase }, { on := 38, ground := Ground.phase }], guard := none }) (v := ?_) rfl (by kernel_rfl) (by kernel_rfl) (by kernel_rfl) (fun _ _ _ h => h) (Or.inl ⟨by rfl, ?_⟩) hHeld ?_
          rotate_left
          · (intro w hSw; go_simp; try with_reducible rfl)
          (try simp only [Act.put, List.setIfInBounds_toArray, List.set_cons_zero, List.set_cons_succ])
          refine wpAnyH_done (by kernel_rfl) ?_ _
          go_wp2_with fail
          all_goals (go_ret; exact ⟨rfl, bch HBA.out hHeld⟩)
end Go.Proofs.YtkenbppoldfecaaDoor
