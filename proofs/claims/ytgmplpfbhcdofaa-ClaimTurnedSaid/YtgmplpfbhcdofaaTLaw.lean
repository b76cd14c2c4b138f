/- Proved here: ClaimTurned of puncheonlaw16 answers true for all rows of leaves, and every number. -/
import Derived.Test.YtgmplpfbhcdofaaTMath
import Derived.Test.YtgmplpfbhcdofaaCSame
import Derived.Deep.DeepCutAuto
namespace Go.Proofs.Ytgmplpfbhcdofaa
open Go.RowKit Go.Shelf Go.Lib
attribute [local go_sem] Oper.semAt_some

set_option maxRecDepth 100000 in
set_option maxHeartbeats 8000000 in
theorem turned_law (L0 : List (List Lf)) (z : Int) (v : Value) (w : World) (hv : RdRs w v L0) : Calls Try.prog 4 #[v, .int .i64 z] w fun e w' => e = .returned (.bool true) ∧ Below w.heap.size w w' := by
  have HV := Lib.hid hv
  obtain ⟨a, c, rfl, _⟩ := hv
  obtain ⟨n0, hn0⟩ : ∃ n, n = L0.length := ⟨_, rfl⟩
  rw [← hn0] at HV ⊢
  clear hn0
  go_enter Try.func4, Try.ntmps4
  go_upto_region 3 with (go_at_call 6; refine (wakes_any _).mono ?_; rintro e w1 ⟨rfl, hb⟩; have HB1 := Lib.hid hb; clear hb)
  have HW := Lib.hid (own_any L0 _ _ (HV.out.on HB1.out))
  go_upto_region 4 with (go_at_call 9; refine HW.out.mono ?_; rintro e w2 ⟨vL, rfl, ho, hb⟩; have HOL := Lib.hid ho; have HB12 := Lib.hid (bch HB1.out hb); obtain ⟨aL, cL, rfl⟩ := ho.slice; clear ho hb)
  obtain ⟨L, hL⟩ : ∃ L, L = cutR L0 := ⟨_, rfl⟩
  rw [← hL] at HOL ⊢
  obtain ⟨nL, hnL⟩ : ∃ n, n = L.length := ⟨_, rfl⟩
  rw [← hnL] at HOL ⊢
  have HNL := Lib.hid hnL
  have HOLR := Lib.hid HOL.out.rd
  clear hL hnL HW HV
  by_cases hz : chkR L = 0
  · have HZ0 := Lib.hid hz
    have HOK := Lib.hid ((chkR_iff L).1 hz)
    clear hz
    go_upto_region 5 with (go_at_call 10; refine (clashes_any L _ _ HOLR.out).mono ?_; rintro e w4 ⟨v4, rfl, hb, h1, h2⟩; have HC4 := Lib.hid (h2 HZ0.out); rw [HZ0.out]; have HB24 := Lib.hid hb; clear hb h1 h2)
    obtain ⟨aC, cC, hC⟩ := own_slice HC4.out
    subst hC
    have HCR : Hid (Rd w4 (.slice aC (clashP (clsL L)).length cC) ((clashP (clsL L)).map encStr)) := Lib.hid (Rd.of_own HC4.out)
    have HCLN : Hid ((clashP (clsL L)).length ≤ 1000000) := Lib.hid (by
      have h1 := pathsS_len (plsL L)
      have h2 := okRs_len HOK.out
      rw [clashP_eq]
      have h3 := List.length_filter_le (clashF L.flatten) (pathsS (plsL L))
      omega)
    clear HC4
    obtain ⟨CL, hCL⟩ : ∃ z, z = clashP (clsL L) := ⟨_, rfl⟩
    rw [← hCL] at HCR HCLN ⊢
    have HCL := Lib.hid hCL
    clear hCL
    rcases Nat.eq_zero_or_pos nL with hn0 | hn0
    · subst hn0
      have hL0 : L = [] := List.eq_nil_of_length_eq_zero HNL.out.symm
      have hc0 : CL.length = 0 := by rw [HCL.out, hL0]; rfl
      rw [hc0]
      clear hc0 HOL HOLR HCR
      go_wp2_with fail
      go_ret
      exact ⟨rfl, bch HB12.out HB24.out⟩
    · have t0 : ((nL : Int) == 0) = false := by simpa using (by omega : ¬ (nL : Int) = 0)
      have hn16 : nL ≤ 16 := by rw [HNL.out]; exact HOK.out.1
      have hu0 : 0 ≤ IntKind.u64.wrap z := by
        have h := Int.emod_nonneg z (b := 2 ^ IntKind.u64.bits) (by decide)
        simp [IntKind.wrap, IntKind.signed]
        exact h
      obtain ⟨k, hk, hkm⟩ : ∃ k : Nat, k < nL ∧ (IntKind.u64.wrap z).tmod (nL : Int) = (k : Int) := by
        rw [Int.tmod_eq_emod_of_nonneg hu0]
        have h1 : 0 ≤ IntKind.u64.wrap z % (nL : Int) := Int.emod_nonneg _ (by omega)
        have h2 : IntKind.u64.wrap z % (nL : Int) < (nL : Int) := Int.emod_lt_of_pos _ (by omega)
        exact ⟨(IntKind.u64.wrap z % (nL : Int)).toNat, by omega, by omega⟩
      have hk64 : wrap64 (k : Int) = (k : Int) := by
        unfold wrap64
        omega
      clear hu0
      have hcL : nL ≤ cL := by
        obtain ⟨_, _, e, h1, _⟩ := HOLR.out
        rw [← HNL.out] at e h1
        cases e
        exact h1
      have hLL : 0 < L.length := by rw [← HNL.out]; exact hn0
      obtain ⟨gL, rfl⟩ : ∃ g, aL = some ⟨g, 0, none⟩ := by
        obtain ⟨xs, h1, _⟩ := HOL.out
        obtain ⟨g, c1, e, _⟩ := h1.form hLL
        cases e
        exact ⟨g, rfl⟩
      obtain ⟨y, hy⟩ : ∃ y, L[k]? = some y := ⟨_, List.getElem?_eq_getElem (by rw [← HNL.out]; exact hk)⟩
      have HOKY : Hid (okLs y = true) := Lib.hid (HOK.out.2 y (List.mem_of_getElem? hy))
      have HDR : Hid (∀ W, Below w4.heap.size w4 W → RdRs W (.slice (some ⟨gL, k, none⟩) (nL - k) (cL - k)) (L.drop k)) := Lib.hid (fun W hW => (HOLR.out.on (bch HB24.out hW)).drop (by omega) rfl rfl (by omega))
      have HTK : Hid (∀ W, Below w4.heap.size w4 W → RdRs W (.slice (some ⟨gL, 0, none⟩) k cL) (L.take k)) := Lib.hid (fun W hW => (HOLR.out.on (bch HB24.out hW)).take (by omega))
      have HLN : Hid ((L.drop k ++ L.take k).length = nL) := Lib.hid (by rw [List.length_append, List.length_drop, List.length_take, HNL.out]; omega)
      obtain ⟨i0, hi, hz0, hz1, hz2⟩ := info_parts info33
      have s1 : (0 : Int) ≤ (k : Int) := by omega
      have s2 : (k : Int) ≤ (nL : Int) := by omega
      have s3 : (nL : Int) ≤ (cL : Int) := by omega
      have s4 : (k : Int) ≤ (cL : Int) := by omega
      have s5 : ¬ cL = k := by omega
      have s6 : ¬ cL = 0 := by omega
      go_upto_region 8 with fail
      go_cut [9] (fun p9 wx => ∃ a c, p9 = .slice a nL c ∧ Hid (RdRs wx (.slice a nL c) (L.drop k ++ L.take k)) ∧ Hid (Below w4.heap.size w4 wx))
      case first =>
        rename_i J2 K2 hJ hK2
        obtain ⟨v0, hv0⟩ : ∃ q, q = World.drew w4 := ⟨_, rfl⟩
        refine wp_region_held_drew (S := fun w' => Below w4.heap.size w4 w') (by kernel_rfl) (below_drewN (Below.refl _ _) 1) (fun hHeld => ?_)
        rw [← hv0] at hHeld ⊢
        clear hv0
        refine wpAnyH_take (i := 0) (oi := { dst := some 43, op := Op.move (Operand.tmp 5), type := 25, pos := "outright.go:47", after := #[], guard := none }) (v := ?_) rfl (by kernel_rfl) (by kernel_rfl) (by kernel_rfl) (fun _ _ _ h => h) (Or.inl ⟨by rfl, ?_⟩) hHeld ?_
        rotate_left
        · (intro w hSw; go_simp; try with_reducible rfl)
        (try simp only [Act.put, List.setIfInBounds_toArray, List.set_cons_zero, List.set_cons_succ])
        refine wpAnyH_take (i := 1) (oi := { dst := some 44, op := Op.move (Operand.tmp 8), type := 3, pos := "outright.go:47", after := #[], guard := none }) (v := ?_) rfl (by kernel_rfl) (by kernel_rfl) (by kernel_rfl) (fun _ _ _ h => h) (Or.inl ⟨by rfl, ?_⟩) hHeld ?_
        rotate_left
        · (intro w hSw; go_simp; try with_reducible rfl)
        (try simp only [Act.put, List.setIfInBounds_toArray, List.set_cons_zero, List.set_cons_succ])
        refine wpAnyH_take (i := 2) (oi := { dst := some 45, op := Op.slice 25 (Operand.tmp 43) (some (Operand.tmp 44)) none none, type := 25, pos := "outright.go:47", after := #[{ on := 0, ground := Ground.data }, { on := 1, ground := Ground.data }], guard := none }) (v := ?_) rfl (by kernel_rfl) (by kernel_rfl) (by kernel_rfl) (fun _ _ _ h => h) (Or.inl ⟨by rfl, ?_⟩) hHeld ?_
        rotate_left
        · (intro w hSw; go_simp; try with_reducible rfl)
        (try simp only [Act.put, List.setIfInBounds_toArray, List.set_cons_zero, List.set_cons_succ])
        refine wpAnyH_take (i := 4) (oi := { dst := some 47, op := Op.move (Operand.tmp 5), type := 25, pos := "outright.go:47", after := #[], guard := none }) (v := ?_) rfl (by kernel_rfl) (by kernel_rfl) (by kernel_rfl) (fun _ _ _ h => h) (Or.inl ⟨by rfl, ?_⟩) hHeld ?_
        rotate_left
        · (intro w hSw; go_simp; try with_reducible rfl)
        (try simp only [Act.put, List.setIfInBounds_toArray, List.set_cons_zero, List.set_cons_succ])
        refine wpAnyH_take (i := 5) (oi := { dst := some 48, op := Op.move (Operand.tmp 8), type := 3, pos := "outright.go:47", after := #[], guard := none }) (v := ?_) rfl (by kernel_rfl) (by kernel_rfl) (by kernel_rfl) (fun _ _ _ h => h) (Or.inl ⟨by rfl, ?_⟩) hHeld ?_
        rotate_left
        · (intro w hSw; go_simp; try with_reducible rfl)
        (try simp only [Act.put, List.setIfInBounds_toArray, List.set_cons_zero, List.set_cons_succ])
        refine wpAnyH_take (i := 6) (oi := { dst := some 49, op := Op.slice 25 (Operand.tmp 47) none (some (Operand.tmp 48)) none, type := 25, pos := "outright.go:47", after := #[{ on := 4, ground := Ground.data }, { on := 5, ground := Ground.data }], guard := none }) (v := ?_) rfl (by kernel_rfl) (by kernel_rfl) (by kernel_rfl) (fun _ _ _ h => h) (Or.inl ⟨by rfl, ?_⟩) hHeld ?_
        rotate_left
        · (intro w hSw; go_simp; try with_reducible rfl)
        (try simp only [Act.put, List.setIfInBounds_toArray, List.set_cons_zero, List.set_cons_succ])
        refine wpAnyH_ready (rs := [3]) (by kernel_rfl) (by simp) (AllReadyH.cons (o := { dst := some 46, op := Op.call { callee := Callee.value (Operand.func 9), args := #[Operand.tmp 45], argTypes := #[25] }, type := 25, pos := "outright.go:47", after := #[{ on := 2, ground := Ground.data }], guard := none }) rfl (fun K hK => ?_) AllReadyH.nil)
        · go_simp
          go_loud (go_wp2_with (go_at_call 9; refine (own_any (L.drop k) _ _ (HDR.out v0 hHeld)).mono ?_; rintro e w6 ⟨v6, rfl, ho, hb⟩))
          rw [cutR_id (okRs_drop HOK.out k)] at ho
          have HV6 := Lib.hid ho
          have HB6 := Lib.hid (bch hHeld hb)
          have HZ0 := Lib.hid hHeld.size
          have HBV : Hid (v0.heap.size ≤ w6.heap.size) := Lib.hid hb.size
          refine hK.out _ _ HB6.out (fun hHeld => ?_)
          clear ho hb hK K
          (try simp only [Act.put, List.setIfInBounds_toArray, List.set_cons_zero, List.set_cons_succ])
          refine wpAnyH_ready (rs := [7]) (by kernel_rfl) (by simp) (AllReadyH.cons (o := { dst := some 50, op := Op.call { callee := Callee.value (Operand.func 9), args := #[Operand.tmp 49], argTypes := #[25] }, type := 25, pos := "outright.go:47", after := #[{ on := 6, ground := Ground.data }, { on := 3, ground := Ground.chain }], guard := none }) rfl (fun K hK => ?_) AllReadyH.nil)
          · go_simp
            go_wp2_with (go_at_call 9; refine (own_any (L.take k) _ _ (HTK.out w6 HB6.out)).mono ?_; rintro e w7 ⟨v7, rfl, ho, hb⟩)
            rw [cutR_id (okRs_take HOK.out k)] at ho
            have HV7 := Lib.hid ho
            have HV67 := Lib.hid (HV6.out.on hb)
            have HB7 := Lib.hid (bch HB6.out hb)
            have HZ7 := Lib.hid (Nat.le_trans HBV.out hb.size)
            refine hK.out _ _ HB7.out (fun hHeld => ?_)
            clear ho hb hK K
            (try simp only [Act.put, List.setIfInBounds_toArray, List.set_cons_zero, List.set_cons_succ])
            refine wpAnyH_ready (rs := [8]) (by kernel_rfl) (by simp) (AllReadyH.cons (o := { dst := some 51, op := Op.call { callee := Callee.builtin Builtin.append, args := #[Operand.tmp 46, Operand.tmp 50], argTypes := #[25, 25] }, type := 25, pos := "outright.go:47", after := #[{ on := 3, ground := Ground.data }, { on := 7, ground := Ground.data }, { on := 7, ground := Ground.chain }], guard := none }) rfl (fun K hK => ?_) AllReadyH.nil)
            · refine step_append_rows (by rfl) (.tmp 46) (.tmp 50) 25 rfl i0 Try.underlying25 hi hz0 hz1 hz2 v0.heap.size w6.heap.size v6 v7 (L.drop k) (L.take k) rfl rfl HV67.out HV7.out HBV.out (by rw [List.length_drop, List.length_take]; have := HOK.out.1; omega) HZ7.out ?_
              intro v8 w8 hr hgb
              have HV8 := Lib.hid hr
              have HB8 : Hid (Below w4.heap.size w4 w8) := Lib.hid (hgb _ _ HZ0.out (Nat.le_refl _) HB7.out)
              obtain ⟨a8, c8, rfl⟩ := hr.slice
              rw [HLN.out] at HV8 ⊢
              refine hK _ _ HB8.out (fun hHeld => ?_)
              clear hr hgb hK K
              (try simp only [Act.put, List.setIfInBounds_toArray, List.set_cons_zero, List.set_cons_succ])
              refine wpAnyH_take (i := 9) (oi := { dst := some 9, op := Op.assign (Operand.tmp 51), type := 25, pos := "outright.go:47", after := #[{ on := 8, ground := Ground.data }, { on := 8, ground := Ground.chain }, { on := 0, ground := Ground.phase }, { on := 1, ground := Ground.phase }, { on := 2, ground := Ground.phase }, { on := 3, ground := Ground.phase }, { on := 4, ground := Ground.phase }, { on := 5, ground := Ground.phase }, { on := 6, ground := Ground.phase }, { on := 7, ground := Ground.phase }, { on := 8, ground := Ground.phase }], guard := none }) (v := ?_) rfl (by kernel_rfl) (by kernel_rfl) (by kernel_rfl) (fun _ _ _ h => h) (Or.inl ⟨by rfl, ?_⟩) hHeld ?_
              rotate_left
              · (intro w hSw; go_simp; try with_reducible rfl)
              (try simp only [Act.put, List.setIfInBounds_toArray, List.set_cons_zero, List.set_cons_succ])
              refine wpAnyH_done (by kernel_rfl) ?_ _
              first | refine hK2 _ _ (Met.intro (hJ _ _ ?_)) | refine Met.intro (hJ _ _ ?_)
              (repeat apply Exists.intro)
              refine ⟨?_, rfl⟩
              exact ⟨_, _, rfl, Lib.hid HV8.out.rd, HB8⟩
      case rest =>
      obtain ⟨aT, cT, rfl, HRT, HBT⟩ := hcut
      clear HDR HTK HLN hi hz0 hz1 hz2 hkm hk64 s1 s2 s3 s4 s5 s6 t0 HOL
      go_upto_region 10 with (go_at_call 10; refine (clashes_any (L.drop k ++ L.take k) _ _ HRT.out).mono ?_; rintro e w5 ⟨v5, rfl, hb, h1, h2⟩; have hod := h2 (chkR_ok (okRs_turned HOK.out k)); rw [clash_turned, ← HCL.out] at hod; rw [chkR_ok (okRs_turned HOK.out k)]; have HB45 := Lib.hid (bch HBT.out hb); have HRA := Lib.hid (Rd.of_own hod); obtain ⟨aA, cA, rfl⟩ := own_slice hod; clear hb h1 h2 hod)
      have HCR5 := Lib.hid (HCR.out.on HB45.out)
      have tCL : decide (CL = CL) = true := decide_eq_true rfl
      go_upto_region 13 with (go_at_call 11; refine (eqs_any CL CL _ _ _ HRA.out HCR5.out HCLN.out HCLN.out).mono ?_; rintro e w6 ⟨rfl, hb⟩; have HB46 := Lib.hid (bch HB45.out hb); rw [tCL]; clear hb)
      have HB26 := Lib.hid (bch HB24.out HB46.out)
      have HYR : Hid (∃ ay cy, ∀ W, Below w2.heap.size w2 W → W.cell? ⟨gL, k, none⟩ = some (.slice ay y.length cy) ∧ RdL W (.slice ay y.length cy) y) := Lib.hid (by
        obtain ⟨a0, c0, e, _, _, h4⟩ := HOLR.out
        rw [← HNL.out] at e
        cases e
        obtain ⟨g, o, e, hg, hc⟩ := h4 hLL
        cases e
        obtain ⟨x, hx, hl⟩ := hc k y hy
        obtain ⟨ay, cy, rfl⟩ := hl.slice
        rw [Nat.zero_add] at hx
        exact ⟨ay, cy, fun W hW => ⟨(hW.cell (p := ⟨gL, k, none⟩) hg).trans hx, hl.on hW⟩⟩)
      obtain ⟨ay, cy, hyr⟩ := HYR.out
      obtain ⟨ny, hny⟩ : ∃ z, z = y.length := ⟨_, rfl⟩
      rw [← hny] at hyr
      have HY := Lib.hid hyr
      have HNY := Lib.hid hny
      have hny16 : ny ≤ 16 := by rw [hny]; exact okLs_short HOKY.out
      have q0 := (HY.out w6 HB26.out).1
      have k1 : (k : Int) < (nL : Int) := by omega
      have k2 : (0 : Int) ≤ (k : Int) := by omega
      clear hyr hny HYR hy hLL HCR5 HRA HCR HRT HOLR
      go_wp2_with fail
      go_loopw [11, 70] (fun out i W => ∃ j : Nat, j ≤ ny ∧ i = .int .i64 (j : Int) ∧ Hid (W.ownsRow w6.heap.size 9 1 out ((filesF (y.take j)).map encStr).length ((filesF (y.take j)).map encStr)) ∧ Hid (Below w6.heap.size w6 W)) (fun _ i _ => ny - (Lib.intOf i).toNat)
      case atStart => exact ⟨0, Nat.zero_le _, rfl, Lib.hid (World.ownsRow_nil _ _ _ _), Lib.hid (Below.refl _ _)⟩
      case round =>
        obtain ⟨j, hj, rfl, HO, HB⟩ := hrel
        obtain ⟨wq, hwq⟩ : ∃ q, q = wr := ⟨_, rfl⟩
        rw [← hwq] at HO HB ⊢
        clear hwq q0
        by_cases hlt : j < ny
        · obtain ⟨x, hx⟩ : ∃ x, y[j]? = some x := ⟨_, List.getElem?_eq_getElem (by rw [← HNY.out]; exact hlt)⟩
          obtain ⟨a', c', e, _, _, hc⟩ := (HY.out wq (bch HB26.out HB.out)).2.open
          rw [← HNY.out] at e
          cases e
          obtain ⟨g, o, rfl, hg, hc⟩ := hc (by rw [← HNY.out]; omega)
          obtain ⟨q0, q1, q2⟩ := hc j x hx
          have j1 : (j : Int) < (ny : Int) := by omega
          have j2 : (0 : Int) ≤ (j : Int) := by omega
          have j4 : IntKind.i64.wrap ((j : Int) + 1) = (j : Int) + 1 := IntWalk.i64_in _ (by omega)
          obtain ⟨w7, hw7⟩ : ∃ q, q = wq.alloc (.cells #[.string ⟨x.p.toArray⟩, .bool x.dir, .string ⟨x.d.toArray⟩] 35) := ⟨_, rfl⟩
          have X7 : Box w7 wq.heap.size 35 x.arr := by rw [hw7]; exact box_new
          have hb7 : Below wq.heap.size wq w7 := by rw [hw7]; exact below_new _ _
          have HO7 := Lib.hid (own_on HO.out hb7)
          have HB7 : Hid (Below w6.heap.size w6 w7) := Lib.hid (bch HB.out hb7)
          obtain ⟨d0, d1, d2⟩ := X7.lf
          have HFT := Lib.hid (filesF_take hx)
          clear hc hx X7 hb7
          go_upto_region 16 with fail
          obtain ⟨b7, hb7⟩ : ∃ q, q = wq.heap.size := ⟨_, rfl⟩
          rw [← hb7] at d0 d1 d2 ⊢
          rw [← hw7]
          clear hw7 hb7 q0 q1 q2
          cases hd : x.dir with
          | true =>
            rw [hd] at d1
            have HE : Hid (filesF (y.take (j + 1)) = filesF (y.take j)) := Lib.hid (by rw [HFT.out, if_pos hd])
            clear hd
            go_wp2_with fail
            go_roundw
            case rel => exact ⟨j + 1, by omega, by go_num, Lib.hid (by rw [HE.out]; exact HO7.out), HB7⟩
            case measure => simp [Lib.intOf]; omega
          | false =>
            rw [hd] at d1
            have HE : Hid ((filesF (y.take (j + 1))).map encStr = (filesF (y.take j)).map encStr ++ [.string ⟨x.p.toArray⟩]) := Lib.hid (by rw [HFT.out, if_neg (by rw [hd]; decide), List.map_append]; rfl)
            have HLF : Hid (((filesF (y.take j)).map encStr).length ≤ 16) := Lib.hid (by
              rw [List.length_map]
              have h1 := filesF_len (y.take j)
              rw [List.length_take] at h1
              omega)
            clear hd
            obtain ⟨w8, hw8⟩ : ∃ q, q = w7.alloc (.cells #[.string ⟨x.p.toArray⟩] 9) := ⟨_, rfl⟩
            have hb8 : Below w7.heap.size w7 w8 := by rw [hw8]; exact below_new _ _
            have HO8 := Lib.hid (own_on HO7.out hb8)
            have HB8 := Lib.hid (bch HB7.out hb8)
            have HS8 : Hid (Rd w8 (.slice (some ⟨w7.heap.size, 0, none⟩) 1 1) [.string ⟨x.p.toArray⟩]) := Lib.hid (by rw [hw8]; exact rds_new w7 [x.p] (by simp))
            have HW8 := Lib.hid hw8
            obtain ⟨xs, hxs⟩ : ∃ z, z = (filesF (y.take j)).map encStr := ⟨_, rfl⟩
            rw [← hxs] at HE HO8 HLF
            clear hw8 hb8 hxs
            go_wp2_with (at_builtin; go_loud (rw [← HW8.out]; refine wpList_append_at rfl (.tmp 77) (.tmp 80) 27 9 (.string ⟨#[]⟩) 16 rfl Try.underlying27 info9 rfl w6.heap.size _ _ xs [.string ⟨x.p.toArray⟩] rfl HO8.out rfl HS8.out (by simp [Value.oneCell']) HB8.out.size (by have := HLF.out; simp; omega) (by decide) ?_; intro v' w9 hown hgrow hat; have HO9 := Lib.hid hown; have HB9 : Hid (Below w6.heap.size w6 w9) := Lib.hid (HB8.out.grown hgrow HB8.out.size (fun r e => (own_in HO8.out e).1)); clear hown hgrow hat; refine Hid.out ?_))
            refine Lib.hid ?_
            go_wp2_with fail
            go_roundw
            case rel => exact ⟨j + 1, by omega, by go_num, Lib.hid (by rw [HE.out]; exact HO9.out), HB9⟩
            case measure => simp [Lib.intOf]; omega
        · have j1 : ¬ ((j : Int) < (ny : Int)) := by omega
          have HE : Hid (y.take j = y) := Lib.hid (List.take_of_length_le (by rw [← HNY.out]; omega))
          rw [HE.out] at HO
          obtain ⟨af, cf, rfl⟩ := own_slice HO.out
          have HRF := Lib.hid (Rd.of_own HO.out)
          rw [List.length_map] at HRF ⊢
          have HFL : Hid ((filesF y).length ≤ 1000000) := Lib.hid (by have := filesF_len y; have := HNY.out; omega)
          obtain ⟨wf, hwf⟩ : ∃ q, q = wq := ⟨_, rfl⟩
          rw [← hwf] at HRF HB ⊢
          have HB2f := Lib.hid (bch HB26.out HB.out)
          have HYC : Hid (∀ W, Below wf.heap.size wf W → W.cell? ⟨gL, k, none⟩ = some (.slice ay ny cy)) := Lib.hid (fun W hW => (HY.out W (bch HB2f.out hW)).1)
          have HYR : Hid (∀ W, Below wf.heap.size wf W → RdL W (.slice ay ny cy) y) := Lib.hid (fun W hW => (HY.out W (bch HB2f.out hW)).2)
          clear hwf HO
          go_upto_region 19 with fail
          go_cut [7, 14] (fun p7 p14 wx => ∃ a c, p7 = .int .i64 0 ∧ p14 = .slice a (filesF y).length c ∧ Hid (Rd wx (.slice a (filesF y).length c) ((filesF y).map encStr)) ∧ Hid (Below wf.heap.size wf wx))
          case first =>
            rename_i J2 K2 hJ hK2
            obtain ⟨v0, hv0⟩ : ∃ q, q = World.drew wf := ⟨_, rfl⟩
            refine wp_region_held_drew (S := fun w' => Below wf.heap.size wf w') (by kernel_rfl) (below_drewN (Below.refl _ _) 1) (fun hHeld => ?_)
            rw [← hv0] at hHeld ⊢
            clear hv0
            refine wpAnyH_take (i := 0) (oi := { dst := some 84, op := Op.move (Operand.tmp 5), type := 25, pos := "outright.go:59", after := #[], guard := none }) (v := ?_) rfl (by kernel_rfl) (by kernel_rfl) (by kernel_rfl) (fun _ _ _ h => h) (Or.inl ⟨by rfl, ?_⟩) hHeld ?_
            rotate_left
            · (intro w hSw; have p0 := HYC.out w hSw; go_simp; try with_reducible rfl)
            (try simp only [Act.put, List.setIfInBounds_toArray, List.set_cons_zero, List.set_cons_succ])
            refine wpAnyH_take (i := 1) (oi := { dst := some 85, op := Op.move (Operand.tmp 8), type := 3, pos := "outright.go:59", after := #[], guard := none }) (v := ?_) rfl (by kernel_rfl) (by kernel_rfl) (by kernel_rfl) (fun _ _ _ h => h) (Or.inl ⟨by rfl, ?_⟩) hHeld ?_
            rotate_left
            · (intro w hSw; have p0 := HYC.out w hSw; go_simp; try with_reducible rfl)
            (try simp only [Act.put, List.setIfInBounds_toArray, List.set_cons_zero, List.set_cons_succ])
            refine wpAnyH_take (i := 2) (oi := { dst := some 86, op := Op.indexAddr 25 (Operand.tmp 84) (Operand.tmp 85), type := 0, pos := "outright.go:59", after := #[{ on := 0, ground := Ground.data }, { on := 1, ground := Ground.data }], guard := none }) (v := ?_) rfl (by kernel_rfl) (by kernel_rfl) (by kernel_rfl) (fun _ _ _ h => h) (Or.inl ⟨by rfl, ?_⟩) hHeld ?_
            rotate_left
            · (intro w hSw; have p0 := HYC.out w hSw; go_simp; try with_reducible rfl)
            (try simp only [Act.put, List.setIfInBounds_toArray, List.set_cons_zero, List.set_cons_succ])
            refine wpAnyH_take (i := 3) (oi := { dst := some 87, op := Op.load 33 (Operand.tmp 86), type := 33, pos := "outright.go:59", after := #[{ on := 2, ground := Ground.data }], guard := none }) (v := ?_) rfl (by kernel_rfl) (by kernel_rfl) (by kernel_rfl) (fun _ _ _ h => h) (Or.inl ⟨by rfl, ?_⟩) hHeld ?_
            rotate_left
            · (intro w hSw; have p0 := HYC.out w hSw; go_simp; try with_reducible rfl)
            (try simp only [Act.put, List.setIfInBounds_toArray, List.set_cons_zero, List.set_cons_succ])
            refine wpAnyH_take (i := 4) (oi := { dst := some 88, op := Op.move (Operand.tmp 5), type := 25, pos := "outright.go:59", after := #[], guard := none }) (v := ?_) rfl (by kernel_rfl) (by kernel_rfl) (by kernel_rfl) (fun _ _ _ h => h) (Or.inl ⟨by rfl, ?_⟩) hHeld ?_
            rotate_left
            · (intro w hSw; have p0 := HYC.out w hSw; go_simp; try with_reducible rfl)
            (try simp only [Act.put, List.setIfInBounds_toArray, List.set_cons_zero, List.set_cons_succ])
            refine wpAnyH_take (i := 5) (oi := { dst := some 89, op := Op.move (Operand.tmp 8), type := 3, pos := "outright.go:59", after := #[], guard := none }) (v := ?_) rfl (by kernel_rfl) (by kernel_rfl) (by kernel_rfl) (fun _ _ _ h => h) (Or.inl ⟨by rfl, ?_⟩) hHeld ?_
            rotate_left
            · (intro w hSw; have p0 := HYC.out w hSw; go_simp; try with_reducible rfl)
            (try simp only [Act.put, List.setIfInBounds_toArray, List.set_cons_zero, List.set_cons_succ])
            refine wpAnyH_take (i := 6) (oi := { dst := some 90, op := Op.indexAddr 25 (Operand.tmp 88) (Operand.tmp 89), type := 0, pos := "outright.go:59", after := #[{ on := 4, ground := Ground.data }, { on := 5, ground := Ground.data }], guard := none }) (v := ?_) rfl (by kernel_rfl) (by kernel_rfl) (by kernel_rfl) (fun _ _ _ h => h) (Or.inl ⟨by rfl, ?_⟩) hHeld ?_
            rotate_left
            · (intro w hSw; have p0 := HYC.out w hSw; go_simp; try with_reducible rfl)
            (try simp only [Act.put, List.setIfInBounds_toArray, List.set_cons_zero, List.set_cons_succ])
            refine wpAnyH_take (i := 7) (oi := { dst := some 91, op := Op.load 33 (Operand.tmp 90), type := 33, pos := "outright.go:59", after := #[{ on := 6, ground := Ground.data }], guard := none }) (v := ?_) rfl (by kernel_rfl) (by kernel_rfl) (by kernel_rfl) (fun _ _ _ h => h) (Or.inl ⟨by rfl, ?_⟩) hHeld ?_
            rotate_left
            · (intro w hSw; have p0 := HYC.out w hSw; go_simp; try with_reducible rfl)
            (try simp only [Act.put, List.setIfInBounds_toArray, List.set_cons_zero, List.set_cons_succ])
            refine wpAnyH_ready (rs := [8]) (by kernel_rfl) (by simp) (AllReadyH.cons (o := { dst := some 92, op := Op.buildSlice 25 2 #[(0, Operand.tmp 87), (1, Operand.tmp 91)], type := 25, pos := "outright.go:59", after := #[{ on := 3, ground := Ground.data }, { on := 7, ground := Ground.data }], guard := none }) rfl (fun K hK => ?_) AllReadyH.nil)
            · go_simp
              obtain ⟨wc, hwc⟩ : ∃ z, z = v0.alloc (.cells #[.slice ay ny cy, .slice ay ny cy] 33) := ⟨_, rfl⟩
              go_loud (rw [← hwc])
              have hbc : Below v0.heap.size v0 wc := by rw [hwc]; exact below_new _ _
              have Xc : Box wc v0.heap.size 33 #[.slice ay ny cy, .slice ay ny cy] := by rw [hwc]; exact box_new
              have HRC := Lib.hid (rdrs_two Xc (HYR.out wc (bch hHeld hbc)) (HYR.out wc (bch hHeld hbc)))
              refine hK.out _ _ (bch hHeld hbc) (fun hHeld => ?_)
              clear hwc hbc Xc hK K
              (try simp only [Act.put, List.setIfInBounds_toArray, List.set_cons_zero, List.set_cons_succ])
              refine wpAnyH_ready (rs := [9]) (by kernel_rfl) (by simp) (AllReadyH.cons (o := { dst := some 93, op := Op.call { callee := Callee.value (Operand.func 10), args := #[Operand.tmp 92], argTypes := #[25] }, type := 29, pos := "outright.go:59", after := #[{ on := 8, ground := Ground.data }], guard := none }) rfl (fun K hK => ?_) AllReadyH.nil)
              · go_simp
                go_wp2_with (go_at_call 10; refine (clashes_any [y, y] _ _ HRC.out).mono ?_; rintro e wd ⟨vd, rfl, hb, h1, h2⟩)
                have hod := h2 (chkR_ok (okRs_two HOKY.out))
                rw [clash_self HOKY.out] at hod
                rw [chkR_ok (okRs_two HOKY.out)]
                have HOD := Lib.hid (Rd.of_own hod)
                obtain ⟨ad, cd, rfl⟩ := own_slice hod
                have HBD := Lib.hid (bch hHeld hb)
                refine hK.out _ _ (bch hHeld hb) (fun hHeld => ?_)
                clear h1 h2 hod hb hK K
                (try simp only [Act.put, List.setIfInBounds_toArray, List.set_cons_zero, List.set_cons_succ])
                refine wpAnyH_take (i := 10) (oi := { dst := some 83, op := Op.move (Operand.tmp 93), type := 29, pos := "outright.go:59", after := #[{ on := 9, ground := Ground.data }], guard := none }) (v := ?_) rfl (by kernel_rfl) (by kernel_rfl) (by kernel_rfl) (fun _ _ _ h => h) (Or.inl ⟨by rfl, ?_⟩) hHeld ?_
                rotate_left
                · (intro w hSw; go_simp; try with_reducible rfl)
                (try simp only [Act.put, List.setIfInBounds_toArray, List.set_cons_zero, List.set_cons_succ])
                refine wpAnyH_take (i := 11) (oi := { dst := some 94, op := Op.extract (Operand.tmp 83) 0, type := 27, pos := "outright.go:59", after := #[{ on := 10, ground := Ground.data }], guard := none }) (v := ?_) rfl (by kernel_rfl) (by kernel_rfl) (by kernel_rfl) (fun _ _ _ h => h) (Or.inl ⟨by rfl, ?_⟩) hHeld ?_
                rotate_left
                · (intro w hSw; go_simp; try with_reducible rfl)
                (try simp only [Act.put, List.setIfInBounds_toArray, List.set_cons_zero, List.set_cons_succ])
                refine wpAnyH_take (i := 12) (oi := { dst := some 95, op := Op.extract (Operand.tmp 83) 1, type := 28, pos := "outright.go:59", after := #[{ on := 10, ground := Ground.data }, { on := 13, ground := Ground.gcOnly Departure.lateStores }], guard := none }) (v := ?_) rfl (by kernel_rfl) (by kernel_rfl) (by kernel_rfl) (fun _ _ _ h => h) (Or.inl ⟨by rfl, ?_⟩) hHeld ?_
                rotate_left
                · (intro w hSw; go_simp; try with_reducible rfl)
                (try simp only [Act.put, List.setIfInBounds_toArray, List.set_cons_zero, List.set_cons_succ])
                refine wpAnyH_take (i := 13) (oi := { dst := some 14, op := Op.assign (Operand.tmp 94), type := 27, pos := "outright.go:59", after := #[{ on := 11, ground := Ground.data }, { on := 9, ground := Ground.chain }, { on := 0, ground := Ground.phase }, { on := 1, ground := Ground.phase }, { on := 2, ground := Ground.phase }, { on := 3, ground := Ground.phase }, { on := 4, ground := Ground.phase }, { on := 5, ground := Ground.phase }, { on := 6, ground := Ground.phase }, { on := 7, ground := Ground.phase }, { on := 8, ground := Ground.phase }, { on := 9, ground := Ground.phase }, { on := 10, ground := Ground.phase }, { on := 11, ground := Ground.phase }, { on := 12, ground := Ground.textOnly Departure.lateStores }], guard := none }) (v := ?_) rfl (by kernel_rfl) (by kernel_rfl) (by kernel_rfl) (fun _ _ _ h => h) (Or.inl ⟨by rfl, ?_⟩) hHeld ?_
                rotate_left
                · (intro w hSw; go_simp; try with_reducible rfl)
                (try simp only [Act.put, List.setIfInBounds_toArray, List.set_cons_zero, List.set_cons_succ])
                refine wpAnyH_take (i := 14) (oi := { dst := some 7, op := Op.assign (Operand.tmp 95), type := 28, pos := "outright.go:59", after := #[{ on := 12, ground := Ground.data }, { on := 13, ground := Ground.chain }, { on := 0, ground := Ground.phase }, { on := 1, ground := Ground.phase }, { on := 2, ground := Ground.phase }, { on := 3, ground := Ground.phase }, { on := 4, ground := Ground.phase }, { on := 5, ground := Ground.phase }, { on := 6, ground := Ground.phase }, { on := 7, ground := Ground.phase }, { on := 8, ground := Ground.phase }, { on := 9, ground := Ground.phase }, { on := 10, ground := Ground.phase }, { on := 11, ground := Ground.phase }, { on := 12, ground := Ground.phase }, { on := 13, ground := Ground.phase }], guard := none }) (v := ?_) rfl (by kernel_rfl) (by kernel_rfl) (by kernel_rfl) (fun _ _ _ h => h) (Or.inl ⟨by rfl, ?_⟩) hHeld ?_
                rotate_left
                · (intro w hSw; go_simp; try with_reducible rfl)
                (try simp only [Act.put, List.setIfInBounds_toArray, List.set_cons_zero, List.set_cons_succ])
                refine wpAnyH_done (by kernel_rfl) ?_ _
                first | refine hK2 _ _ (Met.intro (hJ _ _ ?_)) | refine Met.intro (hJ _ _ ?_)
                (repeat apply Exists.intro)
                refine ⟨?_, rfl⟩
                exact ⟨_, _, rfl, rfl, HOD, HBD⟩
          case rest =>
          obtain ⟨aS, cS, rfl, rfl, HRS, HBS⟩ := hcut
          have q0 := HYC.out wc HBS.out
          go_wp2_with (first
            | (go_at_call 10; refine (clashes_any [y] _ _ (rdrs_one box_new (HYR.out _ (bch HBS.out (below_new _ _))))).mono ?_; rintro e wd ⟨vd, rfl, hb, h1, h2⟩; have hod := h2 (chkR_ok (okRs_one HOKY.out)); rw [clash_one HOKY.out] at hod; rw [chkR_ok (okRs_one HOKY.out)]; have HBd := Lib.hid (bch (below_new _ _) hb); obtain ⟨aO, cO, rfl⟩ := own_slice hod; clear hb h1 h2 hod)
            | (go_at_call 11; refine (eqs_any (filesF y) (filesF y) _ _ _ (HRS.out.on HBd.out) (HRF.out.on (bch HBS.out HBd.out)) HFL.out HFL.out).mono ?_; rintro e we ⟨rfl, hb⟩; have HBe := Lib.hid (bch HBd.out hb); rw [show decide (filesF y = filesF y) = true from decide_eq_true rfl]; clear hb))
          go_ret
          exact ⟨rfl, bch (bch (bch HB12.out HB2f.out) HBS.out) HBe.out⟩
  · have t1 : (chkR L != 0) = true := by simpa using hz
    have HZ := Lib.hid hz
    clear hz
    go_wp2_with (go_at_call 10; refine (clashes_any L _ _ HOLR.out).mono ?_; rintro e w3 ⟨v3, rfl, hb, h1, h2⟩; obtain rfl := h1 HZ.out; have HB3 := Lib.hid hb; clear hb h1 h2)
    go_ret
    exact ⟨rfl, bch HB12.out HB3.out⟩
end Go.Proofs.Ytgmplpfbhcdofaa
