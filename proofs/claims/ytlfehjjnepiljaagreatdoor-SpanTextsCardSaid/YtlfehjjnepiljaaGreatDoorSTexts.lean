/- Proved here: SpanTexts of puncheonlaw05 returns true for every row of spans and row of texts, wherever the tables stand. -/
import Derived.Test.YtlfehjjnepiljaaGreatDoorSTReg7
import Derived.Deep.CutBlock
namespace Go.Proofs.YtlfehjjnepiljaaGreatDoor
open Go.RowKit Go.Shelf

theorem scheck_no {ls : List (List Bd)} {x : Value} (h : spanOk ls = false) (W : World) (hx : RdR W x ls) : Calls Tryz.prog 13 #[.agg #[x]] W fun e w' => e = .returned (.int .i64 150) ∧ Below W.heap.size W w' := by
  have h1 := scheck_any ls x W hx
  rw [if_neg (by rw [h]; decide)] at h1
  exact h1
theorem scheck_yes {ls : List (List Bd)} {x : Value} (h : spanOk ls = true) (W : World) (hx : RdR W x ls) : Calls Tryz.prog 13 #[.agg #[x]] W fun e w' => e = .returned (.int .i64 0) ∧ Below W.heap.size W w' := by
  have h1 := scheck_any ls x W hx
  rw [if_pos h] at h1
  exact h1
theorem same_one (ls : List (List Bd)) (x y : Value) (W : World) (hx : RdR W x ls) (hy : RdR W y ls) : Calls Tryz.prog 15 #[.agg #[x], .agg #[y]] W fun e w' => e = .returned (.bool true) ∧ Below W.heap.size W w' := by
  have h := same_any ls ls x y W hx hy
  rw [decide_eq_true (rfl : ls = ls)] at h
  exact h
theorem self_eq (t : ByteArray) : (t.toList == t.toList) = true := by rw [beq_iff_eq]
theorem self_ne (t : ByteArray) : (t.toList != t.toList) = false := by rw [bne, self_eq]; rfl

set_option maxRecDepth 100000 in
set_option maxHeartbeats 40000000 in
theorem texts_law (L : List (List (List Bd))) (T : List ByteArray) (x z : Value) (w : World) (hx : RdL w x L) (hz : RdT w z T) (hT : Tabs w) : Calls Tryz.prog 3 #[x, z] w fun e w' => e = .returned (.bool true) ∧ Below w.heap.size w w' := by
  have HX := Lib.hid hx
  have HZ := Lib.hid hz
  obtain ⟨ax, cx, rfl, hnl⟩ := hx.form
  obtain ⟨az, cz, rfl, hml⟩ := hz.form
  obtain ⟨n, hn⟩ : ∃ n, n = L.length := ⟨_, rfl⟩
  obtain ⟨m, hm⟩ : ∃ n, n = T.length := ⟨_, rfl⟩
  rw [← hn] at HX hnl ⊢
  rw [← hm] at HZ hml ⊢
  have HN := Lib.hid hn
  have HM := Lib.hid hm
  unfold maxLen at hnl hml
  have HT := Lib.hid hT
  have HW := Lib.hid (swakes_any w hT)
  clear hT hn hm hx hz
  go_enter Tryz.func3, Tryz.ntmps3
  go_wp2_with fail
  refine HW.out.mono ?_
  rintro e wB ⟨rfl, hb⟩
  have B2 := Lib.hid hb
  have TB := Lib.hid (HT.out.on hb)
  replace HX := Lib.hid (HX.out.on hb)
  replace HZ := Lib.hid (HZ.out.on hb)
  clear HW HT hb
  go_upto_block 0 with fail
  go_cut [5] (fun _ wx => Hid (Below wB.heap.size wB wx))
  case first =>
    rename_i J2 K2 hJ hK2
    go_wp2_with fail
    go_loopw [22] (fun i W => ∃ k : Nat, k ≤ n ∧ k ≤ 6 ∧ i = .int .i64 k ∧ Hid (Below wB.heap.size wB W)) (fun i _ => n - (Lib.intOf i).toNat)
    case atStart => exact ⟨0, Nat.zero_le _, Nat.zero_le _, rfl, Lib.hid (Below.refl _ _)⟩
    case round =>
      obtain ⟨k, hk, hk6, rfl, HB⟩ := hrel
      obtain ⟨wq, hwq⟩ : ∃ q, q = wr := ⟨_, rfl⟩
      rw [← hwq] at HB ⊢
      clear hwq
      by_cases hlt : k < n
      · obtain ⟨l, hl⟩ : ∃ v, L[k]? = some v := ⟨_, List.getElem?_eq_getElem (by have := HN.out; omega)⟩
        obtain ⟨l0, hl0⟩ : ∃ v, L[0]? = some v := ⟨_, List.getElem?_eq_getElem (by have := HN.out; omega)⟩
        obtain ⟨g, o, xk, rfl, hc, hg, hr⟩ := HX.out.at hl
        obtain ⟨g', o', x0, e0, hc0, hg0, hr0⟩ := HX.out.at hl0
        cases e0
        obtain ⟨ak, ck, rfl, -⟩ := hr.open
        obtain ⟨a0, c0, rfl, -⟩ := hr0.open
        obtain ⟨nk, hnk⟩ : ∃ n, n = l.length := ⟨_, rfl⟩
        obtain ⟨n0, hn0⟩ : ∃ n, n = l0.length := ⟨_, rfl⟩
        rw [← hnk] at hc hr
        rw [← hn0] at hc0 hr0
        have r0 := (HB.out.cell (p := ⟨g, o + k, none⟩) hg).trans hc
        have HC0 : Hid (wq.cell? ⟨g, o, none⟩ = some (.slice a0 n0 c0)) := Lib.hid ((HB.out.cell (p := ⟨g, o, none⟩) hg).trans hc0)
        have HGQ : Hid (g < wq.heap.size) := Lib.hid (Nat.lt_of_lt_of_le hg HB.out.size)
        have HRK : Hid (RdR wq (.slice ak nk ck) l) := Lib.hid (hr.on HB.out)
        have HR0 : Hid (RdR wq (.slice a0 n0 c0) l0) := Lib.hid (hr0.on HB.out)
        have k1 : (k : Int) < (n : Int) := by omega
        have k2 : (0 : Int) ≤ (k : Int) := by omega
        have k3 : (0 : Int) < (n : Int) := by omega
        have k4 : IntKind.i64.wrap ((k : Int) + 1) = (k : Int) + 1 := IntWalk.i64_in _ (by omega)
        clear hl hl0 hc hc0 hg hg0 hr hr0 hnk hn0
        obtain ⟨w1, hw1⟩ : ∃ q, q = wq.alloc (.cells #[.slice ak nk ck] 27) := ⟨_, rfl⟩
        have b1 : Below wq.heap.size wq w1 := by rw [hw1]; exact below_new _ _
        have Y6 : Hid (Box w1 wq.heap.size 27 #[.slice ak nk ck]) := Lib.hid (by rw [hw1]; exact box_new)
        go_upto_region 6 with fail
        rw [← hw1]
        (try go_frame)
        obtain ⟨g6, hg6⟩ : ∃ q, q = wq.heap.size := ⟨_, rfl⟩
        have B1 := Lib.hid (bch HB.out b1)
        have R00 : Hid (w1.cell? ⟨g, o, none⟩ = some (.slice a0 n0 c0)) := Lib.hid ((b1.cell (p := ⟨g, o, none⟩) HGQ.out).trans HC0.out)
        have HGL : Hid (g < w1.heap.size) := Lib.hid (Nat.lt_of_lt_of_le HGQ.out b1.size)
        have HXK := Lib.hid (HRK.out.on b1)
        have HX0 := Lib.hid (HR0.out.on b1)
        rw [← hg6] at Y6 ⊢
        clear hw1 b1 r0 HC0 HGQ HRK HR0 hg6 HB
        by_cases h6 : k = 6
        · have i6 : (k : Int) = 6 := by omega
          go_wp2_with fail
          first | refine hK2 _ _ (Met.intro (hJ _ _ ?_)) | refine Met.intro (hJ _ _ ?_)
          (repeat apply Exists.intro)
          refine ⟨?_, rfl⟩
          exact B1
        · have i6 : ¬ ((k : Int) = 6) := by omega
          have hk7 : k + 1 ≤ 6 := by omega
          obtain ⟨fa, hfa⟩ : ∃ t, t = fewR l := ⟨_, rfl⟩
          obtain ⟨fb, hfb⟩ : ∃ t, t = fewR l0 := ⟨_, rfl⟩
          obtain ⟨na, hna⟩ : ∃ t, t = fa.length := ⟨_, rfl⟩
          obtain ⟨nb, hnb⟩ : ∃ t, t = fb.length := ⟨_, rfl⟩
          have HFA := Lib.hid hfa
          have HFB := Lib.hid hfb
          have HNA := Lib.hid hna
          have HNB := Lib.hid hnb
          clear hfa hfb hna hnb h6
          go_upto_region 7 with fail
          clear i6
          refine texts_reg7 l l0 fa fb ak a0 nk ck n0 c0 na nb n cx g o g6 w1 (by omega) R00 HGL HXK HX0 Y6 HFA HFB HNA HNB _ _ _ _ _ _ _ _ _ _ _ _ _ _ _ _ _ _ _ _ _ _ _ _ _ _ _ _ _ _ _ _ _ _ _ _ _ _ _ _ _ _ _ _ _ _ _ _ _ _ _ _ _ _ _ _ _ _ _ _ _ _ _ _ _ _ _ _ _ _ _ _ _ _ _ _ _ _ _ _ _ _ _ _ _ _ _ _ _ _ _ _ _ _ _ _ _ _ _ _ _ _ _ _ _ _ _ _ _ _ _ _ _ _ _ _ _ _ _ _ _ _ _ _ _ _ _ _ _ _ _ _ (fun _ _ _ _ _ h => h) ?_
          intro u7 u8 u29 u30 u31 u32 u33 u34 wc hcut
          obtain ⟨g7, g8, aa, ca, ab, cb, rfl, rfl, G7, G8, Z7, Z8, OA, OB, BC⟩ := hcut
          obtain ⟨w2, hw2⟩ : ∃ q, q = wc := ⟨_, rfl⟩
          rw [← hw2] at Z7 Z8 OA OB BC ⊢
          have RA : Hid (RdR w2 (.slice aa na ca) fa) := Lib.hid OA.out.rd
          have RB : Hid (RdR w2 (.slice ab nb cb) fb) := Lib.hid OB.out.rd
          have BQ := Lib.hid (bch B1.out BC.out)
          replace Y6 := Lib.hid (Y6.out.on BC.out)
          replace HXK := Lib.hid (HXK.out.on BC.out)
          have TQ := Lib.hid (TB.out.on BQ.out)
          clear hw2 R00 HGL HX0 G7 G8 OA OB BC B1 HNA HNB
          obtain ⟨oa, hoa⟩ : ∃ o, o = spanOk fa := ⟨_, rfl⟩
          have HOA := Lib.hid hoa
          have HRR : Hid (Calls Tryz.prog 11 #[.agg #[.slice aa na ca]] w2 fun e w' => e = .returned (.bool oa) ∧ Below w2.heap.size w2 w') := Lib.hid (by rw [hoa]; exact rright_any fa _ w2 RA.out)
          clear hoa
          have p7 := Z7.out.cell (k := 0) rfl
          obtain ⟨ts, hts⟩ : ∃ t, t = (textS fa).1 := ⟨_, rfl⟩
          obtain ⟨ze, hze⟩ : ∃ t, t = (textS fa).2 := ⟨_, rfl⟩
          have HTS := Lib.hid hts
          have HZE := Lib.hid hze
          clear hts hze
          go_wp2_with fail
          refine HRR.out.mono ?_
          rintro e w3 ⟨rfl, hb⟩
          have B3 := Lib.hid hb
          have T3 := Lib.hid (TQ.out.on hb)
          replace p7 := (Z7.out.on hb).cell (k := 0) rfl
          have HS := Lib.hid (stext_any fa _ w3 (RA.out.on hb) T3.out.fr T3.out.tab)
          rw [← HTS.out, ← HZE.out] at HS
          clear hb HRR
          go_wp2_with fail
          refine HS.out.mono ?_
          rintro e w4 ⟨rfl, hb⟩
          have B4 := Lib.hid (bch B3.out hb)
          replace p7 := (Z7.out.on B4.out).cell (k := 0) rfl
          clear hb HS B3 T3
          go_upto_region 10 with fail
          go_cut [72] (fun b wx => b = .bool false ∧ Hid (Below w2.heap.size w2 wx))
          case first =>
            rename_i J3 K3 hJ3 hK3
            clear hJ hK2
            cases oa with
            | false =>
              have e0 : textS fa = (⟨#[]⟩, 150) := if_neg (by rw [← HOA.out]; decide)
              obtain rfl : ts = ⟨#[]⟩ := by rw [HTS.out, e0]
              obtain rfl : ze = 150 := by rw [HZE.out, e0]
              clear e0
              have HK := Lib.hid (scheck_no HOA.out.symm w4 (RA.out.on B4.out))
              go_wp2_with fail
              refine HK.out.mono ?_
              rintro e w5 ⟨rfl, hb⟩
              have B5 := Lib.hid (bch B4.out hb)
              clear hb HK p7
              go_wp2_with fail
              first | refine hK3 _ _ (Met.intro (hJ3 _ _ ?_)) | refine Met.intro (hJ3 _ _ ?_)
              (repeat apply Exists.intro)
              refine ⟨?_, rfl⟩
              exact ⟨rfl, B5⟩
            | true =>
              have e0 : textS fa = (ofB (spanT fa), 0) := if_pos HOA.out.symm
              have HTX : Hid (∀ W, Below w2.heap.size w2 W → Calls Tryz.prog 14 #[.agg #[.slice aa na ca]] W fun e w' => e = .returned (.string ts) ∧ Below W.heap.size W w') := Lib.hid (fun W hb => by rw [HTS.out, e0]; exact rstext_any fa _ W (RA.out.on hb) HOA.out.symm)
              obtain rfl : ze = 0 := by rw [HZE.out, e0]
              clear e0
              have s1 := self_eq ts
              have s2 := self_ne ts
              have HK := Lib.hid (scheck_yes HOA.out.symm w4 (RA.out.on B4.out))
              go_wp2_with fail
              refine HK.out.mono ?_
              rintro e w5 ⟨rfl, hb⟩
              have B5 := Lib.hid (bch B4.out hb)
              replace p7 := (Z7.out.on B5.out).cell (k := 0) rfl
              clear hb HK
              go_wp2_with fail
              refine (HTX.out _ B5.out).mono ?_
              rintro e w6 ⟨rfl, hb⟩
              have B6 := Lib.hid (bch B5.out hb)
              clear hb HTX p7
              go_wp2_with fail
              first | refine hK3 _ _ (Met.intro (hJ3 _ _ ?_)) | refine Met.intro (hJ3 _ _ ?_)
              (repeat apply Exists.intro)
              refine ⟨?_, rfl⟩
              exact ⟨rfl, B6⟩
          case rest =>
          obtain ⟨rfl, HC5⟩ := hcut
          obtain ⟨w5, hw5⟩ : ∃ q, q = wc := ⟨_, rfl⟩
          rw [← hw5] at HC5 ⊢
          replace Z7 := Lib.hid (Z7.out.on HC5.out)
          replace Z8 := Lib.hid (Z8.out.on HC5.out)
          replace Y6 := Lib.hid (Y6.out.on HC5.out)
          replace RA := Lib.hid (RA.out.on HC5.out)
          replace RB := Lib.hid (RB.out.on HC5.out)
          replace HXK := Lib.hid (HXK.out.on HC5.out)
          replace BQ := Lib.hid (bch BQ.out HC5.out)
          clear hw5 HC5 TQ p7 HOA HTS HZE
          go_upto_region 12 with fail
          go_cut [86] (fun b wx => b = .bool false ∧ Hid (Below w5.heap.size w5 wx))
          case first =>
            rename_i J3 K3 hJ3 hK3
            clear hJ hK2
            obtain ⟨d, hd⟩ : ∃ o, o = decide (fa = fb) := ⟨_, rfl⟩
            have CS : Hid (∀ W, Below w5.heap.size w5 W → Calls Tryz.prog 15 #[.agg #[.slice aa na ca], .agg #[.slice ab nb cb]] W fun e w' => e = .returned (.bool d) ∧ Below W.heap.size W w') := Lib.hid (fun W hb => by rw [hd]; exact same_any fa fb _ _ W (RA.out.on hb) (RB.out.on hb))
            have CR : Hid (∀ W, Below w5.heap.size w5 W → Calls Tryz.prog 16 #[.agg #[.slice aa na ca], .agg #[.slice ab nb cb]] W fun e w' => e = .returned (.bool d) ∧ Below W.heap.size W w') := Lib.hid (fun W hb => by rw [hd]; exact rsame_any fa fb _ _ W (RA.out.on hb) (RB.out.on hb))
            clear hd
            cases d
            · skip
              refine wp_region_held_drew (S := fun w' => Below w5.heap.size w5 w') (by kernel_rfl) (Below.refl _ _).drew (fun hHeld => ?_)
              refine wpAnyH_take (i := 0) (oi := { dst := some 73, op := Op.load 27 (Operand.tmp 7), type := 27, pos := "law.go:50", after := #[], guard := none }) (v := ?_) rfl (by kernel_rfl) (by kernel_rfl) (by kernel_rfl) (fun _ _ _ h => h) (Or.inl ⟨by rfl, ?_⟩) hHeld ?_
              rotate_left
              · (intro w hSw; have p0 := (Z7.out.on hSw).cell (k := 0) rfl; go_simp; try with_reducible rfl)
              (try simp only [Act.put, List.setIfInBounds_toArray, List.set_cons_zero, List.set_cons_succ])
              refine wpAnyH_take (i := 1) (oi := { dst := some 74, op := Op.load 27 (Operand.tmp 8), type := 27, pos := "law.go:50", after := #[], guard := none }) (v := ?_) rfl (by kernel_rfl) (by kernel_rfl) (by kernel_rfl) (fun _ _ _ h => h) (Or.inl ⟨by rfl, ?_⟩) hHeld ?_
              rotate_left
              · (intro w hSw; have p0 := (Z8.out.on hSw).cell (k := 0) rfl; go_simp; try with_reducible rfl)
              (try simp only [Act.put, List.setIfInBounds_toArray, List.set_cons_zero, List.set_cons_succ])
              refine wpAnyH_take (i := 3) (oi := { dst := some 76, op := Op.load 27 (Operand.tmp 7), type := 27, pos := "law.go:50", after := #[], guard := none }) (v := ?_) rfl (by kernel_rfl) (by kernel_rfl) (by kernel_rfl) (fun _ _ _ h => h) (Or.inl ⟨by rfl, ?_⟩) hHeld ?_
              rotate_left
              · (intro w hSw; have p0 := (Z7.out.on hSw).cell (k := 0) rfl; go_simp; try with_reducible rfl)
              (try simp only [Act.put, List.setIfInBounds_toArray, List.set_cons_zero, List.set_cons_succ])
              refine wpAnyH_take (i := 4) (oi := { dst := some 77, op := Op.load 27 (Operand.tmp 8), type := 27, pos := "law.go:50", after := #[], guard := none }) (v := ?_) rfl (by kernel_rfl) (by kernel_rfl) (by kernel_rfl) (fun _ _ _ h => h) (Or.inl ⟨by rfl, ?_⟩) hHeld ?_
              rotate_left
              · (intro w hSw; have p0 := (Z8.out.on hSw).cell (k := 0) rfl; go_simp; try with_reducible rfl)
              (try simp only [Act.put, List.setIfInBounds_toArray, List.set_cons_zero, List.set_cons_succ])
              refine wpAnyH_ready (rs := [2]) (by kernel_rfl) (by simp) (AllReadyH.cons (o := { dst := some 75, op := Op.call { callee := Callee.value (Operand.func 15), args := #[Operand.tmp 73, Operand.tmp 74], argTypes := #[27, 27] }, type := 4, pos := "law.go:50", after := #[{ on := 0, ground := Ground.data }, { on := 1, ground := Ground.data }], guard := none }) rfl (fun K hK => ?_) AllReadyH.nil)
              · go_simp
                refine (CS.out _ hHeld).mono ?_
                rintro e wa ⟨rfl, hba⟩
                refine hK.out _ _ (bch hHeld hba) (fun hHeld => ?_)
                clear hba
                (try simp only [Act.put, List.setIfInBounds_toArray, List.set_cons_zero, List.set_cons_succ])
                refine wpAnyH_ready (rs := [5]) (by kernel_rfl) (by simp) (AllReadyH.cons (o := { dst := some 78, op := Op.call { callee := Callee.value (Operand.func 16), args := #[Operand.tmp 76, Operand.tmp 77], argTypes := #[27, 27] }, type := 4, pos := "law.go:50", after := #[{ on := 3, ground := Ground.data }, { on := 4, ground := Ground.data }, { on := 2, ground := Ground.chain }], guard := none }) rfl (fun K hK => ?_) AllReadyH.nil)
                · go_simp
                  refine (CR.out _ hHeld).mono ?_
                  rintro e wa ⟨rfl, hba⟩
                  refine hK.out _ _ (bch hHeld hba) (fun hHeld => ?_)
                  clear hba
                  (try simp only [Act.put, List.setIfInBounds_toArray, List.set_cons_zero, List.set_cons_succ])
                  refine wpAnyH_take (i := 6) (oi := { dst := some 79, op := Op.binOp BinOp.neq 4 (Operand.tmp 75) (Operand.tmp 78) 4, type := 4, pos := "law.go:50", after := #[{ on := 2, ground := Ground.data }, { on := 5, ground := Ground.data }], guard := none }) (v := ?_) rfl (by kernel_rfl) (by kernel_rfl) (by kernel_rfl) (fun _ _ _ h => h) (Or.inl ⟨by rfl, ?_⟩) hHeld ?_
                  rotate_left
                  · (intro w hSw; go_simp; try with_reducible rfl)
                  (try simp only [Act.put, List.setIfInBounds_toArray, List.set_cons_zero, List.set_cons_succ])
                  refine wpAnyH_take (i := 7) (oi := { dst := some 80, op := Op.move (Operand.tmp 79), type := 4, pos := "law.go:50", after := #[{ on := 6, ground := Ground.data }, { on := 5, ground := Ground.chain }], guard := none }) (v := ?_) rfl (by kernel_rfl) (by kernel_rfl) (by kernel_rfl) (fun _ _ _ h => h) (Or.inl ⟨by rfl, ?_⟩) hHeld ?_
                  rotate_left
                  · (intro w hSw; go_simp; try with_reducible rfl)
                  (try simp only [Act.put, List.setIfInBounds_toArray, List.set_cons_zero, List.set_cons_succ])
                  refine wpAnyH_take (i := 8) (oi := { dst := some 81, op := Op.load 27 (Operand.tmp 7), type := 27, pos := "law.go:50", after := #[{ on := 7, ground := Ground.guard }], guard := some (7, false) }) (v := ?_) rfl (by kernel_rfl) (by kernel_rfl) (by kernel_rfl) (fun _ _ _ h => h) (Or.inl ⟨by rfl, ?_⟩) hHeld ?_
                  rotate_left
                  · (intro w hSw; have p0 := (Z7.out.on hSw).cell (k := 0) rfl; go_simp; try with_reducible rfl)
                  (try simp only [Act.put, List.setIfInBounds_toArray, List.set_cons_zero, List.set_cons_succ])
                  refine wpAnyH_take (i := 9) (oi := { dst := some 82, op := Op.load 27 (Operand.tmp 6), type := 27, pos := "law.go:50", after := #[{ on := 7, ground := Ground.guard }], guard := some (7, false) }) (v := ?_) rfl (by kernel_rfl) (by kernel_rfl) (by kernel_rfl) (fun _ _ _ h => h) (Or.inl ⟨by rfl, ?_⟩) hHeld ?_
                  rotate_left
                  · (intro w hSw; have p0 := (Y6.out.on hSw).cell (k := 0) rfl; go_simp; try with_reducible rfl)
                  (try simp only [Act.put, List.setIfInBounds_toArray, List.set_cons_zero, List.set_cons_succ])
                  refine wpAnyH_ready (rs := [10]) (by kernel_rfl) (by simp) (AllReadyH.cons (o := { dst := some 83, op := Op.call { callee := Callee.value (Operand.func 10), args := #[Operand.tmp 82], argTypes := #[27] }, type := 27, pos := "law.go:50", after := #[{ on := 9, ground := Ground.data }, { on := 7, ground := Ground.chain }, { on := 7, ground := Ground.guard }], guard := some (7, false) }) rfl (fun K hK => ?_) AllReadyH.nil)
                  · go_simp
                    refine (few_any l _ _ (HXK.out.on hHeld)).mono ?_
                    rintro e vb ⟨x9, rfl, hown, hba⟩
                    rw [← HFA.out] at hown
                    have RF := Lib.hid hown.rd
                    refine hK.out _ _ (bch hHeld hba) (fun hHeld => ?_)
                    clear hown hba
                    (try simp only [Act.put, List.setIfInBounds_toArray, List.set_cons_zero, List.set_cons_succ])
                    refine wpAnyH_ready (rs := [11]) (by kernel_rfl) (by simp) (AllReadyH.cons (o := { dst := some 84, op := Op.call { callee := Callee.value (Operand.func 15), args := #[Operand.tmp 81, Operand.tmp 83], argTypes := #[27, 27] }, type := 4, pos := "law.go:50", after := #[{ on := 8, ground := Ground.data }, { on := 10, ground := Ground.data }, { on := 10, ground := Ground.chain }, { on := 7, ground := Ground.guard }], guard := some (7, false) }) rfl (fun K hK => ?_) AllReadyH.nil)
                    · go_simp
                      refine (same_one fa _ _ _ (RA.out.on hHeld) RF.out).mono ?_
                      rintro e vc ⟨rfl, hba⟩
                      refine hK.out _ _ (bch hHeld hba) (fun hHeld => ?_)
                      clear hba
                      (try simp only [Act.put, List.setIfInBounds_toArray, List.set_cons_zero, List.set_cons_succ])
                      refine wpAnyH_take (i := 12) (oi := { dst := some 85, op := Op.unOp UnOp.not 4 (Operand.tmp 84), type := 4, pos := "law.go:50", after := #[{ on := 11, ground := Ground.data }, { on := 7, ground := Ground.guard }], guard := some (7, false) }) (v := ?_) rfl (by kernel_rfl) (by kernel_rfl) (by kernel_rfl) (fun _ _ _ h => h) (Or.inl ⟨by rfl, ?_⟩) hHeld ?_
                      rotate_left
                      · (intro w hSw; go_simp; try with_reducible rfl)
                      (try simp only [Act.put, List.setIfInBounds_toArray, List.set_cons_zero, List.set_cons_succ])
                      refine wpAnyH_take (i := 13) (oi := { dst := some 86, op := Op.pick (Operand.tmp 80) (Operand.const (Value.bool true)) (Operand.tmp 85), type := 4, pos := "law.go:50", after := #[{ on := 7, ground := Ground.data }, { on := 12, ground := Ground.data }], guard := none }) (v := ?_) rfl (by kernel_rfl) (by kernel_rfl) (by kernel_rfl) (fun _ _ _ h => h) (Or.inl ⟨by rfl, ?_⟩) hHeld ?_
                      rotate_left
                      · (intro w hSw; go_simp; try with_reducible rfl)
                      (try simp only [Act.put, List.setIfInBounds_toArray, List.set_cons_zero, List.set_cons_succ])
                      refine wpAnyH_done (by kernel_rfl) ?_ _
                      first | refine hK3 _ _ (Met.intro (hJ3 _ _ ?_)) | refine Met.intro (hJ3 _ _ ?_)
                      (repeat apply Exists.intro)
                      refine ⟨?_, rfl⟩
                      exact ⟨rfl, Lib.hid hHeld⟩
            · skip
              refine wp_region_held_drew (S := fun w' => Below w5.heap.size w5 w') (by kernel_rfl) (Below.refl _ _).drew (fun hHeld => ?_)
              refine wpAnyH_take (i := 0) (oi := { dst := some 73, op := Op.load 27 (Operand.tmp 7), type := 27, pos := "law.go:50", after := #[], guard := none }) (v := ?_) rfl (by kernel_rfl) (by kernel_rfl) (by kernel_rfl) (fun _ _ _ h => h) (Or.inl ⟨by rfl, ?_⟩) hHeld ?_
              rotate_left
              · (intro w hSw; have p0 := (Z7.out.on hSw).cell (k := 0) rfl; go_simp; try with_reducible rfl)
              (try simp only [Act.put, List.setIfInBounds_toArray, List.set_cons_zero, List.set_cons_succ])
              refine wpAnyH_take (i := 1) (oi := { dst := some 74, op := Op.load 27 (Operand.tmp 8), type := 27, pos := "law.go:50", after := #[], guard := none }) (v := ?_) rfl (by kernel_rfl) (by kernel_rfl) (by kernel_rfl) (fun _ _ _ h => h) (Or.inl ⟨by rfl, ?_⟩) hHeld ?_
              rotate_left
              · (intro w hSw; have p0 := (Z8.out.on hSw).cell (k := 0) rfl; go_simp; try with_reducible rfl)
              (try simp only [Act.put, List.setIfInBounds_toArray, List.set_cons_zero, List.set_cons_succ])
              refine wpAnyH_take (i := 3) (oi := { dst := some 76, op := Op.load 27 (Operand.tmp 7), type := 27, pos := "law.go:50", after := #[], guard := none }) (v := ?_) rfl (by kernel_rfl) (by kernel_rfl) (by kernel_rfl) (fun _ _ _ h => h) (Or.inl ⟨by rfl, ?_⟩) hHeld ?_
              rotate_left
              · (intro w hSw; have p0 := (Z7.out.on hSw).cell (k := 0) rfl; go_simp; try with_reducible rfl)
              (try simp only [Act.put, List.setIfInBounds_toArray, List.set_cons_zero, List.set_cons_succ])
              refine wpAnyH_take (i := 4) (oi := { dst := some 77, op := Op.load 27 (Operand.tmp 8), type := 27, pos := "law.go:50", after := #[], guard := none }) (v := ?_) rfl (by kernel_rfl) (by kernel_rfl) (by kernel_rfl) (fun _ _ _ h => h) (Or.inl ⟨by rfl, ?_⟩) hHeld ?_
              rotate_left
              · (intro w hSw; have p0 := (Z8.out.on hSw).cell (k := 0) rfl; go_simp; try with_reducible rfl)
              (try simp only [Act.put, List.setIfInBounds_toArray, List.set_cons_zero, List.set_cons_succ])
              refine wpAnyH_ready (rs := [2]) (by kernel_rfl) (by simp) (AllReadyH.cons (o := { dst := some 75, op := Op.call { callee := Callee.value (Operand.func 15), args := #[Operand.tmp 73, Operand.tmp 74], argTypes := #[27, 27] }, type := 4, pos := "law.go:50", after := #[{ on := 0, ground := Ground.data }, { on := 1, ground := Ground.data }], guard := none }) rfl (fun K hK => ?_) AllReadyH.nil)
              · go_simp
                refine (CS.out _ hHeld).mono ?_
                rintro e wa ⟨rfl, hba⟩
                refine hK.out _ _ (bch hHeld hba) (fun hHeld => ?_)
                clear hba
                (try simp only [Act.put, List.setIfInBounds_toArray, List.set_cons_zero, List.set_cons_succ])
                refine wpAnyH_ready (rs := [5]) (by kernel_rfl) (by simp) (AllReadyH.cons (o := { dst := some 78, op := Op.call { callee := Callee.value (Operand.func 16), args := #[Operand.tmp 76, Operand.tmp 77], argTypes := #[27, 27] }, type := 4, pos := "law.go:50", after := #[{ on := 3, ground := Ground.data }, { on := 4, ground := Ground.data }, { on := 2, ground := Ground.chain }], guard := none }) rfl (fun K hK => ?_) AllReadyH.nil)
                · go_simp
                  refine (CR.out _ hHeld).mono ?_
                  rintro e wa ⟨rfl, hba⟩
                  refine hK.out _ _ (bch hHeld hba) (fun hHeld => ?_)
                  clear hba
                  (try simp only [Act.put, List.setIfInBounds_toArray, List.set_cons_zero, List.set_cons_succ])
                  refine wpAnyH_take (i := 6) (oi := { dst := some 79, op := Op.binOp BinOp.neq 4 (Operand.tmp 75) (Operand.tmp 78) 4, type := 4, pos := "law.go:50", after := #[{ on := 2, ground := Ground.data }, { on := 5, ground := Ground.data }], guard := none }) (v := ?_) rfl (by kernel_rfl) (by kernel_rfl) (by kernel_rfl) (fun _ _ _ h => h) (Or.inl ⟨by rfl, ?_⟩) hHeld ?_
                  rotate_left
                  · (intro w hSw; go_simp; try with_reducible rfl)
                  (try simp only [Act.put, List.setIfInBounds_toArray, List.set_cons_zero, List.set_cons_succ])
                  refine wpAnyH_take (i := 7) (oi := { dst := some 80, op := Op.move (Operand.tmp 79), type := 4, pos := "law.go:50", after := #[{ on := 6, ground := Ground.data }, { on := 5, ground := Ground.chain }], guard := none }) (v := ?_) rfl (by kernel_rfl) (by kernel_rfl) (by kernel_rfl) (fun _ _ _ h => h) (Or.inl ⟨by rfl, ?_⟩) hHeld ?_
                  rotate_left
                  · (intro w hSw; go_simp; try with_reducible rfl)
                  (try simp only [Act.put, List.setIfInBounds_toArray, List.set_cons_zero, List.set_cons_succ])
                  refine wpAnyH_take (i := 8) (oi := { dst := some 81, op := Op.load 27 (Operand.tmp 7), type := 27, pos := "law.go:50", after := #[{ on := 7, ground := Ground.guard }], guard := some (7, false) }) (v := ?_) rfl (by kernel_rfl) (by kernel_rfl) (by kernel_rfl) (fun _ _ _ h => h) (Or.inl ⟨by rfl, ?_⟩) hHeld ?_
                  rotate_left
                  · (intro w hSw; have p0 := (Z7.out.on hSw).cell (k := 0) rfl; go_simp; try with_reducible rfl)
                  (try simp only [Act.put, List.setIfInBounds_toArray, List.set_cons_zero, List.set_cons_succ])
                  refine wpAnyH_take (i := 9) (oi := { dst := some 82, op := Op.load 27 (Operand.tmp 6), type := 27, pos := "law.go:50", after := #[{ on := 7, ground := Ground.guard }], guard := some (7, false) }) (v := ?_) rfl (by kernel_rfl) (by kernel_rfl) (by kernel_rfl) (fun _ _ _ h => h) (Or.inl ⟨by rfl, ?_⟩) hHeld ?_
                  rotate_left
                  · (intro w hSw; have p0 := (Y6.out.on hSw).cell (k := 0) rfl; go_simp; try with_reducible rfl)
                  (try simp only [Act.put, List.setIfInBounds_toArray, List.set_cons_zero, List.set_cons_succ])
                  refine wpAnyH_ready (rs := [10]) (by kernel_rfl) (by simp) (AllReadyH.cons (o := { dst := some 83, op := Op.call { callee := Callee.value (Operand.func 10), args := #[Operand.tmp 82], argTypes := #[27] }, type := 27, pos := "law.go:50", after := #[{ on := 9, ground := Ground.data }, { on := 7, ground := Ground.chain }, { on := 7, ground := Ground.guard }], guard := some (7, false) }) rfl (fun K hK => ?_) AllReadyH.nil)
                  · go_simp
                    refine (few_any l _ _ (HXK.out.on hHeld)).mono ?_
                    rintro e vb ⟨x9, rfl, hown, hba⟩
                    rw [← HFA.out] at hown
                    have RF := Lib.hid hown.rd
                    refine hK.out _ _ (bch hHeld hba) (fun hHeld => ?_)
                    clear hown hba
                    (try simp only [Act.put, List.setIfInBounds_toArray, List.set_cons_zero, List.set_cons_succ])
                    refine wpAnyH_ready (rs := [11]) (by kernel_rfl) (by simp) (AllReadyH.cons (o := { dst := some 84, op := Op.call { callee := Callee.value (Operand.func 15), args := #[Operand.tmp 81, Operand.tmp 83], argTypes := #[27, 27] }, type := 4, pos := "law.go:50", after := #[{ on := 8, ground := Ground.data }, { on := 10, ground := Ground.data }, { on := 10, ground := Ground.chain }, { on := 7, ground := Ground.guard }], guard := some (7, false) }) rfl (fun K hK => ?_) AllReadyH.nil)
                    · go_simp
                      refine (same_one fa _ _ _ (RA.out.on hHeld) RF.out).mono ?_
                      rintro e vc ⟨rfl, hba⟩
                      refine hK.out _ _ (bch hHeld hba) (fun hHeld => ?_)
                      clear hba
                      (try simp only [Act.put, List.setIfInBounds_toArray, List.set_cons_zero, List.set_cons_succ])
                      refine wpAnyH_take (i := 12) (oi := { dst := some 85, op := Op.unOp UnOp.not 4 (Operand.tmp 84), type := 4, pos := "law.go:50", after := #[{ on := 11, ground := Ground.data }, { on := 7, ground := Ground.guard }], guard := some (7, false) }) (v := ?_) rfl (by kernel_rfl) (by kernel_rfl) (by kernel_rfl) (fun _ _ _ h => h) (Or.inl ⟨by rfl, ?_⟩) hHeld ?_
                      rotate_left
                      · (intro w hSw; go_simp; try with_reducible rfl)
                      (try simp only [Act.put, List.setIfInBounds_toArray, List.set_cons_zero, List.set_cons_succ])
                      refine wpAnyH_take (i := 13) (oi := { dst := some 86, op := Op.pick (Operand.tmp 80) (Operand.const (Value.bool true)) (Operand.tmp 85), type := 4, pos := "law.go:50", after := #[{ on := 7, ground := Ground.data }, { on := 12, ground := Ground.data }], guard := none }) (v := ?_) rfl (by kernel_rfl) (by kernel_rfl) (by kernel_rfl) (fun _ _ _ h => h) (Or.inl ⟨by rfl, ?_⟩) hHeld ?_
                      rotate_left
                      · (intro w hSw; go_simp; try with_reducible rfl)
                      (try simp only [Act.put, List.setIfInBounds_toArray, List.set_cons_zero, List.set_cons_succ])
                      refine wpAnyH_done (by kernel_rfl) ?_ _
                      first | refine hK3 _ _ (Met.intro (hJ3 _ _ ?_)) | refine Met.intro (hJ3 _ _ ?_)
                      (repeat apply Exists.intro)
                      refine ⟨?_, rfl⟩
                      exact ⟨rfl, Lib.hid hHeld⟩
          case rest =>
          obtain ⟨rfl, HD⟩ := hcut
          have HB2 := Lib.hid (bch BQ.out HD.out)
          clear HD Z7 Z8 Y6 RA RB HXK
          go_wp2_with fail
          go_roundw
          case rel => exact ⟨k + 1, hlt, hk7, by go_num, HB2⟩
          case measure => simp [Lib.intOf]; omega
      · have k1 : ¬ ((k : Int) < (n : Int)) := by omega
        go_wp2_with fail
        first | refine hK2 _ _ (Met.intro (hJ _ _ ?_)) | refine Met.intro (hJ _ _ ?_)
        (repeat apply Exists.intro)
        refine ⟨?_, rfl⟩
        exact HB
  case rest =>
  obtain ⟨wC, hwC⟩ : ∃ q, q = wc := ⟨_, rfl⟩
  rw [← hwC] at hcut ⊢
  replace HZ := Lib.hid (HZ.out.on hcut.out)
  have TC := Lib.hid (TB.out.on hcut.out)
  have BC := Lib.hid (bch B2.out hcut.out)
  clear hwC hcut HX TB B2 HN
  go_wp2_with fail
  go_loopw [90] (fun i W => ∃ k : Nat, k ≤ m ∧ k ≤ 8 ∧ i = .int .i64 k ∧ Hid (Below wC.heap.size wC W)) (fun i _ => m - (Lib.intOf i).toNat)
  case atStart => exact ⟨0, Nat.zero_le _, Nat.zero_le _, rfl, Lib.hid (Below.refl _ _)⟩
  case round =>
    obtain ⟨k, hk, hk8, rfl, HB⟩ := hrel
    obtain ⟨wq, hwq⟩ : ∃ q, q = wr := ⟨_, rfl⟩
    rw [← hwq] at HB ⊢
    clear hwq
    by_cases hlt : k < m
    · obtain ⟨s, hs⟩ : ∃ v, T[k]? = some v := ⟨_, List.getElem?_eq_getElem (by have := HM.out; omega)⟩
      obtain ⟨g, o, rfl, hc, hg⟩ := HZ.out.at hs
      have r0 := (HB.out.cell (p := ⟨g, o + k, none⟩) hg).trans hc
      have k1 : (k : Int) < (m : Int) := by omega
      have k2 : (0 : Int) ≤ (k : Int) := by omega
      have k4 : IntKind.i64.wrap ((k : Int) + 1) = (k : Int) + 1 := IntWalk.i64_in _ (by omega)
      clear hs hc hg
      go_upto_region 18 with fail
      by_cases h8 : k = 8
      · have i8 : (k : Int) = 8 := by omega
        go_wp2_with fail
        go_ret
        exact ⟨rfl, bch BC.out HB.out⟩
      · have i8 : ¬ ((k : Int) = 8) := by omega
        have hk9 : k + 1 ≤ 8 := by omega
        obtain ⟨q, hq⟩ : ∃ q, q = min s.size 300 := ⟨_, rfl⟩
        have m1 : (0 : Int) ≤ (q : Int) := by omega
        have m2 : (q : Int) ≤ (s.size : Int) := by omega
        have m3 : min (s.size : Int) 300 = (q : Int) := by omega
        obtain ⟨t, ht⟩ : ∃ t, t = s.extract 0 q := ⟨_, rfl⟩
        have htz : t.size ≤ 300 := by rw [ht]; simp; omega
        have TQ := Lib.hid (TC.out.on HB.out)
        have HR := Lib.hid (sread_any t (by omega) wq TQ.out.fr TQ.out.max TQ.out.one)
        have HTT := Lib.hid ht
        have HTZ := Lib.hid htz
        clear hq htz h8
        go_wp2_with fail
        rw [← HTT.out]
        refine HR.out.mono ?_
        rintro e w8 ⟨x, l, z, rfl, hz, hb⟩
        have B8 := Lib.hid (bch HB.out hb)
        have HZZ := Lib.hid hz
        clear hz hb HR TQ r0 HB m1 m2 m3 i8 HTT ht
        rcases HZZ.out with ⟨rfl, h1, h2, h3⟩ | ⟨rfl, rfl, h3⟩
        · have HOK := Lib.hid h1
          have HTE := Lib.hid h2
          have R8 : Hid (RdR w8 x l) := Lib.hid h3.rd
          obtain ⟨a10, c10, rfl⟩ := h3.form
          obtain ⟨n10, hn10⟩ : ∃ n, n = l.length := ⟨_, rfl⟩
          rw [← hn10] at R8 ⊢
          obtain ⟨w9, hw9⟩ : ∃ q, q = w8.alloc (.cells #[.slice a10 n10 c10] 27) := ⟨_, rfl⟩
          have C9 : Hid (Box w9 w8.heap.size 27 #[.slice a10 n10 c10]) := Lib.hid (by rw [hw9]; exact box_new)
          have b9 : Below w8.heap.size w8 w9 := by rw [hw9]; exact below_new _ _
          have B9 := Lib.hid (bch B8.out b9)
          have R9 := Lib.hid (R8.out.on b9)
          clear h1 h2 h3 HZZ hn10
          go_upto_region 21 with fail
          rw [← hw9]
          (try go_frame)
          obtain ⟨g10, hg10⟩ : ∃ q, q = w8.heap.size := ⟨_, rfl⟩
          rw [← hg10] at C9 ⊢
          clear hw9 b9 hg10
          have HRS := Lib.hid (rsread_any t t.data.toList t.size rfl rfl (by have := HTZ.out; omega) w9)
          go_wp2_with fail
          refine HRS.out.mono ?_
          rintro e wA ⟨x2, l2, o2, rfl, hz2, hb⟩
          have BA := Lib.hid (bch B9.out hb)
          replace C9 := Lib.hid (C9.out.on hb)
          have hbA := Lib.hid hb
          clear HRS hb
          rcases hz2 with ⟨rfl, h4, h5, h6⟩ | ⟨rfl, rfl, h6⟩
          · obtain rfl : l2 = l := span_inj h4 HOK.out (h5.trans HTE.out.symm)
            have RW : Hid (RdR wA x2 l2) := Lib.hid h6.rd
            obtain ⟨a11, c11, rfl⟩ := h6.form
            obtain ⟨n11, hn11⟩ : ∃ n, n = l2.length := ⟨_, rfl⟩
            rw [← hn11] at RW ⊢
            clear h4 h5 h6 hn11
            obtain ⟨wE, hwE⟩ : ∃ q, q = wA.alloc (.cells #[.slice a11 n11 c11] 27) := ⟨_, rfl⟩
            have CE : Hid (Box wE wA.heap.size 27 #[.slice a11 n11 c11]) := Lib.hid (by rw [hwE]; exact box_new)
            have bE : Below wA.heap.size wA wE := by rw [hwE]; exact below_new _ _
            have BE := Lib.hid (bch BA.out bE)
            replace C9 := Lib.hid (C9.out.on bE)
            have HSM := Lib.hid (rsame_self (rfl : l2 = l2) wE ((R9.out.on hbA.out).on bE) (RW.out.on bE))
            go_upto_region 22 with fail
            rw [← hwE]
            (try go_frame)
            obtain ⟨g11, hg11⟩ : ∃ q, q = wA.heap.size := ⟨_, rfl⟩
            rw [← hg11] at CE ⊢
            clear hwE bE hg11
            have p9 := C9.out.cell (k := 0) rfl
            have pE := CE.out.cell (k := 0) rfl
            go_wp2_with fail
            refine HSM.out.mono ?_
            rintro e wF ⟨rfl, hb⟩
            have BF := Lib.hid (bch BE.out hb)
            clear HSM hb p9 pE C9 CE
            go_wp2_with fail
            go_roundw
            case rel => exact ⟨k + 1, hlt, hk9, by go_num, BF⟩
            case measure => simp [Lib.intOf]; omega
          · exact absurd HTE.out (h6 l HOK.out)
        · have HNO := Lib.hid h3
          obtain ⟨w9, hw9⟩ : ∃ q, q = w8.alloc (.cells #[.slice none 0 0] 27) := ⟨_, rfl⟩
          have C9 : Hid (Box w9 w8.heap.size 27 #[.slice none 0 0]) := Lib.hid (by rw [hw9]; exact box_new)
          have b9 : Below w8.heap.size w8 w9 := by rw [hw9]; exact below_new _ _
          have B9 := Lib.hid (bch B8.out b9)
          clear h3 HZZ
          go_upto_region 21 with fail
          rw [← hw9]
          (try go_frame)
          obtain ⟨g10, hg10⟩ : ∃ q, q = w8.heap.size := ⟨_, rfl⟩
          rw [← hg10] at C9 ⊢
          clear hw9 b9 hg10
          have HRS := Lib.hid (rsread_any t t.data.toList t.size rfl rfl (by have := HTZ.out; omega) w9)
          go_wp2_with fail
          refine HRS.out.mono ?_
          rintro e wA ⟨x2, l2, o2, rfl, hz2, hb⟩
          have BA := Lib.hid (bch B9.out hb)
          replace C9 := Lib.hid (C9.out.on hb)
          have hbA := Lib.hid hb
          clear HRS hb
          rcases hz2 with ⟨rfl, h4, h5, h6⟩ | ⟨rfl, rfl, h6⟩
          · exact absurd h5 (HNO.out l2 h4)
          · clear h6
            obtain ⟨wE, hwE⟩ : ∃ q, q = wA.alloc (.cells #[.slice none 0 0] 27) := ⟨_, rfl⟩
            have CE : Hid (Box wE wA.heap.size 27 #[.slice none 0 0]) := Lib.hid (by rw [hwE]; exact box_new)
            have bE : Below wA.heap.size wA wE := by rw [hwE]; exact below_new _ _
            have BE := Lib.hid (bch BA.out bE)
            replace C9 := Lib.hid (C9.out.on bE)
            have HSM := Lib.hid (rsame_self (rfl : ([] : List (List Bd)) = []) wE (RdR.nil _) (RdR.nil _))
            go_upto_region 22 with fail
            rw [← hwE]
            (try go_frame)
            obtain ⟨g11, hg11⟩ : ∃ q, q = wA.heap.size := ⟨_, rfl⟩
            rw [← hg11] at CE ⊢
            clear hwE bE hg11
            have p9 := C9.out.cell (k := 0) rfl
            have pE := CE.out.cell (k := 0) rfl
            go_wp2_with fail
            refine HSM.out.mono ?_
            rintro e wF ⟨rfl, hb⟩
            have BF := Lib.hid (bch BE.out hb)
            clear HSM hb p9 pE C9 CE
            go_wp2_with fail
            go_roundw
            case rel => exact ⟨k + 1, hlt, hk9, by go_num, BF⟩
            case measure => simp [Lib.intOf]; omega
    · have k1 : ¬ ((k : Int) < (m : Int)) := by omega
      go_wp2_with fail
      go_ret
      exact ⟨rfl, bch BC.out HB.out⟩
end Go.Proofs.YtlfehjjnepiljaaGreatDoor
