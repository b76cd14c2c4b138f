/- Proved here: SpanJoins of puncheonlaw05 returns true for every two spans, wherever the tables stand. -/
import Derived.Test.YtlfehjjnepiljaaGreatDoorSJReg3
namespace Go.Proofs.YtlfehjjnepiljaaGreatDoor
open Go.RowKit Go.Shelf

set_option maxRecDepth 100000 in
set_option maxHeartbeats 40000000 in
theorem joins_law (la lb : List (List Bd)) (x y : Value) (w : World) (hx : RdR w x la) (hy : RdR w y lb) (hT : Tabs w) : Calls Tryz.prog 5 #[.agg #[x], .agg #[y]] w fun e w' => e = .returned (.bool true) ∧ Below w.heap.size w w' := by
  have HX := Lib.hid hx
  have HY := Lib.hid hy
  obtain ⟨ax, cx, rfl, -⟩ := hx.open
  obtain ⟨ay, cy, rfl, -⟩ := hy.open
  obtain ⟨nx, hnx⟩ : ∃ n, n = la.length := ⟨_, rfl⟩
  obtain ⟨ny, hny⟩ : ∃ n, n = lb.length := ⟨_, rfl⟩
  rw [← hnx] at HX ⊢
  rw [← hny] at HY ⊢
  obtain ⟨w1, hw1⟩ : ∃ q, q = (w.alloc (.cells #[.slice ax nx cx] 27)).alloc (.cells #[.slice ay ny cy] 27) := ⟨_, rfl⟩
  have X1 : Hid (Box w1 w.heap.size 27 #[.slice ax nx cx]) := Lib.hid (by rw [hw1]; exact box_new.alloc _)
  have X2 : Hid (Box w1 (w.heap.size + 1) 27 #[.slice ay ny cy]) := Lib.hid (by rw [hw1]; exact heap_alloc2_new w _ _)
  have B1 : Hid (Below w.heap.size w w1) := Lib.hid (by rw [hw1]; exact ((Below.refl _ w).alloc (Nat.le_refl _) _).alloc (by simp) _)
  have T1 := Lib.hid (hT.on B1.out)
  have HW := Lib.hid (swakes_any w1 T1.out)
  clear hT hnx hny hx hy
  go_enter Tryz.func5, Tryz.ntmps5
  go_upto_region 1 with fail
  rw [← hw1]
  clear hw1
  go_wp2_with fail
  refine HW.out.mono ?_
  rintro e w2 ⟨rfl, hb⟩
  replace X1 := Lib.hid (X1.out.on hb)
  replace X2 := Lib.hid (X2.out.on hb)
  have B2 := Lib.hid (bch B1.out hb)
  have T2 := Lib.hid (T1.out.on hb)
  clear HW hb B1 T1
  go_upto_region 3 with fail
  obtain ⟨w3, hw3⟩ : ∃ q, q = World.drew w2 := ⟨_, rfl⟩
  replace X1 : Hid (Box w3 w.heap.size 27 #[.slice ax nx cx]) := Lib.hid (by rw [hw3]; exact X1.out)
  replace X2 : Hid (Box w3 (w.heap.size + 1) 27 #[.slice ay ny cy]) := Lib.hid (by rw [hw3]; exact X2.out)
  have B3 : Hid (Below w.heap.size w w3) := Lib.hid (by rw [hw3]; exact B2.out.drew)
  replace HX := Lib.hid (HX.out.on B3.out)
  replace HY := Lib.hid (HY.out.on B3.out)
  obtain ⟨fa, hfa⟩ : ∃ t, t = fewR la := ⟨_, rfl⟩
  obtain ⟨fb, hfb⟩ : ∃ t, t = fewR lb := ⟨_, rfl⟩
  obtain ⟨na, hna⟩ : ∃ t, t = fa.length := ⟨_, rfl⟩
  obtain ⟨nb, hnb⟩ : ∃ t, t = fb.length := ⟨_, rfl⟩
  have HFA := Lib.hid hfa
  have HFB := Lib.hid hfb
  have HNA := Lib.hid hna
  have HNB := Lib.hid hnb
  clear hfa hfb hna hnb
  refine joins_reg3 la lb fa fb _ _ na nb _ _ w2 w3 hw3 HX HY X1 X2 HFA HFB HNA HNB _ _ _ _ _ _ _ _ _ _ _ _ _ _ _ _ _ _ _ _ _ _ _ _ _ _ _ _ _ _ _ _ _ _ _ _ _ _ _ _ _ _ _ _ _ _ _ _ _ _ _ _ _ _ _ _ _ _ _ _ _ _ _ _ _ _ _ _ _ _ _ _ _ _ _ _ _ _ _ _ _ _ _ _ _ _ _ _ _ _ _ _ _ _ _ _ _ _ _ _ _ _ _ _ _ _ _ _ _ _ _ _ _ _ _ _ _ _ _ _ _ _ _ _ _ _ _ _ _ _ _ _ _ _ _ _ _ _ _ _ _ _ _ _ _ _ _ _ _ _ _ _ _ _ _ _ _ _ _ _ _ _ _ _ _ _ _ (fun _ _ _ _ _ h => h) ?_
  · intro u5 u6 u22 u23 u24 u25 wc hcut
    obtain ⟨g7, g8, aa, ca, ab, cb, rfl, rfl, G7, G8, Z7, Z8, OA, OB, BC⟩ := hcut
    obtain ⟨w4, hw4⟩ : ∃ q, q = wc := ⟨_, rfl⟩
    rw [← hw4] at Z7 Z8 OA OB BC ⊢
    have RA : Hid (RdR w4 (.slice aa na ca) fa) := Lib.hid OA.out.rd
    have RB : Hid (RdR w4 (.slice ab nb cb) fb) := Lib.hid OB.out.rd
    have B4 := Lib.hid (bch B3.out BC.out)
    replace X1 := Lib.hid (X1.out.on BC.out)
    replace X2 := Lib.hid (X2.out.on BC.out)
    have HX4 := Lib.hid (HX.out.on BC.out)
    have HY4 := Lib.hid (HY.out.on BC.out)
    clear hw4 HX HY B3 B2 T2 G7 G8 OA OB BC hw3
    obtain ⟨oa, hoa⟩ : ∃ o, o = spanOk fa := ⟨_, rfl⟩
    obtain ⟨ob, hob⟩ : ∃ o, o = spanOk fb := ⟨_, rfl⟩
    have HA := Lib.hid hoa
    have HB := Lib.hid hob
    have CA : Hid (∀ W, Below w4.heap.size w4 W → Calls Tryz.prog 11 #[.agg #[.slice aa na ca]] W fun e w' => e = .returned (.bool oa) ∧ Below W.heap.size W w') := Lib.hid (fun W hb => by rw [hoa]; exact rright_any fa _ W (RA.out.on hb))
    have CB : Hid (∀ W, Below w4.heap.size w4 W → Calls Tryz.prog 11 #[.agg #[.slice ab nb cb]] W fun e w' => e = .returned (.bool ob) ∧ Below W.heap.size W w') := Lib.hid (fun W hb => by rw [hob]; exact rright_any fb _ W (RB.out.on hb))
    clear hoa hob
    go_upto_region 4 with fail
    go_cut [7] (fun p wx => p = .bool (oa && ob) ∧ Hid (Below w4.heap.size w4 wx))
    case first =>
      rename_i J2 K2 hJ hK2
      have p0 := Z7.out.cell (k := 0) rfl
      go_wp2_with fail
      refine (CA.out _ (Below.refl _ _)).mono ?_
      rintro e w5 ⟨rfl, hb⟩
      have HB5 := Lib.hid hb
      have p1 := (Z8.out.on hb).cell (k := 0) rfl
      clear hb p0
      cases oa with
      | false =>
        go_wp2_with fail
        first | refine hK2 _ _ (Met.intro (hJ _ _ ?_)) | refine Met.intro (hJ _ _ ?_)
        (repeat apply Exists.intro)
        refine ⟨?_, rfl⟩
        exact ⟨rfl, HB5⟩
      | true =>
        go_wp2_with fail
        refine (CB.out _ HB5.out).mono ?_
        rintro e w6 ⟨rfl, hb⟩
        have HB6 := Lib.hid (bch HB5.out hb)
        clear hb p1
        go_wp2_with fail
        first | refine hK2 _ _ (Met.intro (hJ _ _ ?_)) | refine Met.intro (hJ _ _ ?_)
        (repeat apply Exists.intro)
        refine ⟨?_, rfl⟩
        exact ⟨by cases ob <;> rfl, HB6⟩
    case rest =>
    obtain ⟨rfl, HC5⟩ := hcut
    obtain ⟨w5, hw5⟩ : ∃ q, q = wc := ⟨_, rfl⟩
    rw [← hw5] at HC5 ⊢
    clear hw5 CA CB
    have Y7 := Lib.hid (Z7.out.on HC5.out)
    have Y8 := Lib.hid (Z8.out.on HC5.out)
    have p0 := Y7.out.cell (k := 0) rfl
    have p1 := Y8.out.cell (k := 0) rfl
    have HBO : Hid (Calls Tryz.prog 26 #[.agg #[.slice aa na ca], .agg #[.slice ab nb cb]] w5 (JoinV (oa && ob) (bothL fa fb) w5)) := Lib.hid (by rw [HA.out, HB.out]; exact both_any fa fb _ _ w5 (RA.out.on HC5.out) (RB.out.on HC5.out))
    obtain ⟨rt, hrt⟩ : ∃ o, o = (oa && ob) := ⟨_, rfl⟩
    rw [← hrt] at HBO ⊢
    have HRT := Lib.hid hrt
    clear hrt
    cases rt with
    | false =>
      go_wp2_with fail
      refine HBO.out.mono ?_
      intro e w6 hj
      obtain ⟨rfl, hb⟩ := joinV_no hj
      have HC6 := Lib.hid (bch HC5.out hb)
      replace Y7 := Lib.hid (Y7.out.on hb)
      replace Y8 := Lib.hid (Y8.out.on hb)
      clear hj hb HBO p0 p1 HC5
      obtain ⟨w7, hw7⟩ : ∃ q, q = w6.alloc (.cells #[.slice none 0 0] 27) := ⟨_, rfl⟩
      have b7 : Below w6.heap.size w6 w7 := by rw [hw7]; exact below_new _ _
      have Y9 : Hid (Box w7 w6.heap.size 27 #[.slice none 0 0]) := Lib.hid (by rw [hw7]; exact box_new)
      go_upto_region 6 with fail
      rw [← hw7]
      have HC7 := Lib.hid (bch HC6.out b7)
      replace Y7 := Lib.hid (Y7.out.on b7)
      replace Y8 := Lib.hid (Y8.out.on b7)
      clear hw7 b7 HC6
      have p0 := Y7.out.cell (k := 0) rfl
      have p1 := Y8.out.cell (k := 0) rfl
      have HEI : Hid (Calls Tryz.prog 27 #[.agg #[.slice aa na ca], .agg #[.slice ab nb cb]] w7 (JoinV (oa && ob) (fa ++ fb) w7)) := Lib.hid (by rw [HA.out, HB.out]; exact either_any fa fb _ _ w7 (RA.out.on HC7.out) (RB.out.on HC7.out))
      rw [← HRT.out] at HEI
      go_wp2_with fail
      refine HEI.out.mono ?_
      intro e w8 hj
      obtain ⟨rfl, hb⟩ := joinV_no hj
      have HC8 := Lib.hid (bch HC7.out hb)
      replace Y9 := Lib.hid (Y9.out.on hb)
      have p2 := (Y9.out.alloc (.cells #[.slice none 0 0] 27)).cell (k := 0) rfl
      clear hj hb HEI p0 p1 HC7
      go_wp2_with fail
      go_ret
      exact ⟨rfl, bch B4.out (HC8.out.alloc HC8.out.size _)⟩
    | true =>
      have ha : spanOk fa = true := by have h := HRT.out; rw [HA.out, HB.out] at h; exact (Bool.and_eq_true _ _ ▸ h.symm : _ ∧ _).1
      have hb' : spanOk fb = true := by have h := HRT.out; rw [HA.out, HB.out] at h; exact (Bool.and_eq_true _ _ ▸ h.symm : _ ∧ _).2
      have HOA := Lib.hid ha
      have HOB := Lib.hid hb'
      clear ha hb' HRT HA HB
      obtain ⟨lp, hlp⟩ : ∃ l, l = fitL (bothL fa fb) := ⟨_, rfl⟩
      obtain ⟨lq, hlq⟩ : ∃ l, l = fitL (fa ++ fb) := ⟨_, rfl⟩
      obtain ⟨o1, ho1⟩ : ∃ o, o = fitsB (bothL fa fb) := ⟨_, rfl⟩
      obtain ⟨o2, ho2⟩ : ∃ o, o = fitsB (fa ++ fb) := ⟨_, rfl⟩
      have HLP := Lib.hid hlp
      have HLQ := Lib.hid hlq
      have HO1 := Lib.hid ho1
      have HO2 := Lib.hid ho2
      obtain ⟨e1, he1⟩ : ∃ z, z = fitZ o1 := ⟨_, rfl⟩
      obtain ⟨e2, he2⟩ : ∃ z, z = fitZ o2 := ⟨_, rfl⟩
      have HE1 := Lib.hid he1
      have HE2 := Lib.hid he2
      clear hlp hlq ho1 ho2 he1 he2
      go_wp2_with fail
      refine HBO.out.mono ?_
      intro e w6 hj
      obtain ⟨ap, np, cp, rfl, hown, hb⟩ := joinV_yes hj
      rw [← HLP.out] at hown
      rw [← HO1.out, ← HE1.out]
      have HC6 := Lib.hid (bch HC5.out hb)
      have OP := Lib.hid (hown.base HC5.out.size)
      replace Y7 := Lib.hid (Y7.out.on hb)
      replace Y8 := Lib.hid (Y8.out.on hb)
      clear hj hb HBO p0 p1 HC5 hown
      obtain ⟨w7, hw7⟩ : ∃ q, q = w6.alloc (.cells #[.slice ap np cp] 27) := ⟨_, rfl⟩
      have b7 : Below w6.heap.size w6 w7 := by rw [hw7]; exact below_new _ _
      have Y9 : Hid (Box w7 w6.heap.size 27 #[.slice ap np cp]) := Lib.hid (by rw [hw7]; exact box_new)
      go_upto_region 6 with fail
      rw [← hw7]
      obtain ⟨g9, hg9⟩ : ∃ q, q = w6.heap.size := ⟨_, rfl⟩
      rw [← hg9] at Y9 ⊢
      have HC7 := Lib.hid (bch HC6.out b7)
      replace OP := Lib.hid (OP.out.on b7)
      replace Y7 := Lib.hid (Y7.out.on b7)
      replace Y8 := Lib.hid (Y8.out.on b7)
      clear hw7 b7 HC6 hg9
      have p0 := Y7.out.cell (k := 0) rfl
      have p1 := Y8.out.cell (k := 0) rfl
      have HEI : Hid (Calls Tryz.prog 27 #[.agg #[.slice aa na ca], .agg #[.slice ab nb cb]] w7 (JoinV true (fa ++ fb) w7)) := Lib.hid (by
        have h := either_any fa fb _ _ w7 (RA.out.on HC7.out) (RB.out.on HC7.out)
        rw [HOA.out, HOB.out] at h
        exact h)
      go_wp2_with fail
      refine HEI.out.mono ?_
      intro e w8 hj
      obtain ⟨aq, nq, cq, rfl, hown, hb⟩ := joinV_yes hj
      rw [← HLQ.out] at hown
      rw [← HO2.out, ← HE2.out]
      have HC8 := Lib.hid (bch HC7.out hb)
      have OQ := Lib.hid (hown.base HC7.out.size)
      replace OP := Lib.hid (OP.out.on hb)
      replace Y7 := Lib.hid (Y7.out.on hb)
      replace Y8 := Lib.hid (Y8.out.on hb)
      replace Y9 := Lib.hid (Y9.out.on hb)
      clear hj hb HEI p0 p1 HC7 hown
      obtain ⟨w9, hw9⟩ : ∃ q, q = w8.alloc (.cells #[.slice aq nq cq] 27) := ⟨_, rfl⟩
      have b9 : Below w8.heap.size w8 w9 := by rw [hw9]; exact below_new _ _
      have Y11 : Hid (Box w9 w8.heap.size 27 #[.slice aq nq cq]) := Lib.hid (by rw [hw9]; exact box_new)
      go_upto_region 9 with fail
      rw [← hw9]
      obtain ⟨g11, hg11⟩ : ∃ q, q = w8.heap.size := ⟨_, rfl⟩
      rw [← hg11] at Y11 ⊢
      have HC9 := Lib.hid (bch HC8.out b9)
      replace OP := Lib.hid (OP.out.on b9)
      replace OQ := Lib.hid (OQ.out.on b9)
      replace Y7 := Lib.hid (Y7.out.on b9)
      replace Y8 := Lib.hid (Y8.out.on b9)
      replace Y9 := Lib.hid (Y9.out.on b9)
      clear hw9 b9 HC8 hg11
      have p0 := Y7.out.cell (k := 0) rfl
      have p1 := Y8.out.cell (k := 0) rfl
      have HRB := Lib.hid (rboth_any fa fb _ _ w9 (RA.out.on HC9.out) (RB.out.on HC9.out) HOA.out HOB.out)
      rw [ok_both HOA.out HOB.out, ← HO1.out] at HRB
      go_wp2_with fail
      refine HRB.out.mono ?_
      rintro e w10 ⟨x10, rfl, hown, hb⟩
      obtain ⟨a12, c12, rfl⟩ := hown.form
      have R12 := Lib.hid (hown.base HC9.out.size)
      obtain ⟨n12, hn12⟩ : ∃ z, z = (bothL fa fb).length := ⟨_, rfl⟩
      rw [← hn12] at R12 ⊢
      have HC10 := Lib.hid (bch HC9.out hb)
      replace OP := Lib.hid (OP.out.on hb)
      replace OQ := Lib.hid (OQ.out.on hb)
      replace Y7 := Lib.hid (Y7.out.on hb)
      replace Y8 := Lib.hid (Y8.out.on hb)
      replace Y9 := Lib.hid (Y9.out.on hb)
      replace Y11 := Lib.hid (Y11.out.on hb)
      clear hb HRB p0 p1 HC9 hown hn12
      obtain ⟨w11, hw11⟩ : ∃ q, q = w10.alloc (.cells #[.slice a12 n12 c12] 27) := ⟨_, rfl⟩
      have b11 : Below w10.heap.size w10 w11 := by rw [hw11]; exact below_new _ _
      have Y12 : Hid (Box w11 w10.heap.size 27 #[.slice a12 n12 c12]) := Lib.hid (by rw [hw11]; exact box_new)
      have G12 : Hid (w4.heap.size ≤ w10.heap.size) := Lib.hid HC10.out.size
      have N9 : Hid (g9 < w10.heap.size) := Lib.hid Y9.out.lt
      have N11 : Hid (g11 < w10.heap.size) := Lib.hid Y11.out.lt
      go_upto_region 10 with fail
      rw [← hw11]
      obtain ⟨g12, hg12⟩ : ∃ q, q = w10.heap.size := ⟨_, rfl⟩
      rw [← hg12] at Y12 G12 N9 N11 ⊢
      have HC11 := Lib.hid (bch HC10.out b11)
      replace OP := Lib.hid (OP.out.on b11)
      replace OQ := Lib.hid (OQ.out.on b11)
      replace R12 := Lib.hid (R12.out.on b11)
      replace Y7 := Lib.hid (Y7.out.on b11)
      replace Y8 := Lib.hid (Y8.out.on b11)
      replace Y9 := Lib.hid (Y9.out.on b11)
      replace Y11 := Lib.hid (Y11.out.on b11)
      clear hw11 b11 HC10 hg12
      have p0 := Y7.out.cell (k := 0) rfl
      have p1 := Y8.out.cell (k := 0) rfl
      have HRE := Lib.hid (reither_any fa fb _ _ w4 w11 RA.out RB.out HC11.out HOA.out HOB.out)
      rw [ok_either HOA.out HOB.out, ← HO2.out] at HRE
      go_wp2_with fail
      refine HRE.out.mono ?_
      rintro e w12 ⟨x14, rfl, hhalf, hb⟩
      obtain ⟨a14, c14, rfl⟩ := hhalf.form
      obtain ⟨n14, hn14⟩ : ∃ z, z = (fa ++ fb).length := ⟨_, rfl⟩
      rw [← hn14] at hhalf ⊢
      have H14 := Lib.hid hhalf
      have HC12 := Lib.hid (bch HC11.out hb)
      have M14 : Hid (w11.heap.size ≤ w12.heap.size) := Lib.hid hb.size
      replace OP := Lib.hid (OP.out.on hb)
      replace OQ := Lib.hid (OQ.out.on hb)
      replace R12 := Lib.hid (R12.out.on hb)
      replace Y9 := Lib.hid (Y9.out.on hb)
      replace Y11 := Lib.hid (Y11.out.on hb)
      replace Y12 := Lib.hid (Y12.out.on hb)
      clear hb HRE p0 p1 HC11 hhalf hn14 Y7 Y8
      obtain ⟨w13, hw13⟩ : ∃ q, q = w12.alloc (.cells #[.slice a14 n14 c14] 27) := ⟨_, rfl⟩
      have b13 : Below w12.heap.size w12 w13 := by rw [hw13]; exact below_new _ _
      have Y14 : Hid (Box w13 w12.heap.size 27 #[.slice a14 n14 c14]) := Lib.hid (by rw [hw13]; exact box_new)
      have G14 : Hid (w4.heap.size ≤ w12.heap.size) := Lib.hid HC12.out.size
      have N12 : Hid (g12 < w12.heap.size) := Lib.hid Y12.out.lt
      go_upto_region 11 with fail
      rw [← hw13]
      obtain ⟨g14, hg14⟩ : ∃ q, q = w12.heap.size := ⟨_, rfl⟩
      rw [← hg14] at Y14 G14 N12 ⊢
      have HC13 := Lib.hid (bch HC12.out b13)
      replace OP := Lib.hid (OP.out.on b13)
      replace OQ := Lib.hid (OQ.out.on b13)
      replace R12 := Lib.hid (R12.out.on b13)
      replace H14 := Lib.hid (H14.out.on b13)
      replace Y9 := Lib.hid (Y9.out.on b13)
      replace Y11 := Lib.hid (Y11.out.on b13)
      replace Y12 := Lib.hid (Y12.out.on b13)
      clear hw13 b13 HC12 hg14 M14
      have D12 : ∀ W, W = w13 → true = o1 → ∃ a n c, Hid (Box W g12 27 #[.slice a n c]) ∧ Hid (OwnR W w4.heap.size (.slice a n c) lp) ∧ Hid (HalfR w4 W w11.heap.size (.slice a14 n14 c14) (fa ++ fb)) ∧ Hid (Box W g14 27 #[.slice a14 n14 c14]) ∧ Hid (Box W g9 27 #[.slice ap np cp]) ∧ Hid (Box W g11 27 #[.slice aq nq cq]) ∧ Hid (OwnR W w4.heap.size (.slice ap np cp) lp) ∧ Hid (OwnR W w4.heap.size (.slice aq nq cq) lq) ∧ Hid (Below w4.heap.size w4 W) := fun W hW ho => by
        subst hW
        exact ⟨_, _, _, Y12, Lib.hid (by rw [HLP.out, fitL_yes (by rw [← HO1.out]; exact ho)]; exact R12.out), H14, Y14, Y9, Y11, OP, OQ, HC13⟩
      have E12 : ∀ W, W = w13.setCell ⟨g12, 0, none⟩ (.slice none 0 0) → false = o1 → ∃ a n c, Hid (Box W g12 27 #[.slice a n c]) ∧ Hid (OwnR W w4.heap.size (.slice a n c) lp) ∧ Hid (HalfR w4 W w11.heap.size (.slice a14 n14 c14) (fa ++ fb)) ∧ Hid (Box W g14 27 #[.slice a14 n14 c14]) ∧ Hid (Box W g9 27 #[.slice ap np cp]) ∧ Hid (Box W g11 27 #[.slice aq nq cq]) ∧ Hid (OwnR W w4.heap.size (.slice ap np cp) lp) ∧ Hid (OwnR W w4.heap.size (.slice aq nq cq) lq) ∧ Hid (Below w4.heap.size w4 W) := fun W hW ho => by
        subst hW
        exact ⟨_, _, _, Lib.hid (Y12.out.set (k := 0) (.slice none 0 0)), Lib.hid (by rw [HLP.out, fitL_no (by rw [← HO1.out]; exact ho)]; exact OwnR.nil _ _), Lib.hid (H14.out.box Y12.out 0 _), Lib.hid (Y14.out.far (p := ⟨g12, 0, none⟩) (by have := N12.out; show g14 ≠ g12; omega) _), Lib.hid (Y9.out.far (p := ⟨g12, 0, none⟩) (by have := N9.out; show g9 ≠ g12; omega) _), Lib.hid (Y11.out.far (p := ⟨g12, 0, none⟩) (by have := N11.out; show g11 ≠ g12; omega) _), Lib.hid (OP.out.box Y12.out 0 _), Lib.hid (OQ.out.box Y12.out 0 _), Lib.hid (HC13.out.setCell (p := ⟨g12, 0, none⟩) G12.out _)⟩
      have p2 := Y12.out.cell (k := 0) rfl
      have f2 := frozen_of_row w13 _ 0 _ _ Y12.out
      replace D12 := Lib.hid D12
      replace E12 := Lib.hid E12
      clear H14 Y14 Y9 Y11 OP OQ HC13 R12 Y12
      go_upto_if 76 with fail
      go_cut [] (fun wx => ∃ a n c, Hid (Box wx g12 27 #[.slice a n c]) ∧ Hid (OwnR wx w4.heap.size (.slice a n c) lp) ∧ Hid (HalfR w4 wx w11.heap.size (.slice a14 n14 c14) (fa ++ fb)) ∧ Hid (Box wx g14 27 #[.slice a14 n14 c14]) ∧ Hid (Box wx g9 27 #[.slice ap np cp]) ∧ Hid (Box wx g11 27 #[.slice aq nq cq]) ∧ Hid (OwnR wx w4.heap.size (.slice ap np cp) lp) ∧ Hid (OwnR wx w4.heap.size (.slice aq nq cq) lq) ∧ Hid (Below w4.heap.size w4 wx))
      case first =>
        rename_i J2 K2 hJ hK2
        cases o1 with
        | false =>
          go_wp2_with fail
          first | refine hK2 _ _ (Met.intro (hJ _ _ ?_)) | refine Met.intro (hJ _ _ ?_)
          (repeat apply Exists.intro)
          refine ⟨?_, rfl⟩
          exact E12.out _ rfl trivial
        | true =>
          go_wp2_with fail
          first | refine hK2 _ _ (Met.intro (hJ _ _ ?_)) | refine Met.intro (hJ _ _ ?_)
          (repeat apply Exists.intro)
          refine ⟨?_, rfl⟩
          exact D12.out _ rfl trivial
      case rest =>
      clear D12 E12 p2 f2
      obtain ⟨a12, n12, c12, Y12, R12, H14, Y14, Y9, Y11, OP, OQ, HC14⟩ := hcut
      obtain ⟨w14, hw14⟩ : ∃ q, q = wc := ⟨_, rfl⟩
      rw [← hw14] at Y12 R12 H14 Y14 Y9 Y11 OP OQ HC14 ⊢
      clear hw14
      have D14 : ∀ W, W = w14 → true = o2 → ∃ a n c, Hid (Box W g14 27 #[.slice a n c]) ∧ Hid (RdR W (.slice a n c) lq) ∧ Hid (Box W g12 27 #[.slice a12 n12 c12]) ∧ Hid (OwnR W w4.heap.size (.slice a12 n12 c12) lp) ∧ Hid (Box W g9 27 #[.slice ap np cp]) ∧ Hid (Box W g11 27 #[.slice aq nq cq]) ∧ Hid (OwnR W w4.heap.size (.slice ap np cp) lp) ∧ Hid (OwnR W w4.heap.size (.slice aq nq cq) lq) ∧ Hid (Below w4.heap.size w4 W) := fun W hW ho => by
        subst hW
        exact ⟨_, _, _, Y14, Lib.hid (by rw [HLQ.out, fitL_yes (by rw [← HO2.out]; exact ho)]; exact H14.out.rd HC14.out), Y12, R12, Y9, Y11, OP, OQ, HC14⟩
      have E14 : ∀ W, W = w14.setCell ⟨g14, 0, none⟩ (.slice none 0 0) → false = o2 → ∃ a n c, Hid (Box W g14 27 #[.slice a n c]) ∧ Hid (RdR W (.slice a n c) lq) ∧ Hid (Box W g12 27 #[.slice a12 n12 c12]) ∧ Hid (OwnR W w4.heap.size (.slice a12 n12 c12) lp) ∧ Hid (Box W g9 27 #[.slice ap np cp]) ∧ Hid (Box W g11 27 #[.slice aq nq cq]) ∧ Hid (OwnR W w4.heap.size (.slice ap np cp) lp) ∧ Hid (OwnR W w4.heap.size (.slice aq nq cq) lq) ∧ Hid (Below w4.heap.size w4 W) := fun W hW ho => by
        subst hW
        exact ⟨_, _, _, Lib.hid (Y14.out.set (k := 0) (.slice none 0 0)), Lib.hid (by rw [HLQ.out, fitL_no (by rw [← HO2.out]; exact ho)]; exact (OwnR.nil _ 0).rd), Lib.hid (Y12.out.far (p := ⟨g14, 0, none⟩) (by have := N12.out; show g12 ≠ g14; omega) _), Lib.hid (R12.out.box Y14.out 0 _), Lib.hid (Y9.out.far (p := ⟨g14, 0, none⟩) (by have := N9.out; have := N12.out; show g9 ≠ g14; omega) _), Lib.hid (Y11.out.far (p := ⟨g14, 0, none⟩) (by have := N11.out; have := N12.out; show g11 ≠ g14; omega) _), Lib.hid (OP.out.box Y14.out 0 _), Lib.hid (OQ.out.box Y14.out 0 _), Lib.hid (HC14.out.setCell (p := ⟨g14, 0, none⟩) G14.out _)⟩
      have p2 := Y14.out.cell (k := 0) rfl
      have f2 := frozen_of_row w14 _ 0 _ _ Y14.out
      replace D14 := Lib.hid D14
      replace E14 := Lib.hid E14
      clear H14 Y14 Y9 Y11 OP OQ HC14 R12 Y12
      go_upto_if 79 with fail
      go_cut [] (fun wx => ∃ a n c, Hid (Box wx g14 27 #[.slice a n c]) ∧ Hid (RdR wx (.slice a n c) lq) ∧ Hid (Box wx g12 27 #[.slice a12 n12 c12]) ∧ Hid (OwnR wx w4.heap.size (.slice a12 n12 c12) lp) ∧ Hid (Box wx g9 27 #[.slice ap np cp]) ∧ Hid (Box wx g11 27 #[.slice aq nq cq]) ∧ Hid (OwnR wx w4.heap.size (.slice ap np cp) lp) ∧ Hid (OwnR wx w4.heap.size (.slice aq nq cq) lq) ∧ Hid (Below w4.heap.size w4 wx))
      case first =>
        rename_i J2 K2 hJ hK2
        cases o2 with
        | false =>
          go_wp2_with fail
          first | refine hK2 _ _ (Met.intro (hJ _ _ ?_)) | refine Met.intro (hJ _ _ ?_)
          (repeat apply Exists.intro)
          refine ⟨?_, rfl⟩
          exact E14.out _ rfl trivial
        | true =>
          go_wp2_with fail
          first | refine hK2 _ _ (Met.intro (hJ _ _ ?_)) | refine Met.intro (hJ _ _ ?_)
          (repeat apply Exists.intro)
          refine ⟨?_, rfl⟩
          exact D14.out _ rfl trivial
      case rest =>
      clear D14 E14 p2 f2
      obtain ⟨a14, n14, c14, Y14, R14, Y12, R12, Y9, Y11, OP, OQ, HC15⟩ := hcut
      obtain ⟨w15, hw15⟩ : ∃ q, q = wc := ⟨_, rfl⟩
      rw [← hw15] at Y14 R14 Y12 R12 Y9 Y11 OP OQ HC15 ⊢
      clear hw15
      go_upto_region 15 with fail
      go_cut [120] (fun b wx => b = .bool false ∧ Hid (Below w15.heap.size w15 wx))
      case first =>
        rename_i J2 K2 hJ hK2
        have p0 := Y9.out.cell (k := 0) rfl
        have p1 := Y12.out.cell (k := 0) rfl
        have HS1 := Lib.hid (rsame_self rfl w15 OP.out.rd R12.out.rd)
        go_wp2_with fail
        refine HS1.out.mono ?_
        rintro e w16 ⟨rfl, hb⟩
        have HB16 := Lib.hid hb
        have p2 := (Y11.out.on hb).cell (k := 0) rfl
        have p3 := (Y14.out.on hb).cell (k := 0) rfl
        have HS2 := Lib.hid (rsame_self rfl w16 (OQ.out.on hb).rd (R14.out.on hb))
        clear hb HS1 p0 p1
        go_wp2_with fail
        refine HS2.out.mono ?_
        rintro e w17 ⟨rfl, hb⟩
        have HB17 := Lib.hid (bch HB16.out hb)
        clear hb HS2 p2 p3
        obtain rfl := HE1.out
        obtain rfl := HE2.out
        unfold fitZ
        cases o1 <;> cases o2
        all_goals
          go_wp2_with fail
          first | refine hK2 _ _ (Met.intro (hJ _ _ ?_)) | refine Met.intro (hJ _ _ ?_)
          (repeat apply Exists.intro)
          refine ⟨?_, rfl⟩
          exact ⟨rfl, HB17⟩
      case rest =>
      obtain ⟨rfl, HD⟩ := hcut
      obtain ⟨w18, hw18⟩ : ∃ q, q = wc := ⟨_, rfl⟩
      rw [← hw18] at HD ⊢
      replace Y9 := Lib.hid (Y9.out.on HD.out)
      replace Y11 := Lib.hid (Y11.out.on HD.out)
      replace OP := Lib.hid (OP.out.on HD.out)
      replace OQ := Lib.hid (OQ.out.on HD.out)
      have HC18 := Lib.hid (bch HC15.out HD.out)
      clear hw18 HD HC15 Y12 R12 R14 Y14
      obtain ⟨vp, hvp, hvpl⟩ := OP.out.mv
      obtain ⟨vq, hvq, hvql⟩ := OQ.out.mv
      have MP := Lib.hid hvp
      have MQ := Lib.hid hvq
      have HNP : Hid (np = vp.length) := Lib.hid (by
        obtain ⟨a, c, e⟩ := OP.out.form
        cases e
        exact hvpl.symm)
      have HNQ : Hid (nq = vq.length) := Lib.hid (by
        obtain ⟨a, c, e⟩ := OQ.out.form
        cases e
        exact hvql.symm)
      clear hvp hvq hvpl hvql OP OQ
      have p0 := Y9.out.cell (k := 0) rfl
      have p1 := Y11.out.cell (k := 0) rfl
      go_upto_region 17 with fail
      go_wp2_with fail
      go_loopw [17, 18, 19, 124, 125, 126, 127, 128, 129, 130, 131, 132, 133, 134, 135, 136, 137, 138, 139, 140, 141, 142, 143, 144, 145, 146, 147, 148, 149, 150, 151, 152, 153, 154, 155, 156] (fun _ _ _ i _ _ _ _ _ _ _ _ _ _ _ _ _ _ _ _ _ _ _ _ _ _ _ _ _ _ _ _ _ _ _ _ W => ∃ k : Nat, k ≤ 2 ∧ i = .int .i64 k ∧ Hid (MV W w4.heap.size (.slice ap np cp) vp) ∧ Hid (MV W w4.heap.size (.slice aq nq cq) vq) ∧ Hid (Below w4.heap.size w4 W)) (fun _ _ _ i _ _ _ _ _ _ _ _ _ _ _ _ _ _ _ _ _ _ _ _ _ _ _ _ _ _ _ _ _ _ _ _ _ => 2 - (Lib.intOf i).toNat)
      case atStart => exact ⟨0, Nat.zero_le _, rfl, MP, MQ, HC18⟩
      case round =>
        clear p0 p1 MP MQ Y9 Y11 HC18
        obtain ⟨k, hk, rfl, MP, MQ, HC⟩ := hrel
        obtain ⟨wq, hwq⟩ : ∃ q, q = wr := ⟨_, rfl⟩
        rw [← hwq] at MP MQ HC ⊢
        clear hwq
        by_cases hlt : k < 2
        · have k1 : (k : Int) < 2 := by omega
          have k2 : (0 : Int) ≤ (k : Int) := by omega
          have k4 : IntKind.i64.wrap ((k : Int) + 1) = (k : Int) + 1 := IntWalk.i64_in _ (by omega)
          go_upto_region 19 with fail
          go_cut [17] (fun p wx => ∃ (g17 : Nat) (a : Option Addr) (n c : Nat) (vs : List Value), p = .pointer (some ⟨g17, 0, none⟩) ∧ Hid (w4.heap.size ≤ g17) ∧ Hid (Box wx g17 27 #[.slice a n c]) ∧ Hid (n = vs.length) ∧ Hid (MV wx w4.heap.size (.slice a n c) vs) ∧ Hid (MV wx w4.heap.size (.slice ap np cp) vp) ∧ Hid (MV wx w4.heap.size (.slice aq nq cq) vq) ∧ Hid (Below w4.heap.size w4 wx))
          case first =>
            rename_i J2 K2 hJ hK2
            obtain rfl | rfl : k = 0 ∨ k = 1 := by omega
            · go_wp2_with (refine wpList_index54 rfl (.tmp 123) (.tmp 124) rfl (.agg #[.slice ap np cp, .slice aq nq cq]) (.int .i64 0) (.agg #[.slice ap np cp]) rfl rfl (index54_0 _ _ _) ?_)
              first | refine hK2 _ _ (Met.intro (hJ _ _ ?_)) | refine Met.intro (hJ _ _ ?_)
              (repeat apply Exists.intro)
              refine ⟨?_, rfl⟩
              exact ⟨wq.heap.size, _, _, _, vp, rfl, Lib.hid HC.out.size, Lib.hid box_new, HNP, Lib.hid (MP.out.on (below_new _ _)), Lib.hid (MP.out.on (below_new _ _)), Lib.hid (MQ.out.on (below_new _ _)), Lib.hid (bch HC.out (below_new _ _))⟩
            · go_wp2_with (refine wpList_index54 rfl (.tmp 123) (.tmp 124) rfl (.agg #[.slice ap np cp, .slice aq nq cq]) (.int .i64 1) (.agg #[.slice aq nq cq]) rfl rfl (index54_1 _ _ _) ?_)
              first | refine hK2 _ _ (Met.intro (hJ _ _ ?_)) | refine Met.intro (hJ _ _ ?_)
              (repeat apply Exists.intro)
              refine ⟨?_, rfl⟩
              exact ⟨wq.heap.size, _, _, _, vq, rfl, Lib.hid HC.out.size, Lib.hid box_new, HNQ, Lib.hid (MQ.out.on (below_new _ _)), Lib.hid (MP.out.on (below_new _ _)), Lib.hid (MQ.out.on (below_new _ _)), Lib.hid (bch HC.out (below_new _ _))⟩
          case rest =>
          clear MP MQ HC
          obtain ⟨g17, a, n, c, vs, rfl, G17, X17, HN, MS, MP, MQ, HC⟩ := hcut
          obtain ⟨ws, hws⟩ : ∃ q, q = wc := ⟨_, rfl⟩
          rw [← hws] at X17 MS MP MQ HC ⊢
          clear hws
          have p0 := X17.out.cell (k := 0) rfl
          go_upto_region 20 with fail
          go_wp2_with fail
          go_loopw [18, 19, 130, 131, 132, 133, 134, 135, 136, 137, 138, 139, 140, 141, 142, 143, 144, 145, 146, 147, 148, 149, 150, 151, 152, 153, 154, 155] (fun _ _ i _ _ _ _ _ _ _ _ _ _ _ _ _ _ _ _ _ _ _ _ _ _ _ _ _ W => ∃ t : Nat, t ≤ n ∧ i = .int .i64 t ∧ Hid (Box W g17 27 #[.slice a n c]) ∧ Hid (MV W w4.heap.size (.slice a n c) vs) ∧ Hid (MV W w4.heap.size (.slice ap np cp) vp) ∧ Hid (MV W w4.heap.size (.slice aq nq cq) vq) ∧ Hid (Below w4.heap.size w4 W)) (fun _ _ i _ _ _ _ _ _ _ _ _ _ _ _ _ _ _ _ _ _ _ _ _ _ _ _ _ _ => n - (Lib.intOf i).toNat)
          case atStart => exact ⟨0, Nat.zero_le _, rfl, X17, MS, MP, MQ, HC⟩
          case round =>
            clear p0 X17 MS MP MQ HC
            obtain ⟨t, ht, rfl, X17, MS, MP, MQ, HC⟩ := hrel
            obtain ⟨wm, hwm⟩ : ∃ q, q = wr := ⟨_, rfl⟩
            rw [← hwm] at X17 MS MP MQ HC ⊢
            clear hwm
            by_cases tlt : t < n
            · obtain ⟨v, hv⟩ : ∃ v, vs[t]? = some v := ⟨_, List.getElem?_eq_getElem (by have := HN.out; omega)⟩
              obtain ⟨gs, cs, cur, es, hnc, hcm, hbx, hcu⟩ := MS.out.row hv
              obtain ⟨av, nv, cv, rfl, hnv, hcv⟩ := MS.out.form hv
              rw [← HN.out] at es hnc
              cases es
              have r0 := hbx.cell hcu
              have p0 := X17.out.cell (k := 0) rfl
              unfold maxLen at hcm hcv
              have t1 : (t : Int) < (n : Int) := by omega
              have t2 : (0 : Int) ≤ (t : Int) := by omega
              have t4 : IntKind.i64.wrap ((t : Int) + 1) = (t : Int) + 1 := IntWalk.i64_in _ (by omega)
              have HV := Lib.hid hv
              clear hv hbx hcu
              go_wp2_with fail
              go_loopw [19, 139, 140, 141, 142, 143, 144, 145, 146, 147, 148, 149, 150, 151, 152, 153, 154] (fun _ i _ _ _ _ _ _ _ _ _ _ _ _ _ _ _ W => ∃ j : Nat, j ≤ nv ∧ i = .int .i64 j ∧ Hid (Box W g17 27 #[.slice (some ⟨gs, 0, none⟩) n c]) ∧ Hid (MV W w4.heap.size (.slice (some ⟨gs, 0, none⟩) n c) vs) ∧ Hid (MV W w4.heap.size (.slice ap np cp) vp) ∧ Hid (MV W w4.heap.size (.slice aq nq cq) vq) ∧ Hid (Below w4.heap.size w4 W)) (fun _ i _ _ _ _ _ _ _ _ _ _ _ _ _ _ _ _ => nv - (Lib.intOf i).toNat)
              case atStart => exact ⟨0, Nat.zero_le _, rfl, X17, MS, MP, MQ, HC⟩
              case round =>
                clear p0 r0 X17 MS MP MQ HC
                obtain ⟨j, hj, rfl, X17, MS, MP, MQ, HC⟩ := hrel
                obtain ⟨wi, hwi⟩ : ∃ q, q = wr := ⟨_, rfl⟩
                rw [← hwi] at X17 MS MP MQ HC ⊢
                clear hwi
                by_cases jlt : j < nv
                · obtain ⟨g2, cur2, z, rfl, hB2, hbx2, hc2⟩ := MS.out.cell HV.out jlt
                  obtain ⟨gs', cs', cur', es', _, _, hbx', hcu'⟩ := MS.out.row HV.out
                  rw [← HN.out] at es'
                  cases es'
                  have r0 := hbx'.cell hcu'
                  have p0 := X17.out.cell (k := 0) rfl
                  have c0 := hbx2.cell hc2
                  have f0 := frozen_of_row wi g2 (j * 8) _ _ hbx2
                  have HBX2 := Lib.hid hbx2
                  have NE := Lib.hid (box_ne X17.out hbx2 (by decide))
                  have HB2 := Lib.hid hB2
                  have j1 : (j : Int) < (nv : Int) := by omega
                  have j2 : (0 : Int) ≤ (j : Int) := by omega
                  have j4 : IntKind.i64.wrap ((j : Int) + 1) = (j : Int) + 1 := IntWalk.i64_in _ (by omega)
                  clear hbx' hcu' hbx2 hc2 hB2
                  go_wp2_with fail
                  go_roundw
                  case rel => exact ⟨j + 1, jlt, by go_num, Lib.hid (X17.out.far (p := ⟨g2, j * 8, none⟩) NE.out _), Lib.hid (MS.out.store HBX2.out j _), Lib.hid (MP.out.store HBX2.out j _), Lib.hid (MQ.out.store HBX2.out j _), Lib.hid (HC.out.setCell (p := ⟨g2, j * 8, none⟩) HB2.out _)⟩
                  case measure => simp [Lib.intOf]; omega
                · have j1 : ¬ ((j : Int) < (nv : Int)) := by omega
                  go_wp2_with fail
                  go_roundw
                  case rel => exact ⟨t + 1, tlt, by go_num, X17, MS, MP, MQ, HC⟩
                  case measure => simp [Lib.intOf]; omega
            · have t1 : ¬ ((t : Int) < (n : Int)) := by omega
              go_wp2_with fail
              go_roundw
              case rel => exact ⟨k + 1, hlt, by go_num, MP, MQ, HC⟩
              case measure => simp [Lib.intOf]; omega
        · have k1 : ¬ ((k : Int) < 2) := by omega
          go_upto_region 30 with fail
          refine wp_region_held_drew (S := fun w' => Below w4.heap.size w4 w') (by kernel_rfl) HC.out.drew (fun hHeld => ?_)
          clear MP MQ HC
          refine wpAnyH_take (i := 0) (oi := { dst := some 157, op := Op.load 27 (Operand.tmp 5), type := 27, pos := "law.go:114", after := #[], guard := none }) (v := ?_) rfl (by kernel_rfl) (by kernel_rfl) (by kernel_rfl) (fun _ _ _ h => h) (Or.inl ⟨by rfl, ?_⟩) hHeld ?_
          rotate_left
          · (intro w hSw; have p0 := (Z7.out.on hSw).cell (k := 0) rfl; go_simp; try with_reducible rfl)
          (try simp only [Act.put, List.setIfInBounds_toArray, List.set_cons_zero, List.set_cons_succ])
          refine wpAnyH_take (i := 1) (oi := { dst := some 158, op := Op.load 27 (Operand.tmp 2), type := 27, pos := "law.go:114", after := #[], guard := none }) (v := ?_) rfl (by kernel_rfl) (by kernel_rfl) (by kernel_rfl) (fun _ _ _ h => h) (Or.inl ⟨by rfl, ?_⟩) hHeld ?_
          rotate_left
          · (intro w hSw; have p0 := (X1.out.on hSw).cell (k := 0) rfl; go_simp; try with_reducible rfl)
          (try simp only [Act.put, List.setIfInBounds_toArray, List.set_cons_zero, List.set_cons_succ])
          refine wpAnyH_ready (rs := [2]) (by kernel_rfl) (by simp) (AllReadyH.cons (o := { dst := some 159, op := Op.call { callee := Callee.value (Operand.func 10), args := #[Operand.tmp 158], argTypes := #[27] }, type := 27, pos := "law.go:114", after := #[{ on := 1, ground := Ground.data }], guard := none }) rfl (fun K hK => ?_) AllReadyH.nil)
          · go_simp
            refine (few_any la _ _ (HX4.out.on hHeld)).mono ?_
            rintro e vb ⟨x9, rfl, hown, hba⟩
            rw [← HFA.out] at hown
            obtain ⟨aA9, cA9, rfl⟩ := hown.form
            have OA9 := Lib.hid hown.rd
            refine hK.out _ _ (bch hHeld hba) (fun hHeld => ?_)
            clear hown hba
            (try simp only [Act.put, List.setIfInBounds_toArray, List.set_cons_zero, List.set_cons_succ])
            refine wpAnyH_ready (rs := [3]) (by kernel_rfl) (by simp) (AllReadyH.cons (o := { dst := some 160, op := Op.call { callee := Callee.value (Operand.func 16), args := #[Operand.tmp 157, Operand.tmp 159], argTypes := #[27, 27] }, type := 4, pos := "law.go:114", after := #[{ on := 0, ground := Ground.data }, { on := 2, ground := Ground.data }, { on := 2, ground := Ground.chain }], guard := none }) rfl (fun K hK => ?_) AllReadyH.nil)
            · go_simp
              refine (rsame_self rfl vb (RA.out.on hHeld) OA9.out).mono ?_
              rintro e vc ⟨rfl, hba⟩
              refine hK.out _ _ (bch hHeld hba) (fun hHeld => ?_)
              clear hba
              (try simp only [Act.put, List.setIfInBounds_toArray, List.set_cons_zero, List.set_cons_succ])
              refine wpAnyH_take (i := 4) (oi := { dst := some 161, op := Op.move (Operand.tmp 160), type := 4, pos := "law.go:114", after := #[{ on := 3, ground := Ground.data }, { on := 3, ground := Ground.chain }], guard := none }) (v := ?_) rfl (by kernel_rfl) (by kernel_rfl) (by kernel_rfl) (fun _ _ _ h => h) (Or.inl ⟨by rfl, ?_⟩) hHeld ?_
              rotate_left
              · (intro w hSw; go_simp; try with_reducible rfl)
              (try simp only [Act.put, List.setIfInBounds_toArray, List.set_cons_zero, List.set_cons_succ])
              refine wpAnyH_take (i := 5) (oi := { dst := some 162, op := Op.load 27 (Operand.tmp 6), type := 27, pos := "law.go:114", after := #[{ on := 4, ground := Ground.guard }], guard := some (4, true) }) (v := ?_) rfl (by kernel_rfl) (by kernel_rfl) (by kernel_rfl) (fun _ _ _ h => h) (Or.inl ⟨by rfl, ?_⟩) hHeld ?_
              rotate_left
              · (intro w hSw; have p0 := (Z8.out.on hSw).cell (k := 0) rfl; go_simp; try with_reducible rfl)
              (try simp only [Act.put, List.setIfInBounds_toArray, List.set_cons_zero, List.set_cons_succ])
              refine wpAnyH_take (i := 6) (oi := { dst := some 163, op := Op.load 27 (Operand.tmp 3), type := 27, pos := "law.go:114", after := #[{ on := 4, ground := Ground.guard }], guard := some (4, true) }) (v := ?_) rfl (by kernel_rfl) (by kernel_rfl) (by kernel_rfl) (fun _ _ _ h => h) (Or.inl ⟨by rfl, ?_⟩) hHeld ?_
              rotate_left
              · (intro w hSw; have p0 := (X2.out.on hSw).cell (k := 0) rfl; go_simp; try with_reducible rfl)
              (try simp only [Act.put, List.setIfInBounds_toArray, List.set_cons_zero, List.set_cons_succ])
              refine wpAnyH_ready (rs := [7]) (by kernel_rfl) (by simp) (AllReadyH.cons (o := { dst := some 164, op := Op.call { callee := Callee.value (Operand.func 10), args := #[Operand.tmp 163], argTypes := #[27] }, type := 27, pos := "law.go:114", after := #[{ on := 6, ground := Ground.data }, { on := 4, ground := Ground.chain }, { on := 4, ground := Ground.guard }], guard := some (4, true) }) rfl (fun K hK => ?_) AllReadyH.nil)
              · go_simp
                refine (few_any lb _ _ (HY4.out.on hHeld)).mono ?_
                rintro e vd ⟨x9, rfl, hown, hba⟩
                rw [← HFB.out] at hown
                obtain ⟨aB9, cB9, rfl⟩ := hown.form
                have OB9 := Lib.hid hown.rd
                refine hK.out _ _ (bch hHeld hba) (fun hHeld => ?_)
                clear hown hba
                (try simp only [Act.put, List.setIfInBounds_toArray, List.set_cons_zero, List.set_cons_succ])
                refine wpAnyH_ready (rs := [8]) (by kernel_rfl) (by simp) (AllReadyH.cons (o := { dst := some 165, op := Op.call { callee := Callee.value (Operand.func 16), args := #[Operand.tmp 162, Operand.tmp 164], argTypes := #[27, 27] }, type := 4, pos := "law.go:114", after := #[{ on := 5, ground := Ground.data }, { on := 7, ground := Ground.data }, { on := 7, ground := Ground.chain }, { on := 4, ground := Ground.guard }], guard := some (4, true) }) rfl (fun K hK => ?_) AllReadyH.nil)
                · go_simp
                  refine (rsame_self rfl vd (RB.out.on hHeld) OB9.out).mono ?_
                  rintro e ve ⟨rfl, hba⟩
                  refine hK.out _ _ (bch hHeld hba) (fun hHeld => ?_)
                  clear hba
                  (try simp only [Act.put, List.setIfInBounds_toArray, List.set_cons_zero, List.set_cons_succ])
                  refine wpAnyH_take (i := 9) (oi := { dst := some 166, op := Op.pick (Operand.tmp 161) (Operand.tmp 165) (Operand.const (Value.bool false)), type := 4, pos := "law.go:114", after := #[{ on := 4, ground := Ground.data }, { on := 8, ground := Ground.data }], guard := none }) (v := ?_) rfl (by kernel_rfl) (by kernel_rfl) (by kernel_rfl) (fun _ _ _ h => h) (Or.inl ⟨by rfl, ?_⟩) hHeld ?_
                  rotate_left
                  · (intro w hSw; go_simp; try with_reducible rfl)
                  (try simp only [Act.put, List.setIfInBounds_toArray, List.set_cons_zero, List.set_cons_succ])
                  refine wpAnyH_take (i := 10) (oi := { dst := some 4, op := Op.assign (Operand.tmp 166), type := 4, pos := "law.go:114", after := #[{ on := 9, ground := Ground.data }, { on := 8, ground := Ground.chain }, { on := 0, ground := Ground.phase }, { on := 1, ground := Ground.phase }, { on := 2, ground := Ground.phase }, { on := 3, ground := Ground.phase }, { on := 4, ground := Ground.phase }, { on := 5, ground := Ground.phase }, { on := 6, ground := Ground.phase }, { on := 7, ground := Ground.phase }, { on := 8, ground := Ground.phase }, { on := 9, ground := Ground.phase }], guard := none }) (v := ?_) rfl (by kernel_rfl) (by kernel_rfl) (by kernel_rfl) (fun _ _ _ h => h) (Or.inl ⟨by rfl, ?_⟩) hHeld ?_
                  rotate_left
                  · (intro w hSw; go_simp; try with_reducible rfl)
                  (try simp only [Act.put, List.setIfInBounds_toArray, List.set_cons_zero, List.set_cons_succ])
                  refine wpAnyH_done (by kernel_rfl) ?_ _
                  have HD := Lib.hid hHeld
                  clear hHeld
                  go_wp2_with fail
                  go_ret
                  exact ⟨rfl, bch B4.out HD.out⟩
end Go.Proofs.YtlfehjjnepiljaaGreatDoor
