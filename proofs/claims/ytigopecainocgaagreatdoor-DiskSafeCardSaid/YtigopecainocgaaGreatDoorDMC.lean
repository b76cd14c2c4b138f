/- Proved here: DiskSafe of puncheonlaw08 returns true, whatever the disk, the list and the cut, wherever the tables stand. | Proved: whatever disk, list and cut DiskSafe of puncheonlaw08 is called with, the call returns true, and all read behind it as they read before (the statement Rows.DiskSafeCardSaid). No condition of ours: the tables stand as the program's text lays them (the card ties them), and the form's own reach. -/
import Derived.Test.YtigopecainocgaaGreatDoorDMB
namespace Go.Proofs.YtigopecainocgaaGreatDoor
open Go.RowKit Go.Shelf

set_option maxRecDepth 100000 in
set_option maxHeartbeats 8000000 in
theorem safe5_any (d : Dsk) (iv wv lv : Value) (ops : List Opn) (cut : Int) (w : World) (h : RdD w iv wv d) (ho : RdO w lv ops) (hz : SzD d)
    (hso : ∀ o ∈ ops, o.path.length ≤ 140737488355328 ∧ o.to.length ≤ 140737488355328) (hT : TabS w) :
    Calls Tryz.prog 5 #[.agg #[iv, wv, .int .i64 d.room], lv, .int .i64 cut] w (EqR true w) := by
  obtain ⟨q, hq, hq9⟩ : ∃ q : Nat, wrap64 ((IntKind.u64.wrap cut).tmod 1000) = (q : Int) ∧ q ≤ 1000000000 := by
    have h1 : (0 : Int) ≤ IntKind.u64.wrap cut := by rw [IntKind.wrap_u64]; omega
    have h2 := Int.tmod_nonneg (1000 : Int) h1
    have h3 := Int.tmod_lt_of_pos (IntKind.u64.wrap cut) (show (0 : Int) < 1000 by omega)
    refine ⟨((IntKind.u64.wrap cut).tmod 1000).toNat, ?_, by omega⟩
    rw [IntWalk.wrap64_in _ (by omega), Int.toNat_of_nonneg h2]
  obtain ⟨x, hx⟩ : ∃ z, z = runD (ownD d) (ops.take 16) true := ⟨_, rfl⟩
  obtain ⟨t, ht⟩ : ∃ t, nowM x.1 = some t := by rw [hx]; exact now_run _ _ _
  have HZ1 : Hid (SzD x.1) := Lib.hid (by rw [hx]; exact run_sz (own_sz hz) _ (fun o h => hso o (List.mem_of_mem_take h)) _)
  have HN : Hid (nowM x.1 = some t) := Lib.hid ht
  have HX := Lib.hid hx
  have HZ0 := Lib.hid (own_sz hz)
  have HSO : Hid (∀ o ∈ ops.take 16, o.path.length ≤ 140737488355328 ∧ o.to.length ≤ 140737488355328) := Lib.hid (fun o h => hso o (List.mem_of_mem_take h))
  have HQ := Lib.hid hq9
  have HT := Lib.hid hT
  obtain ⟨w1, hw1⟩ : ∃ z, z = w.alloc (.cells #[iv, wv, .int .i64 d.room] 27) := ⟨_, rfl⟩
  obtain ⟨bI, hbI⟩ : ∃ z, z = w.heap.size := ⟨_, rfl⟩
  have HB : Hid (Below w.heap.size w w1) := Lib.hid (by rw [hw1]; exact below_new _ _)
  have XI : Hid (Box w1 bI 27 #[iv, wv, .int .i64 d.room]) := Lib.hid (by rw [hw1, hbI]; exact box_new)
  have RI : Hid (RdD w1 iv wv d) := Lib.hid (h.on HB.out)
  have RL : Hid (RdO w1 lv ops) := Lib.hid (RdF.on ho HB.out)
  obtain ⟨ia, ic, rfl, _⟩ := h.items.open
  obtain ⟨wa, wc, rfl, _⟩ := h.wait.open
  obtain ⟨oa, oc, rfl, _⟩ := ho.open
  have e0 : ((0 : Int) == 0) = true := rfl
  have e1 : (x.1.room == x.1.room) = true := by simp
  clear h ho hz hso hT hq9 hx ht
  go_enter Tryz.func5, Tryz.ntmps5
  go_upto_region 1 with fail
  rw [← hw1, ← hbI]
  clear hw1 hbI
  go_wp2_with fail
  refine (wakes8_any w1 (HT.out.on HB.out)).mono ?_
  rintro e w2 ⟨rfl, hb⟩
  have hcar : Below w1.heap.size w1 w2 := hb
  have XI := Lib.hid (XI.out.on hcar)
  have RI := Lib.hid (RI.out.on hcar)
  have RL := Lib.hid (RL.out.on hcar)
  have HB := Lib.hid (bch HB.out hcar)
  clear hcar
  have p0 := XI.out.cell (k := 0) rfl
  have p1 := XI.out.cell (k := 1) rfl
  have p2 := XI.out.cell (k := 2) rfl
  clear hb
  go_wp2_with fail
  clear p0 p1 p2
  refine (own8_any d _ _ w2 RI.out).mono ?_
  rintro e w3 ⟨iv, wv, rfl, hI, hW, hb⟩
  obtain ⟨a1, n1, c1, rfl⟩ := own_any3 hI
  obtain ⟨a2, n2, c2, rfl⟩ := own_any3 hW
  have hcar : Below w2.heap.size w2 w3 := hb
  have RL := Lib.hid (RL.out.on hcar)
  have HB := Lib.hid (bch HB.out hcar)
  clear hcar
  have RA : Hid (RdD w3 (.slice a1 n1 c1) (.slice a2 n2 c2) (ownD d)) := Lib.hid ⟨OwnI.rd hI, OwnO.rd hW⟩
  clear hI hW hb
  go_wp2_with fail
  refine (ops8_any ops _ w3 RL.out).mono ?_
  rintro e w4 ⟨lv, rfl, hL, hb⟩
  obtain ⟨a3, n3, c3, rfl⟩ := own_any3 hL
  have hcar : Below w3.heap.size w3 w4 := hb
  have RA := Lib.hid (RA.out.on hcar)
  have HB := Lib.hid (bch HB.out hcar)
  clear hcar
  have RU : Hid (RdO w4 (.slice a3 n3 c3) (ops.take 16)) := Lib.hid (OwnO.rd hL)
  clear hL hb
  go_wp2_with fail
  refine (runF_is (ownD d) _ _ (ops.take 16) _ true w4 RA.out HZ0.out RU.out (Nat.le_trans (List.length_take_le _ _) (by decide)) HSO.out (HT.out.on HB.out)).mono ?_
  rintro e w5 ⟨iv, wv, he, hI, hW, hb⟩
  rw [← HX.out] at he hI hW
  subst he
  obtain ⟨a4, n4, c4, rfl⟩ := own_any3 hI
  obtain ⟨a5, c5, h5⟩ := ownR_any hW
  have h5 : wv = .slice a5 x.1.wait.length c5 := h5
  subst h5
  obtain ⟨VA, hVA⟩ : ∃ z, z = (w5.alloc (.cells #[.slice none 0 0, .slice none 0 0, .int .i64 0] 27)).setRow w5.heap.size #[.slice a4 n4 c4, .slice a5 x.1.wait.length c5, .int .i64 x.1.room] := ⟨_, rfl⟩
  obtain ⟨bA, hbA⟩ : ∃ z, z = w5.heap.size := ⟨_, rfl⟩
  have hnA : Below w5.heap.size w5 VA := by rw [hVA]; exact below_row (below_new _ _) (Nat.le_refl _) _
  have XA : Hid (Box VA bA 27 #[.slice a4 n4 c4, .slice a5 x.1.wait.length c5, .int .i64 x.1.room]) := Lib.hid (by rw [hVA, hbA]; exact box_new.row _)
  have HVA := Lib.hid hVA
  have HWA := Lib.hid hbA
  have hcar : Below w4.heap.size w4 VA := bch hb hnA
  have HB := Lib.hid (bch HB.out hcar)
  clear hcar
  have RA : Hid (RdD VA (.slice a4 n4 c4) (.slice a5 x.1.wait.length c5) x.1) := Lib.hid (RdD.on ⟨OwnI.rd hI, OwnO.rd hW⟩ hnA)
  have p0 := XA.out.cell (k := 0) rfl
  have p1 := XA.out.cell (k := 1) rfl
  have p2 := XA.out.cell (k := 2) rfl
  clear hI hW hb hnA
  simp only
  clear hVA hbA
  go_wp2_with (first | (refine wpList_store_row rfl 27 (.tmp 7) (.tmp 28) rfl w5.heap.size #[.slice a4 n4 c4, .slice a5 x.1.wait.length c5, .int .i64 x.1.room] rfl rfl 27 #[.slice none 0 0, .slice none 0 0, .int .i64 0] box_new (info27 _ _ _) rfl (darr_one _ _ _ _ _ _ _) ?_; rw [← HVA.out, ← HWA.out]) | fail)
  clear p0 p1 p2
  refine (now_is x.1 _ _ VA RA.out HZ1.out (HT.out.on HB.out)).mono ?_
  rintro e w6 ⟨hb, hc⟩
  obtain ⟨v7, he, hI⟩ : ∃ v', e = .returned (.tuple #[.agg #[v'], .int .i64 0]) ∧ OwnI w6 VA.heap.size v' t := by
    rw [HN.out] at hc
    rcases hc with ⟨h, _⟩ | ⟨t, v', h, he, ho⟩
    · cases h
    · cases h; exact ⟨v', he, ho⟩
  subst he
  obtain ⟨a6, n6, c6, rfl⟩ := own_any3 hI
  obtain ⟨VB, hVB⟩ : ∃ z, z = (w6.alloc (.cells #[.slice none 0 0] 24)).setRow w6.heap.size #[.slice a6 n6 c6] := ⟨_, rfl⟩
  obtain ⟨bB, hbB⟩ : ∃ z, z = w6.heap.size := ⟨_, rfl⟩
  have hnB : Below w6.heap.size w6 VB := by rw [hVB]; exact below_row (below_new _ _) (Nat.le_refl _) _
  have XB : Hid (Box VB bB 24 #[.slice a6 n6 c6]) := Lib.hid (by rw [hVB, hbB]; exact box_new.row _)
  have HVB := Lib.hid hVB
  have HWB := Lib.hid hbB
  have hcar : Below VA.heap.size VA VB := bch hb hnB
  have XA := Lib.hid (XA.out.on hcar)
  have RA := Lib.hid (RA.out.on hcar)
  have HB := Lib.hid (bch HB.out hcar)
  clear hcar
  have RB : Hid (RdI VB (.slice a6 n6 c6) t) := Lib.hid (RdI.on (OwnI.rd hI) hnB)
  have p0 := XA.out.cell (k := 0) rfl
  have p1 := XA.out.cell (k := 1) rfl
  have p2 := XA.out.cell (k := 2) rfl
  clear hI hb hc hnB
  clear hVB hbB
  go_wp2_with (first | (refine wpList_store_row rfl 24 (.tmp 10) (.tmp 34) rfl w6.heap.size #[.slice a6 n6 c6] rfl rfl 24 #[.slice none 0 0] box_new (info24 _) rfl (slice_one _ _ _) ?_; rw [← HVB.out, ← HWB.out]) | fail)
  clear p0 p1 p2
  refine (sync_is x.1 _ _ VB RA.out HZ1.out (HT.out.on HB.out)).mono ?_
  rintro e w7 ⟨iv, wv, he, hI, hW, hb⟩
  rw [sync_some HN.out] at he hI hW
  have he : e = .returned (.tuple #[.agg #[iv, wv, .int .i64 x.1.room], .int .i64 0]) := he
  subst he
  obtain ⟨a7, n7, c7, rfl⟩ := own_any3 hI
  obtain ⟨a8, n8, c8, rfl⟩ := own_any3 hW
  obtain ⟨VC, hVC⟩ : ∃ z, z = (w7.alloc (.cells #[.slice none 0 0, .slice none 0 0, .int .i64 0] 27)).setRow w7.heap.size #[.slice a7 n7 c7, .slice a8 n8 c8, .int .i64 x.1.room] := ⟨_, rfl⟩
  obtain ⟨bC, hbC⟩ : ∃ z, z = w7.heap.size := ⟨_, rfl⟩
  have hnC : Below w7.heap.size w7 VC := by rw [hVC]; exact below_row (below_new _ _) (Nat.le_refl _) _
  have XC : Hid (Box VC bC 27 #[.slice a7 n7 c7, .slice a8 n8 c8, .int .i64 x.1.room]) := Lib.hid (by rw [hVC, hbC]; exact box_new.row _)
  have HVC := Lib.hid hVC
  have HWC := Lib.hid hbC
  have hcar : Below VB.heap.size VB VC := bch hb hnC
  have XA := Lib.hid (XA.out.on hcar)
  have RA := Lib.hid (RA.out.on hcar)
  have XB := Lib.hid (XB.out.on hcar)
  have RB := Lib.hid (RB.out.on hcar)
  have HB := Lib.hid (bch HB.out hcar)
  clear hcar
  have RC : Hid (RdD VC (.slice a7 n7 c7) (.slice a8 n8 c8) (synD x.1 t)) := Lib.hid (RdD.on ⟨OwnI.rd hI, OwnO.rd hW⟩ hnC)
  have p0 := XA.out.cell (k := 0) rfl
  have p1 := XA.out.cell (k := 1) rfl
  have p2 := XA.out.cell (k := 2) rfl
  clear hI hW hb hnC
  clear hVC hbC
  go_wp2_with (first | (refine wpList_store_row rfl 27 (.tmp 12) (.tmp 39) rfl w7.heap.size #[.slice a7 n7 c7, .slice a8 n8 c8, .int .i64 x.1.room] rfl rfl 27 #[.slice none 0 0, .slice none 0 0, .int .i64 0] box_new (info27 _ _ _) rfl (darr_one _ _ _ _ _ _ _) ?_; rw [← HVC.out, ← HWC.out]) | fail)
  clear p0 p1 p2
  refine (check_is x.1 _ _ VC RA.out HZ1.out (HT.out.on HB.out)).mono ?_
  rintro e w8 ⟨he, hb⟩
  rw [HN.out] at he
  have he : e = .returned (.int .i64 0) := he
  subst he
  have hcar : Below VC.heap.size VC w8 := hb
  have XA := Lib.hid (XA.out.on hcar)
  have RA := Lib.hid (RA.out.on hcar)
  have XB := Lib.hid (XB.out.on hcar)
  have RB := Lib.hid (RB.out.on hcar)
  have XC := Lib.hid (XC.out.on hcar)
  have RC := Lib.hid (RC.out.on hcar)
  have HB := Lib.hid (bch HB.out hcar)
  clear hcar
  have p0 := XC.out.cell (k := 0) rfl
  have p1 := XC.out.cell (k := 1) rfl
  have p2 := XC.out.cell (k := 2) rfl
  clear hb
  go_wp2_with fail
  clear p0 p1 p2
  refine (sync_is (synD x.1 t) _ _ w8 RC.out (syn_sz HN.out HZ1.out) (HT.out.on HB.out)).mono ?_
  rintro e w9 ⟨iv, wv, he, hI, hW, hb⟩
  rw [syn_syn HN.out] at he hI hW
  have he : e = .returned (.tuple #[.agg #[iv, wv, .int .i64 x.1.room], .int .i64 0]) := he
  subst he
  obtain ⟨a9, n9, c9, rfl⟩ := own_any3 hI
  obtain ⟨a10, n10, c10, rfl⟩ := own_any3 hW
  obtain ⟨VE, hVE⟩ : ∃ z, z = (w9.alloc (.cells #[.slice none 0 0, .slice none 0 0, .int .i64 0] 27)).setRow w9.heap.size #[.slice a9 n9 c9, .slice a10 n10 c10, .int .i64 x.1.room] := ⟨_, rfl⟩
  obtain ⟨bE, hbE⟩ : ∃ z, z = w9.heap.size := ⟨_, rfl⟩
  have hnE : Below w9.heap.size w9 VE := by rw [hVE]; exact below_row (below_new _ _) (Nat.le_refl _) _
  have XE : Hid (Box VE bE 27 #[.slice a9 n9 c9, .slice a10 n10 c10, .int .i64 x.1.room]) := Lib.hid (by rw [hVE, hbE]; exact box_new.row _)
  have HVE := Lib.hid hVE
  have HWE := Lib.hid hbE
  have hcar : Below w8.heap.size w8 VE := bch hb hnE
  have XA := Lib.hid (XA.out.on hcar)
  have RA := Lib.hid (RA.out.on hcar)
  have XB := Lib.hid (XB.out.on hcar)
  have RB := Lib.hid (RB.out.on hcar)
  have XC := Lib.hid (XC.out.on hcar)
  have RC := Lib.hid (RC.out.on hcar)
  have HB := Lib.hid (bch HB.out hcar)
  clear hcar
  have RE : Hid (RdD VE (.slice a9 n9 c9) (.slice a10 n10 c10) (synD x.1 t)) := Lib.hid (RdD.on ⟨OwnI.rd hI, OwnO.rd hW⟩ hnE)
  have p0 := XA.out.cell (k := 0) rfl
  have p1 := XA.out.cell (k := 1) rfl
  have p2 := XA.out.cell (k := 2) rfl
  clear hI hW hb hnE
  clear hVE hbE
  go_wp2_with (first | (refine wpList_store_row rfl 27 (.tmp 14) (.tmp 53) rfl w9.heap.size #[.slice a9 n9 c9, .slice a10 n10 c10, .int .i64 x.1.room] rfl rfl 27 #[.slice none 0 0, .slice none 0 0, .int .i64 0] box_new (info27 _ _ _) rfl (darr_one _ _ _ _ _ _ _) ?_; rw [← HVE.out, ← HWE.out]) | fail)
  try rw [hq]
  try (go_wp2_with fail)
  clear p0 p1 p2
  refine (crash_is x.1 _ _ x.1.wait.length q VE RA.out HZ1.out (Nat.le_refl _) HQ.out (HT.out.on HB.out)).mono ?_
  rintro e w10 ⟨iv, wv, he, hI, hW, hb⟩
  rw [crash_all HN.out] at he hI hW
  have he : e = .returned (.tuple #[.agg #[iv, wv, .int .i64 (-1)], .int .i64 0]) := he
  subst he
  obtain ⟨a11, n11, c11, rfl⟩ := own_any3 hI
  obtain ⟨a12, n12, c12, rfl⟩ := own_any3 hW
  obtain ⟨VF, hVF⟩ : ∃ z, z = (w10.alloc (.cells #[.slice none 0 0, .slice none 0 0, .int .i64 0] 27)).setRow w10.heap.size #[.slice a11 n11 c11, .slice a12 n12 c12, .int .i64 (-1)] := ⟨_, rfl⟩
  obtain ⟨bF, hbF⟩ : ∃ z, z = w10.heap.size := ⟨_, rfl⟩
  have hnF : Below w10.heap.size w10 VF := by rw [hVF]; exact below_row (below_new _ _) (Nat.le_refl _) _
  have XF : Hid (Box VF bF 27 #[.slice a11 n11 c11, .slice a12 n12 c12, .int .i64 (-1)]) := Lib.hid (by rw [hVF, hbF]; exact box_new.row _)
  have HVF := Lib.hid hVF
  have HWF := Lib.hid hbF
  have hcar : Below VE.heap.size VE VF := bch hb hnF
  have XA := Lib.hid (XA.out.on hcar)
  have RA := Lib.hid (RA.out.on hcar)
  have XB := Lib.hid (XB.out.on hcar)
  have RB := Lib.hid (RB.out.on hcar)
  have XC := Lib.hid (XC.out.on hcar)
  have RC := Lib.hid (RC.out.on hcar)
  have XE := Lib.hid (XE.out.on hcar)
  have RE := Lib.hid (RE.out.on hcar)
  have HB := Lib.hid (bch HB.out hcar)
  clear hcar
  have RF : Hid (RdI VF (.slice a11 n11 c11) t) := Lib.hid (RdI.on (OwnI.rd hI) hnF)
  have p0 := XC.out.cell (k := 0) rfl
  have p1 := XC.out.cell (k := 1) rfl
  have p2 := XC.out.cell (k := 2) rfl
  clear hI hW hb hnF
  clear hVF hbF
  go_wp2_with (first | (refine wpList_store_row rfl 27 (.tmp 16) (.tmp 66) rfl w10.heap.size #[.slice a11 n11 c11, .slice a12 n12 c12, .int .i64 (-1)] rfl rfl 27 #[.slice none 0 0, .slice none 0 0, .int .i64 0] box_new (info27 _ _ _) rfl (darr_one _ _ _ _ _ _ _) ?_; rw [← HVF.out, ← HWF.out]) | fail)
  clear p0 p1 p2
  refine (crash_is (synD x.1 t) _ _ 0 q VF RC.out (syn_sz HN.out HZ1.out) (Nat.zero_le _) HQ.out (HT.out.on HB.out)).mono ?_
  rintro e w11 ⟨iv, wv, he, hI, hW, hb⟩
  rw [crash_syn HN.out] at he hI hW
  have he : e = .returned (.tuple #[.agg #[iv, wv, .int .i64 (-1)], .int .i64 0]) := he
  subst he
  obtain ⟨a13, n13, c13, rfl⟩ := own_any3 hI
  obtain ⟨a14, n14, c14, rfl⟩ := own_any3 hW
  obtain ⟨VG, hVG⟩ : ∃ z, z = (w11.alloc (.cells #[.slice none 0 0, .slice none 0 0, .int .i64 0] 27)).setRow w11.heap.size #[.slice a13 n13 c13, .slice a14 n14 c14, .int .i64 (-1)] := ⟨_, rfl⟩
  obtain ⟨bG, hbG⟩ : ∃ z, z = w11.heap.size := ⟨_, rfl⟩
  have hnG : Below w11.heap.size w11 VG := by rw [hVG]; exact below_row (below_new _ _) (Nat.le_refl _) _
  have XG : Hid (Box VG bG 27 #[.slice a13 n13 c13, .slice a14 n14 c14, .int .i64 (-1)]) := Lib.hid (by rw [hVG, hbG]; exact box_new.row _)
  have HVG := Lib.hid hVG
  have HWG := Lib.hid hbG
  have hcar : Below VF.heap.size VF VG := bch hb hnG
  have XA := Lib.hid (XA.out.on hcar)
  have RA := Lib.hid (RA.out.on hcar)
  have XB := Lib.hid (XB.out.on hcar)
  have RB := Lib.hid (RB.out.on hcar)
  have XC := Lib.hid (XC.out.on hcar)
  have RC := Lib.hid (RC.out.on hcar)
  have XE := Lib.hid (XE.out.on hcar)
  have RE := Lib.hid (RE.out.on hcar)
  have XF := Lib.hid (XF.out.on hcar)
  have RF := Lib.hid (RF.out.on hcar)
  have HB := Lib.hid (bch HB.out hcar)
  clear hcar
  have RG : Hid (RdI VG (.slice a13 n13 c13) t) := Lib.hid (RdI.on (OwnI.rd hI) hnG)
  have p0 := XE.out.cell (k := 0) rfl
  have p1 := XE.out.cell (k := 1) rfl
  have p2 := XE.out.cell (k := 2) rfl
  have p3 := XC.out.cell (k := 0) rfl
  have p4 := XC.out.cell (k := 1) rfl
  have p5 := XC.out.cell (k := 2) rfl
  clear hI hW hb hnG
  clear hVG hbG
  go_wp2_with (first | (refine wpList_store_row rfl 27 (.tmp 18) (.tmp 72) rfl w11.heap.size #[.slice a13 n13 c13, .slice a14 n14 c14, .int .i64 (-1)] rfl rfl 27 #[.slice none 0 0, .slice none 0 0, .int .i64 0] box_new (info27 _ _ _) rfl (darr_one _ _ _ _ _ _ _) ?_; rw [← HVG.out, ← HWG.out]) | fail)
  clear p0 p1 p2 p3 p4 p5
  refine (sameD_yes (synD x.1 t) _ _ _ _ VG RE.out RC.out).mono ?_
  rintro e w12 ⟨rfl, hb⟩
  have hcar : Below VG.heap.size VG w12 := hb
  have XA := Lib.hid (XA.out.on hcar)
  have RA := Lib.hid (RA.out.on hcar)
  have XB := Lib.hid (XB.out.on hcar)
  have RB := Lib.hid (RB.out.on hcar)
  have XC := Lib.hid (XC.out.on hcar)
  have RC := Lib.hid (RC.out.on hcar)
  have XE := Lib.hid (XE.out.on hcar)
  have RE := Lib.hid (RE.out.on hcar)
  have XF := Lib.hid (XF.out.on hcar)
  have RF := Lib.hid (RF.out.on hcar)
  have XG := Lib.hid (XG.out.on hcar)
  have RG := Lib.hid (RG.out.on hcar)
  have HB := Lib.hid (bch HB.out hcar)
  clear hcar
  have p0 := XC.out.cell (k := 2) rfl
  have p1 := XA.out.cell (k := 2) rfl
  have p2 := XC.out.cell (k := 0) rfl
  have p3 := XB.out.cell (k := 0) rfl
  clear hb
  go_wp2_with fail
  clear p0 p1 p2 p3
  refine (same_any t t _ _ w12 (RC.out.items) RB.out).mono ?_
  rintro e w13 ⟨he, hb⟩
  rw [decide_eq_true (rfl : t = t)] at he
  subst he
  have hcar : Below w12.heap.size w12 w13 := hb
  have XA := Lib.hid (XA.out.on hcar)
  have RA := Lib.hid (RA.out.on hcar)
  have XB := Lib.hid (XB.out.on hcar)
  have RB := Lib.hid (RB.out.on hcar)
  have XC := Lib.hid (XC.out.on hcar)
  have RC := Lib.hid (RC.out.on hcar)
  have XE := Lib.hid (XE.out.on hcar)
  have RE := Lib.hid (RE.out.on hcar)
  have XF := Lib.hid (XF.out.on hcar)
  have RF := Lib.hid (RF.out.on hcar)
  have XG := Lib.hid (XG.out.on hcar)
  have RG := Lib.hid (RG.out.on hcar)
  have HB := Lib.hid (bch HB.out hcar)
  clear hcar
  clear hb
  have p2 := XF.out.cell (k := 0) rfl
  have p3 := XB.out.cell (k := 0) rfl
  go_wp2_with fail
  clear p2 p3
  refine (same_any t t _ _ w13 (RF.out) RB.out).mono ?_
  rintro e w14 ⟨he, hb⟩
  rw [decide_eq_true (rfl : t = t)] at he
  subst he
  have hcar : Below w13.heap.size w13 w14 := hb
  have XA := Lib.hid (XA.out.on hcar)
  have RA := Lib.hid (RA.out.on hcar)
  have XB := Lib.hid (XB.out.on hcar)
  have RB := Lib.hid (RB.out.on hcar)
  have XC := Lib.hid (XC.out.on hcar)
  have RC := Lib.hid (RC.out.on hcar)
  have XE := Lib.hid (XE.out.on hcar)
  have RE := Lib.hid (RE.out.on hcar)
  have XF := Lib.hid (XF.out.on hcar)
  have RF := Lib.hid (RF.out.on hcar)
  have XG := Lib.hid (XG.out.on hcar)
  have RG := Lib.hid (RG.out.on hcar)
  have HB := Lib.hid (bch HB.out hcar)
  clear hcar
  clear hb
  have p2 := XG.out.cell (k := 0) rfl
  have p3 := XB.out.cell (k := 0) rfl
  go_wp2_with fail
  clear p2 p3
  refine (same_any t t _ _ w14 (RG.out) RB.out).mono ?_
  rintro e w15 ⟨he, hb⟩
  rw [decide_eq_true (rfl : t = t)] at he
  subst he
  have hcar : Below w14.heap.size w14 w15 := hb
  have XA := Lib.hid (XA.out.on hcar)
  have RA := Lib.hid (RA.out.on hcar)
  have XB := Lib.hid (XB.out.on hcar)
  have RB := Lib.hid (RB.out.on hcar)
  have XC := Lib.hid (XC.out.on hcar)
  have RC := Lib.hid (RC.out.on hcar)
  have XE := Lib.hid (XE.out.on hcar)
  have RE := Lib.hid (RE.out.on hcar)
  have XF := Lib.hid (XF.out.on hcar)
  have RF := Lib.hid (RF.out.on hcar)
  have XG := Lib.hid (XG.out.on hcar)
  have RG := Lib.hid (RG.out.on hcar)
  have HB := Lib.hid (bch HB.out hcar)
  clear hcar
  clear hb
  go_wp2_with fail
  go_ret
  exact ⟨rfl, HB.out⟩
end Go.Proofs.YtigopecainocgaaGreatDoor

namespace Go.Proofs.YtigopecainocgaaGreatDoor.DiskSafeP
open Go.ChangeShapes Go.WideShapes Go.ChangeAt Go.RowKit Go.Joins Go.Deep
open Go.ChangeMaps (open_string shut_string)

theorem met (os : Os) : laidMet Tryz.prog Rows.diskSafeRow.laid ((laidWorld os).forCall (fun _ _ => 0) ⟨#[], #[zeroDisk, .slice none 0 0, .int .i64 0], []⟩).memory :=
  laid_met os _
theorem reads (os : Os) {H : Type} (enc : TypeId × Value → H) : ∃ places, DataW.whole enc Tryz.prog ((laidWorld os).forCall (fun _ _ => 0) ⟨#[], #[zeroDisk, .slice none 0 0, .int .i64 0], []⟩).memory Tryz.f5.params.toList Rows.diskSafeSpec.vars false #[zeroDisk, Value.slice none 0 0, Value.int .i64 0].toList 8 = some ([zeroDiskD, .nil, .lit (.int .i64 0)], [], places) :=
  ⟨[], by kernel_rfl⟩

set_option maxRecDepth 100000 in
theorem lifted (os : Os) (started : os.Started) (H : Type) (enc : TypeId × Value → H) (F : Stop.Interp) :
    ReturnsInHanded {} Tryz.checked os 5 .any ((OpenSpec.ofChange Rows.diskSafeSpec).preRow enc Tryz.prog Tryz.f5 Rows.diskSafeRow.domain false Rows.diskSafeRow.laid) (((OpenSpec.ofChange Rows.diskSafeSpec).at F).post enc Tryz.prog Tryz.f5 false true false false) := by
  obtain ⟨places, hx⟩ := reads os enc
  refine returnsInHanded_of_row (C := Tryz.checked) (s := OpenSpec.ofChange Rows.diskSafeSpec) own0 started (by kernel_rfl) Tryz.func5
    (witness_row_at (enc := enc) (C := Tryz.checked) false (laidWorld os) #[zeroDisk, .slice none 0 0, .int .i64 0] rfl (by kernel_rfl) (by kernel_rfl) (by kernel_rfl)
      (OpenSpec.preRow_of_cond 8 hx (by kernel_rfl) (fun k hk => by cases hk) (by kernel_rfl) (met os))) ?_
  intro W base args ds gs before hval0 hW _ _ hsz0 hL hsh _
  have hval : ∀ (j : Nat) t v, Tryz.f5.params[j]? = some t → args[j]? = some v → Value.okWide Tryz.prog W .any base t v := hval0
  have hsz : (DataW.weightsEach Tryz.prog (Tryz.f5.params.toList ++ Rows.diskSafeSpec.plain.varTypes Tryz.prog) (ds ++ gs)).all (· ≤ reachBytes) = true := hsz0
  clear hsz0
  have hW' := hW
  obtain ⟨p, q, hA0, hV, rfl, hfz, hnd⟩ := hW
  have hA : DataW.TrodAll enc Tryz.prog W 0 (fun _ => true) true Tryz.f5.params.toList args.toList ds p := hA0
  rw [Tryz.params5] at hA hval hsz
  obtain ⟨v0, vs0, d0, ds0, p0, q0, hargs, rfl, rfl, h0, r0⟩ := trodAll_cons hA
  obtain ⟨v1, vs1, d1, ds1, p1, q1, rfl, rfl, rfl, h1, r1⟩ := trodAll_cons r0
  obtain ⟨v2, vs2, d2, ds2, p2, q2, rfl, rfl, rfl, h2, r2⟩ := trodAll_cons r1
  obtain ⟨rfl, rfl, rfl⟩ := trodAll_nil r2
  obtain rfl : args = #[v0, v1, v2] := by cases args; simp_all
  obtain ⟨rfl, rfl⟩ := trodVars_none hV
  obtain ⟨cs0, rfl⟩ := okWide_disk (hval 0 27 v0 rfl rfl)
  obtain ⟨a1, n1, c1, rfl⟩ := okWide_slice Tryz.underlying25 (hval 1 25 v1 rfl rfl)
  have h0k := h0
  obtain ⟨fuel0, hf0⟩ := h0
  have h1k := h1
  obtain ⟨fuel1, hf1⟩ := h1
  obtain ⟨a2, rfl, rfl, rfl, w2⟩ := open_int Tryz.underlying3 (hval 2 3 v2 rfl rfl) h2
  clear hA0 hval0
  simp only [List.append_nil] at hW'
  have hlt0 : ∀ x ∈ p0, x.block < W.heap.size := fun x hx => by simpa using hW'.lt x (by simp [hx])
  have hlt1 : ∀ x ∈ p1, x.block < W.heap.size := fun x hx => by simpa using hW'.lt x (by simp [hx])
  obtain ⟨iv0, wv0, k0, rfl, hr0, hm0, hi0, ho0⟩ := argD_of (by simpa [Value.cells] using hf0) hlt0
  have hz0 : SzD k0 := ⟨fun y hy => reach_len (by simpa using List.all_eq_true.1 hsz _ (DataW.weights_mem_each (j := 0) (t := 27) rfl rfl _ (hi0 y hy))), fun y hy => ⟨reach_len (by simpa using List.all_eq_true.1 hsz _ (DataW.weights_mem_each (j := 0) (t := 27) rfl rfl _ (ho0 y hy).1)), reach_len (by simpa using List.all_eq_true.1 hsz _ (DataW.weights_mem_each (j := 0) (t := 27) rfl rfl _ (ho0 y hy).2))⟩, hm0⟩
  obtain ⟨l1, hr1, hw1'⟩ := argO_of (by simpa [Value.cells] using hf1) hlt1
  have hw1 : ∀ y ∈ l1, y.path.length ≤ 140737488355328 ∧ y.to.length ≤ 140737488355328 := fun y hy => ⟨reach_len (by simpa using List.all_eq_true.1 hsz _ (DataW.weights_mem_each (j := 1) (t := 25) rfl rfl _ (hw1' y hy).1)), reach_len (by simpa using List.all_eq_true.1 hsz _ (DataW.weights_mem_each (j := 1) (t := 25) rfl rfl _ (hw1' y hy).2))⟩
  refine (safe5_any k0 iv0 wv0 _ l1 _ W hr0 hr1 hz0 hw1 (tabs hL hsh)).mono fun e W' ⟨he, hb⟩ => ?_
  subst he
  exact ⟨_, rfl, _, _, _, [], _, [], hW', (trodAll_cons_mk (shut_bool Tryz.underlying4 _) trodAll_mk0), (trodAll_cons_mk (Below.trod laidOut (by kernel_rfl) (of_decide_eq_true (by kernel_rfl)) h0k hb hlt0) (trodAll_cons_mk (Below.trod laidOut (by kernel_rfl) (of_decide_eq_true (by kernel_rfl)) h1k hb hlt1) (trodAll_cons_mk (shut_int Tryz.underlying3 w2) trodAll_mk0))), rfl, hb.frame _, fun h => by cases h⟩

theorem said : Rows.DiskSafeSaid :=
  OpenClaim.holds_of_cond 5 Tryz.f5 rfl rfl rfl rfl rfl rfl rfl ⟨rfl, rfl, rfl, rfl, rfl⟩ rfl rfl rfl rfl rfl (by kernel_rfl) Tryz.func5 (by kernel_rfl)
    (of_decide_eq_true (by kernel_rfl)) (by unfold Func.isWrapper; first | (rw [if_pos (by decide +kernel)]; kernel_rfl) | (rw [if_neg (by decide +kernel)]; exact ⟨rfl, rfl⟩))
    (fun os started H enc _ F => by rw [OpenClaim.pre_eq_preRow]; exact lifted os started H enc F)

/-- No parameter wants a stand-in; the program's own looks are off: what the card asks. -/
theorem plain (f : FuncId) (fn : Func) (hf : Tryz.pinned.checked.prog.funcNamed "puncheon/puncheonlaw08.DiskSafe" = some f) (hfn : Tryz.pinned.checked.prog.funcs[f]? = some fn) :
    false = Tryz.pinned.checked.prog.looks [] ∧ ∀ (j : Nat) t, fn.params[j]? = some t → Tryz.pinned.checked.prog.wantsStandIn t = false := by
  obtain rfl : f = 5 := Option.some.inj ((show Tryz.prog.funcNamed "puncheon/puncheonlaw08.DiskSafe" = some 5 by kernel_rfl).symm.trans hf) |>.symm
  obtain rfl : fn = Tryz.f5 := (Option.some.inj (Tryz.func5.symm.trans hfn)).symm
  refine ⟨by kernel_rfl, fun j t ht => ?_⟩
  rw [Tryz.params5] at ht
  have hm : t ∈ [27, 25, 3] := by simpa using Array.mem_of_getElem? ht
  have hall : ([27, 25, 3].all fun u => !Tryz.prog.wantsStandIn u) = true := by kernel_rfl
  exact (show Tryz.prog.wantsStandIn t = false by simpa using List.all_eq_true.1 hall t hm)
end Go.Proofs.YtigopecainocgaaGreatDoor.DiskSafeP
namespace Go.Proofs.YtigopecainocgaaGreatDoor
theorem diskSafe_card : Rows.DiskSafeCardSaid :=
  Claim7.holds_tied_plain_at .later [] _ _ _ _ DiskSafeP.said (fun _ h => by cases h) (by kernel_rfl) (fun _ h => by cases h) diskSafe_row_tie rfl ⟨rfl, rfl⟩ (by kernel_rfl) rfl DiskSafeP.plain (by kernel_rfl)
#print axioms diskSafe_card
end Go.Proofs.YtigopecainocgaaGreatDoor
