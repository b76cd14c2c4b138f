/- Proved here: Do of puncheonref06: what an operation makes of a tree that may be. -/
import Derived.Test.YtigopecainocgaaGreatDoorRDoo1245
set_option maxRecDepth 100000
set_option maxHeartbeats 32000000
namespace Go.Proofs.YtigopecainocgaaGreatDoor
open Go.RowKit Go.Shelf
theorem rdo_k7 (l : List It) (v : Value) (o : Opn) (w : World) (hv : RdI w v l) (h : TreeOk l) (hks : o.kind = 7) (hso : o.path.length ≤ 2000000 ∧ o.to.length ≤ 2000000) (r : Except Int (List It)) (hr : doR l o = r) :
  Calls Tryz.prog 52 #[.agg #[v],.agg #[.int .i64 o.kind,.string ⟨o.path.toArray⟩,.string ⟨o.to.toArray⟩,.string ⟨o.data.toArray⟩]] w (TreeE r w):=by
 have hl:=h.many
 have hsz : ∀ y ∈ l,y.path.length ≤ 2000000:=fun y hy => valid_small (h.kid y hy).1.1
 obtain ⟨w1,hw1⟩:=nmq (((w.alloc (.cells #[v] 24)).alloc (.cells #[.int .i64 o.kind,.string ⟨o.path.toArray⟩,.string ⟨o.to.toArray⟩,.string ⟨o.data.toArray⟩] 46)).alloc (.cells #[.slice none 0 0] 24))
 obtain ⟨b2,hb2⟩:=nmq (w.heap.size)
 have X2 : Hid (Box w1 b2 24 #[v]):=hyq (by rw [hw1,hb2]; exact (box_new.alloc _).alloc _)
 have X3 : Hid (Box w1 (b2 + 1) 46 o.arr):=hyq (by rw [hw1,hb2,show w.heap.size + 1 = (w.alloc (.cells #[v] 24)).heap.size from by simp]; exact box_new.alloc _)
 have X4 : Hid (Box w1 (b2 + 1 + 1) 24 #[.slice none 0 0]):=hyq (by rw [hw1,hb2,show w.heap.size + 1 + 1 = ((w.alloc (.cells #[v] 24)).alloc (.cells #[.int .i64 o.kind,.string ⟨o.path.toArray⟩,.string ⟨o.to.toArray⟩,.string ⟨o.data.toArray⟩] 46)).heap.size from by simp]; exact box_new)
 have HB : Hid (Below w.heap.size w w1):=hyq (by rw [hw1]; exact bch (bch (below_new _ _) (below_new _ _)) (below_new _ _))
 have H4 : Hid (w.heap.size ≤ b2 + 1 + 1):=hyq (by omega)
 have HV:=hyq (hv.on HB.out)
 have HOK:=hyq h
 have HSZ:=hyq hsz
 have HSO:=hyq hso
 have HKS:=hyq hks
 have HRR:=hyq hr
 obtain ⟨ck,hck⟩:=nmq (checkR o)
 obtain ⟨y,hy⟩:=nmq ((getI l o.path).getD .nil)
 obtain ⟨b,hb⟩:=nmq ((getI l o.path).isSome)
 have HCK : Hid (Calls Tryz.prog 72 #[.agg #[.int .i64 o.kind,.string ⟨o.path.toArray⟩,.string ⟨o.to.toArray⟩,.string ⟨o.data.toArray⟩]] w1 fun e w' => e = .returned (.int .i64 ck) ∧ Below w1.heap.size w1 w'):=hyq (by rw [hck]; exact rcheck_any o hso.1 hso.2 w1)
 have HG : Hid (∀ W,Below w1.heap.size w1 W → Calls Tryz.prog 73 #[.agg #[v],.string ⟨o.path.toArray⟩] W fun e w' => e = .returned (.tuple #[.agg #[.string ⟨y.path.toArray⟩,.int .i64 y.kind,.string ⟨y.data.toArray⟩],.bool b]) ∧ Below W.heap.size W w'):=hyq (fun W hW => rget_is l v o.path W (HV.out.on hW) (by omega) y b hy hb)
 have HCX:=hyq hck
 have HY:=hyq hy
 have HBB:=hyq hb
 have HL:=hyq hl
 obtain ⟨a,c,rfl,_⟩:=hv.open
 obtain ⟨n,hn⟩:=nmq (l.length)
 rw [← hn] at HV X2 HG hw1 ⊢
 have k0:=b24
 have HBE:=hyq hb2
 have hHB:=HB.out.size
 have hX4lt:=X4.out.lt
 clear hks hv h hr hck hy hb hn hb2 hl hsz hso
 have m0 : w1.cell? ⟨b2 + 1,0,none⟩ = some (.int .i64 o.kind):=X3.out.cell (k:=0) rfl
 have m1 : w1.cell? ⟨b2 + 1,1,none⟩ = some (.string ⟨o.path.toArray⟩):=X3.out.cell (k:=1) rfl
 have m2 : w1.cell? ⟨b2 + 1,2,none⟩ = some (.string ⟨o.to.toArray⟩):=X3.out.cell (k:=2) rfl
 have m3 : w1.cell? ⟨b2 + 1,3,none⟩ = some (.string ⟨o.data.toArray⟩):=X3.out.cell (k:=3) rfl
 go_enter Tryz.func52,Tryz.ntmps52
 go_upto_region 1 with fail
 rw [← HBE.out,← hw1]
 clear hw1
 go_wp2_with fail
 clear m0 m1 m2 m3
 refine (HCK.out).mono ?_
 rintro e w2 ⟨rfl,hb⟩
 have HA:=hyq hb
 have hA9:=hb.size
 have hcar : Below w1.heap.size w1 w2:=hb
 have X2:=hyq (X2.out.on hcar)
 have X3:=hyq (X3.out.on hcar)
 have X4:=hyq (X4.out.on hcar)
 have HB:=hyq (bch HB.out hcar)
 clear hcar
 clear hb HCK
 by_cases he : ck = 0
 ·subst he
  have HC0 : Hid (checkR o = 0):=hyq HCX.out.symm
  have HOKC : Hid (ChkOk o):=hyq (chk_ok (by rw [← chkr_is]; exact HC0.out))
  have p0:=X2.out.cell (k:=0) rfl
  have m1 : w2.cell? ⟨b2 + 1,1,none⟩ = some (.string ⟨o.path.toArray⟩):=X3.out.cell (k:=1) rfl
  go_wp2_with fail
  clear p0 m1
  refine ((HG.out w2 HA.out)).mono ?_
  rintro e w3 ⟨rfl,hb⟩
  obtain ⟨VE,hVE⟩:=nmq ((w3.alloc (.cells #[.string ⟨#[]⟩,.int .i64 0,.string ⟨#[]⟩] 59)).setRow w3.heap.size #[.string ⟨y.path.toArray⟩,.int .i64 y.kind,.string ⟨y.data.toArray⟩])
  obtain ⟨bE,hbE⟩:=nmq (w3.heap.size)
  have hnE : Below w3.heap.size w3 VE:=by rw [hVE]; exact below_row (below_new _ _) (Nat.le_refl _) _
  have XE : Hid (Box VE bE 59 #[.string ⟨y.path.toArray⟩,.int .i64 y.kind,.string ⟨y.data.toArray⟩]):=hyq (by rw [hVE,hbE]; exact box_new.row _)
  have HVE:=hyq hVE
  have HWE:=hyq hbE
  have hcar : Below w2.heap.size w2 VE:=bch hb hnE
  have X2:=hyq (X2.out.on hcar)
  have X3:=hyq (X3.out.on hcar)
  have X4:=hyq (X4.out.on hcar)
  have HB:=hyq (bch HB.out hcar)
  clear hcar
  have HEB0 : Hid (w.heap.size ≤ bE):=hyq (by rw [hbE]; exact Nat.le_trans (Nat.le_trans hHB hA9) hb.size)
  have HEB10 : Hid (w1.heap.size ≤ bE):=hyq (by rw [hbE]; exact Nat.le_trans hA9 hb.size)
  have HAE:=hyq (bch HA.out (bch hb hnE))
  clear hb hnE HG HA HCX
  have hkk : o.kind = 1 ∨ o.kind = 2 ∨ o.kind = 3 ∨ o.kind = 4 ∨ o.kind = 5 ∨ o.kind = 6 ∨ o.kind = 7:=by have:=HOKC.out.kind; omega
  have HEB : Hid (w.heap.size ≤ bE):=hyq HEB0.out
  have HEB1 : Hid (w1.heap.size ≤ bE):=hyq HEB10.out
  have HRV : Hid (RdI VE (.slice a n c) l):=hyq (HV.out.on HAE.out)
  have m0 : VE.cell? ⟨b2 + 1,0,none⟩ = some (.int .i64 o.kind):=X3.out.cell (k:=0) rfl
  have m1 : VE.cell? ⟨b2 + 1,1,none⟩ = some (.string ⟨o.path.toArray⟩):=X3.out.cell (k:=1) rfl
  have m2 : VE.cell? ⟨b2 + 1,2,none⟩ = some (.string ⟨o.to.toArray⟩):=X3.out.cell (k:=2) rfl
  have m3 : VE.cell? ⟨b2 + 1,3,none⟩ = some (.string ⟨o.data.toArray⟩):=X3.out.cell (k:=3) rfl
  have p0:=X2.out.cell (k:=0) rfl
  clear hVE hbE
  rcases hkk with hk | hk | hk | hk | hk | hk | hk
  ·exact absurd hk (by have:=HKS.out; omega)
  ·exact absurd hk (by have:=HKS.out; omega)
  ·exact absurd hk (by have:=HKS.out; omega)
  ·exact absurd hk (by have:=HKS.out; omega)
  ·exact absurd hk (by have:=HKS.out; omega)
  ·exact absurd hk (by have:=HKS.out; omega)
  ·have HR0:=hyq (do_rest HRR.out HC0.out (by omega) HY.out HBB.out)
   rw [hk] at m0
   have HK:=hyq hk
   clear hk
   cases b with
   | false =>
    have HD : Hid (r = .error 4):=hyq (by rw [HR0.out]; rfl)
    go_wp2_with (first | (refine wpList_store_row rfl 59 (.tmp 7) (.tmp 20) rfl w3.heap.size #[.string ⟨y.path.toArray⟩,.int .i64 y.kind,.string ⟨y.data.toArray⟩] rfl rfl 59 #[.string ⟨#[]⟩,.int .i64 0,.string ⟨#[]⟩] box_new info59r rfl (by simp [Value.oneCell']) ?_; rw [← HVE.out,← HWE.out]) | (refine wpList_store_row rfl 24 (.tmp 4) (.tmp 68) rfl (b2 + 1 + 1) #[.slice none 0 0] rfl rfl 24 _ X4.out (info24 _) rfl (slice_one _ _ _) ?_) | fail)
    exact bodyPost_ret (end_tree2 rfl _ (X4.out.row _) rfl rfl) rfl ⟨below_row HB.out H4.out _,.inl ⟨_,HD.out,rfl⟩⟩
   | true =>
    have e1:=XE.out.cell (k:=1) rfl
    have HR1:=hyq (HR0.out.trans (if_neg (by simp)))
    by_cases hk1 : y.kind = 1
    ·have t1 : (y.kind == 1) = true:=by simp [hk1]
     have t1' : (y.kind != 1) = false:=by simp [hk1]
     have HR2 : Hid (r = if o.path = [47] ∨ belowR l o.path ≠ [] then .error 162 else .ok (withoutR l o.path)):=hyq (by rw [HR1.out,HK.out,if_neg (by simp [hk1])]; simp)
     rw [hk1] at e1
     clear hk1
     by_cases h47 : o.path = [47]
     ·have s1 : (o.path == [47]) = true:=by simp [h47]
      have HD : Hid (r = .error 162):=hyq (by rw [HR2.out,if_pos (.inl h47)])
      clear h47
      go_upto_region 14 with (first | (refine wpList_store_row rfl 59 (.tmp 7) (.tmp 20) rfl w3.heap.size #[.string ⟨y.path.toArray⟩,.int .i64 y.kind,.string ⟨y.data.toArray⟩] rfl rfl 59 #[.string ⟨#[]⟩,.int .i64 0,.string ⟨#[]⟩] box_new info59r rfl (by simp [Value.oneCell']) ?_; rw [← HVE.out,← HWE.out]) | fail)
      go_upto_region 18 with fail
      go_upto_region 20 with fail
      go_wp2_with (first | (refine wpList_store_row rfl 24 (.tmp 4) (.tmp 112) rfl (b2 + 1 + 1) #[.slice none 0 0] rfl rfl 24 _ X4.out (info24 _) rfl (slice_one _ _ _) ?_) | fail)
      exact bodyPost_ret (end_tree2 rfl _ (X4.out.row _) rfl rfl) rfl ⟨below_row HB.out H4.out _,.inl ⟨_,HD.out,rfl⟩⟩
     ·have s1 : (o.path == [47]) = false:=by simp [h47]
      have H47:=hyq h47
      clear h47
      have HBE9 : Hid (Calls Tryz.prog 76 #[.agg #[.slice a n c],.string ⟨o.path.toArray⟩] VE fun e w' => ∃ v',e = .returned (v') ∧ OwnI w' VE.heap.size v' (belowR l o.path) ∧ Below VE.heap.size VE w'):=hyq (rbelow_any l (.slice a n c) ⟨o.path.toArray⟩ VE HRV.out (by have:=HL.out; omega) HSZ.out HSO.out.1)
      go_upto_region 14 with (first | (refine wpList_store_row rfl 59 (.tmp 7) (.tmp 20) rfl w3.heap.size #[.string ⟨y.path.toArray⟩,.int .i64 y.kind,.string ⟨y.data.toArray⟩] rfl rfl 59 #[.string ⟨#[]⟩,.int .i64 0,.string ⟨#[]⟩] box_new info59r rfl (by simp [Value.oneCell']) ?_; rw [← HVE.out,← HWE.out]) | fail)
      go_upto_region 18 with fail
      go_upto_region 20 with fail
      go_wp2_with fail
      refine HBE9.out.mono ?_
      rintro e w6 ⟨v6,rfl,ho,hb⟩
      obtain ⟨a6,c6,rfl,_,_⟩:=own_slice ho
      obtain ⟨m6,hm6⟩:=nmq ((belowR l o.path).length)
      rw [← hm6]
      have HM6:=hyq hm6
      have HVE6:=hyq (HRV.out.on hb)
      replace X2:=hyq (X2.out.on hb)
      replace X3:=hyq (X3.out.on hb)
      replace X4:=hyq (X4.out.on hb)
      replace HB:=hyq (bch HB.out hb)
      clear hm6 ho hb HBE9 m0 m1 m2 m3 p0 e1
      have m0 : w6.cell? ⟨b2 + 1,0,none⟩ = some (.int .i64 7):=by rw [← HK.out]; exact X3.out.cell (k:=0) rfl
      have m1 : w6.cell? ⟨b2 + 1,1,none⟩ = some (.string ⟨o.path.toArray⟩):=X3.out.cell (k:=1) rfl
      have p0:=X2.out.cell (k:=0) rfl
      by_cases h0 : m6 = 0
      ·have g1 : decide ((m6 : Int) > 0) = false:=decide_eq_false (by omega)
       have g2 : ¬ 0 < m6:=by omega
       have HD : Hid (r = .ok (withoutR l o.path)):=hyq (by
        have e : belowR l o.path = []:=List.length_eq_zero_iff.1 (by rw [← HM6.out]; exact h0)
        rw [HR2.out,if_neg (by rintro (e2 | e2); exact H47.out e2; exact e2 e)])
       clear h0
       have HW : Hid (Calls Tryz.prog 78 #[.agg #[.slice a n c],.string ⟨o.path.toArray⟩] w6 fun e w' => ∃ v',e = .returned (.agg #[v']) ∧ OwnI w' w6.heap.size v' (withoutR l o.path) ∧ Below w6.heap.size w6 w'):=hyq (rwithout_any l (.slice a n c) ⟨o.path.toArray⟩ w6 (HVE6.out) (by have:=HL.out; omega))
       go_wp2_with fail
       refine HW.out.mono ?_
       rintro e w5 ⟨v5,rfl,ho,hb⟩
       obtain ⟨a5,n5,c5,rfl⟩:=own_any ho
       have HO:=hyq ho
       have HB5:=hyq HB.out.size
       replace X4:=hyq (X4.out.on hb)
       replace HB:=hyq (bch HB.out hb)
       clear ho hb
       go_wp2_with (first | (refine wpList_store_row rfl 24 (.tmp 4) (.tmp 144) rfl (b2 + 1 + 1) #[.slice a5 n5 c5] rfl rfl 24 _ X4.out (info24 _) rfl (slice_one _ _ _) ?_) | fail)
       exact bodyPost_ret (end_tree2 rfl _ (X4.out.row _) rfl rfl) rfl ⟨below_row HB.out H4.out _,.inr ⟨_,_,HD.out,rfl,own_base (own_row HO.out X4.out) HB5.out⟩⟩
      ·have g1 : decide ((m6 : Int) > 0) = true:=decide_eq_true (by omega)
       have g2 : 0 < m6:=by omega
       have HD : Hid (r = .error 162):=hyq (by
        have e : belowR l o.path ≠ []:=fun e => h0 (by rw [HM6.out,e]; rfl)
        rw [HR2.out,if_pos (.inr e)])
       clear h0
       go_wp2_with (first | (refine wpList_store_row rfl 24 (.tmp 4) (.tmp 112) rfl (b2 + 1 + 1) #[.slice none 0 0] rfl rfl 24 _ X4.out (info24 _) rfl (slice_one _ _ _) ?_) | fail)
       exact bodyPost_ret (end_tree2 rfl _ (X4.out.row _) rfl rfl) rfl ⟨below_row HB.out H4.out _,.inl ⟨_,HD.out,rfl⟩⟩
    ·have t1 : (y.kind == 1) = false:=by simp [hk1]
     have t1' : (y.kind != 1) = true:=by simp [hk1]
     have HD : Hid (r = .error 161):=hyq (by rw [HR1.out,if_pos (.inr (.inr ⟨HK.out,hk1⟩))])
     clear hk1
     go_upto_region 14 with (first | (refine wpList_store_row rfl 59 (.tmp 7) (.tmp 20) rfl w3.heap.size #[.string ⟨y.path.toArray⟩,.int .i64 y.kind,.string ⟨y.data.toArray⟩] rfl rfl 59 #[.string ⟨#[]⟩,.int .i64 0,.string ⟨#[]⟩] box_new info59r rfl (by simp [Value.oneCell']) ?_; rw [← HVE.out,← HWE.out]) | fail)
     go_upto_region 18 with fail
     go_wp2_with (first | (refine wpList_store_row rfl 24 (.tmp 4) (.tmp 94) rfl (b2 + 1 + 1) #[.slice none 0 0] rfl rfl 24 _ X4.out (info24 _) rfl (slice_one _ _ _) ?_) | fail)
     exact bodyPost_ret (end_tree2 rfl _ (X4.out.row _) rfl rfl) rfl ⟨below_row HB.out H4.out _,.inl ⟨_,HD.out,rfl⟩⟩
 ·have t1 : (ck == 0) = false:=by simpa using he
  have t2 : (ck != 0) = true:=by simpa using he
  have HD : Hid (r = .error ck):=hyq (by rw [← HRR.out]; unfold doR; rw [← HCX.out,if_pos he])
  clear he
  go_wp2_with (first | (refine wpList_store_row rfl 24 (.tmp 4) (.tmp 13) rfl (b2 + 1 + 1) #[.slice none 0 0] rfl rfl 24 _ X4.out (info24 _) rfl (slice_one _ _ _) ?_) | fail)
  exact bodyPost_ret (end_tree2 rfl _ (X4.out.row _) rfl rfl) rfl ⟨below_row HB.out H4.out _,.inl ⟨_,HD.out,rfl⟩⟩
end Go.Proofs.YtigopecainocgaaGreatDoor
