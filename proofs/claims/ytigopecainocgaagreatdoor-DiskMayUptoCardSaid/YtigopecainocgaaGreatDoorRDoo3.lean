/- Proved here: Do of puncheonref06: what an operation makes of a tree that may be. -/
import Derived.Test.YtigopecainocgaaGreatDoorRDoo1245
set_option maxRecDepth 100000
set_option maxHeartbeats 32000000
namespace Go.Proofs.YtigopecainocgaaGreatDoor
open Go.RowKit Go.Shelf
theorem rdo_k3 (l : List It) (v : Value) (o : Opn) (w : World) (hv : RdI w v l) (h : TreeOk l) (hks : o.kind = 3) (hso : o.path.length ≤ 2000000 ∧ o.to.length ≤ 2000000) (r : Except Int (List It)) (hr : doR l o = r) :
  Calls Tryz.prog 52 #[.agg #[v],.agg #[.int .i64 o.kind,.string ⟨o.path.toArray⟩,.string ⟨o.to.toArray⟩,.string ⟨o.data.toArray⟩]] w (TreeE r w):=by
 have hl:=h.many
 have hsz : ∀ y ∈ l,y.path.length ≤ 2000000:=fun y hy => valid_small (h.kid y hy).1.1
 obtain ⟨w1,hw1⟩:=nmq (((w.alloc (.cells #[v] 24)).alloc (.cells #[.int .i64 o.kind,.string ⟨o.path.toArray⟩,.string ⟨o.to.toArray⟩,.string ⟨o.data.toArray⟩] 46)).alloc (.cells #[.slice none 0 0] 24))
 obtain ⟨b2,hb2⟩:=nmq (w.heap.size)
 have X2 : Hid (Box w1 b2 24 #[v]):=hyq (by rw [hw1,hb2]; exact (box_new.alloc _).alloc _)
 have X3 : Hid (Box w1 (b2 + 1) 46 o.arr):=hyq (by rw [hw1,hb2,show w.heap.size + 1 = (w.alloc (.cells #[v] 24)).heap.size from by simp]; exact box_new.alloc _)
 have X4 : Hid (Box w1 (b2 + 1 + 1) 24 #[.slice none 0 0]):=hyq (by rw [hw1,hb2,show w.heap.size + 1 + 1 = ((w.alloc (.cells #[v] 24)).alloc (.cells #[.int .i64 o.kind,.string ⟨o.path.toArray⟩,.string ⟨o.to.toArray⟩,.string ⟨o.data.toArray⟩] 46)).heap.size from by simp]; exact box_new)
 have HB : Hid (Below w.heap.size w w1):=hyq (by rw [hw1]; exact bch (bch (below_new _ _) (below_new _ _)) (below_new _ _))
 have H4 : Hid (w.heap.size ≤ b2 + 1 + 1):=hyq (by omega)
 have HV:=hyq (hv.on HB.out)
 have HOK:=hyq h
 have HSZ:=hyq hsz
 have HSO:=hyq hso
 have HKS:=hyq hks
 have HRR:=hyq hr
 obtain ⟨ck,hck⟩:=nmq (checkR o)
 obtain ⟨y,hy⟩:=nmq ((getI l o.path).getD .nil)
 obtain ⟨b,hb⟩:=nmq ((getI l o.path).isSome)
 have HCK : Hid (Calls Tryz.prog 72 #[.agg #[.int .i64 o.kind,.string ⟨o.path.toArray⟩,.string ⟨o.to.toArray⟩,.string ⟨o.data.toArray⟩]] w1 fun e w' => e = .returned (.int .i64 ck) ∧ Below w1.heap.size w1 w'):=hyq (by rw [hck]; exact rcheck_any o hso.1 hso.2 w1)
 have HG : Hid (∀ W,Below w1.heap.size w1 W → Calls Tryz.prog 73 #[.agg #[v],.string ⟨o.path.toArray⟩] W fun e w' => e = .returned (.tuple #[.agg #[.string ⟨y.path.toArray⟩,.int .i64 y.kind,.string ⟨y.data.toArray⟩],.bool b]) ∧ Below W.heap.size W w'):=hyq (fun W hW => rget_is l v o.path W (HV.out.on hW) (by omega) y b hy hb)
 have HCX:=hyq hck
 have HY:=hyq hy
 have HBB:=hyq hb
 have HL:=hyq hl
 obtain ⟨a,c,rfl,_⟩:=hv.open
 obtain ⟨n,hn⟩:=nmq (l.length)
 rw [← hn] at HV X2 HG hw1 ⊢
 have k0:=b24
 have HBE:=hyq hb2
 have hHB:=HB.out.size
 have hX4lt:=X4.out.lt
 clear hks hv h hr hck hy hb hn hb2 hl hsz hso
 have m0 : w1.cell? ⟨b2 + 1,0,none⟩ = some (.int .i64 o.kind):=X3.out.cell (k:=0) rfl
 have m1 : w1.cell? ⟨b2 + 1,1,none⟩ = some (.string ⟨o.path.toArray⟩):=X3.out.cell (k:=1) rfl
 have m2 : w1.cell? ⟨b2 + 1,2,none⟩ = some (.string ⟨o.to.toArray⟩):=X3.out.cell (k:=2) rfl
 have m3 : w1.cell? ⟨b2 + 1,3,none⟩ = some (.string ⟨o.data.toArray⟩):=X3.out.cell (k:=3) rfl
 go_enter Tryz.func52,Tryz.ntmps52
 go_upto_region 1 with fail
 rw [← HBE.out,← hw1]
 clear hw1
 go_wp2_with fail
 clear m0 m1 m2 m3
 refine (HCK.out).mono ?_
 rintro e w2 ⟨rfl,hb⟩
 have HA:=hyq hb
 have hA9:=hb.size
 have hcar : Below w1.heap.size w1 w2:=hb
 have X2:=hyq (X2.out.on hcar)
 have X3:=hyq (X3.out.on hcar)
 have X4:=hyq (X4.out.on hcar)
 have HB:=hyq (bch HB.out hcar)
 clear hcar
 clear hb HCK
 by_cases he : ck = 0
 ·subst he
  have HC0 : Hid (checkR o = 0):=hyq HCX.out.symm
  have HOKC : Hid (ChkOk o):=hyq (chk_ok (by rw [← chkr_is]; exact HC0.out))
  have p0:=X2.out.cell (k:=0) rfl
  have m1 : w2.cell? ⟨b2 + 1,1,none⟩ = some (.string ⟨o.path.toArray⟩):=X3.out.cell (k:=1) rfl
  go_wp2_with fail
  clear p0 m1
  refine ((HG.out w2 HA.out)).mono ?_
  rintro e w3 ⟨rfl,hb⟩
  obtain ⟨VE,hVE⟩:=nmq ((w3.alloc (.cells #[.string ⟨#[]⟩,.int .i64 0,.string ⟨#[]⟩] 59)).setRow w3.heap.size #[.string ⟨y.path.toArray⟩,.int .i64 y.kind,.string ⟨y.data.toArray⟩])
  obtain ⟨bE,hbE⟩:=nmq (w3.heap.size)
  have hnE : Below w3.heap.size w3 VE:=by rw [hVE]; exact below_row (below_new _ _) (Nat.le_refl _) _
  have XE : Hid (Box VE bE 59 #[.string ⟨y.path.toArray⟩,.int .i64 y.kind,.string ⟨y.data.toArray⟩]):=hyq (by rw [hVE,hbE]; exact box_new.row _)
  have HVE:=hyq hVE
  have HWE:=hyq hbE
  have hcar : Below w2.heap.size w2 VE:=bch hb hnE
  have X2:=hyq (X2.out.on hcar)
  have X3:=hyq (X3.out.on hcar)
  have X4:=hyq (X4.out.on hcar)
  have HB:=hyq (bch HB.out hcar)
  clear hcar
  have HEB0 : Hid (w.heap.size ≤ bE):=hyq (by rw [hbE]; exact Nat.le_trans (Nat.le_trans hHB hA9) hb.size)
  have HEB10 : Hid (w1.heap.size ≤ bE):=hyq (by rw [hbE]; exact Nat.le_trans hA9 hb.size)
  have HAE:=hyq (bch HA.out (bch hb hnE))
  clear hb hnE HG HA HCX
  have hkk : o.kind = 1 ∨ o.kind = 2 ∨ o.kind = 3 ∨ o.kind = 4 ∨ o.kind = 5 ∨ o.kind = 6 ∨ o.kind = 7:=by have:=HOKC.out.kind; omega
  have HEB : Hid (w.heap.size ≤ bE):=hyq HEB0.out
  have HEB1 : Hid (w1.heap.size ≤ bE):=hyq HEB10.out
  have HRV : Hid (RdI VE (.slice a n c) l):=hyq (HV.out.on HAE.out)
  have m0 : VE.cell? ⟨b2 + 1,0,none⟩ = some (.int .i64 o.kind):=X3.out.cell (k:=0) rfl
  have m1 : VE.cell? ⟨b2 + 1,1,none⟩ = some (.string ⟨o.path.toArray⟩):=X3.out.cell (k:=1) rfl
  have m2 : VE.cell? ⟨b2 + 1,2,none⟩ = some (.string ⟨o.to.toArray⟩):=X3.out.cell (k:=2) rfl
  have m3 : VE.cell? ⟨b2 + 1,3,none⟩ = some (.string ⟨o.data.toArray⟩):=X3.out.cell (k:=3) rfl
  have p0:=X2.out.cell (k:=0) rfl
  clear hVE hbE
  rcases hkk with hk | hk | hk | hk | hk | hk | hk
  ·exact absurd hk (by have:=HKS.out; omega)
  ·exact absurd hk (by have:=HKS.out; omega)
  ·have HR0:=hyq (do_rest HRR.out HC0.out (by omega) HY.out HBB.out)
   rw [hk] at m0
   have HK:=hyq hk
   clear hk
   cases b with
   | false =>
    have HD : Hid (r = .error 4):=hyq (by rw [HR0.out]; rfl)
    go_wp2_with (first | (refine wpList_store_row rfl 59 (.tmp 7) (.tmp 20) rfl w3.heap.size #[.string ⟨y.path.toArray⟩,.int .i64 y.kind,.string ⟨y.data.toArray⟩] rfl rfl 59 #[.string ⟨#[]⟩,.int .i64 0,.string ⟨#[]⟩] box_new info59r rfl (by simp [Value.oneCell']) ?_; rw [← HVE.out,← HWE.out]) | (refine wpList_store_row rfl 24 (.tmp 4) (.tmp 68) rfl (b2 + 1 + 1) #[.slice none 0 0] rfl rfl 24 _ X4.out (info24 _) rfl (slice_one _ _ _) ?_) | fail)
    exact bodyPost_ret (end_tree2 rfl _ (X4.out.row _) rfl rfl) rfl ⟨below_row HB.out H4.out _,.inl ⟨_,HD.out,rfl⟩⟩
   | true =>
    have e1:=XE.out.cell (k:=1) rfl
    have HR1:=hyq (HR0.out.trans (if_neg (by simp)))
    have HKG:=hyq (kind_get HOK.out HY.out HBB.out)
    by_cases hk2 : y.kind = 2
    ·skip
     have hg : getI l o.path = some y:=by
      have h1:=HY.out
      have h2:=HBB.out
      cases e : getI l o.path with
      | none => rw [e] at h2; cases h2
      | some z => rw [e] at h1; rw [h1]; rfl
     obtain ⟨hyp,hyl⟩:=path_of HOK.out hg (by omega)
     have hyd:=file_data HOK.out hyl hk2
     have HR2 : Hid (r = if 524288 < y.data.length + o.data.length then .error 3 else .ok (withR l ⟨y.path,y.kind,y.data ++ o.data⟩)):=hyq (by rw [HR1.out,HK.out,if_neg (by simp [hk2]),if_neg (by simp)]; simp)
     have HYP:=hyq hyp
     have e2:=XE.out.cell (k:=2) rfl
     have z1 : (⟨y.data.toArray⟩ : ByteArray).size = y.data.length:=by show y.data.toArray.size = _; rw [List.size_toArray]
     have z2 : (⟨o.data.toArray⟩ : ByteArray).size = o.data.length:=by show o.data.toArray.size = _; rw [List.size_toArray]
     have hod : o.data.length ≤ 524288:=by have:=HOKC.out.data; rw [HK.out] at this; exact this
     have ws : IntKind.i64.wrap ((y.data.length : Int) + (o.data.length : Int)) = (y.data.length : Int) + (o.data.length : Int):=IntWalk.i64_in _ (by omega)
     rw [hk2] at e1
     clear hk2 hyp hyl hg
     by_cases hlen : 524288 < y.data.length + o.data.length
     ·have t2 : (524288 : Int) < (y.data.length : Int) + (o.data.length : Int):=by omega
      have HD : Hid (r = .error 3):=hyq (by rw [HR2.out,if_pos hlen])
      clear hlen
      go_upto_region 14 with (first | (refine wpList_store_row rfl 59 (.tmp 7) (.tmp 20) rfl w3.heap.size #[.string ⟨y.path.toArray⟩,.int .i64 y.kind,.string ⟨y.data.toArray⟩] rfl rfl 59 #[.string ⟨#[]⟩,.int .i64 0,.string ⟨#[]⟩] box_new info59r rfl (by simp [Value.oneCell']) ?_; rw [← HVE.out,← HWE.out]) | fail)
      go_upto_region 18 with fail
      go_upto_region 22 with fail
      go_wp2_with (first | (refine wpList_store_row rfl 24 (.tmp 4) (.tmp 127) rfl (b2 + 1 + 1) #[.slice none 0 0] rfl rfl 24 _ X4.out (info24 _) rfl (slice_one _ _ _) ?_) | fail)
      exact bodyPost_ret (end_tree2 rfl _ (X4.out.row _) rfl rfl) rfl ⟨below_row HB.out H4.out _,.inl ⟨_,HD.out,rfl⟩⟩
     ·have t2 : ¬ (524288 : Int) < (y.data.length : Int) + (o.data.length : Int):=by omega
      have t3 : ¬ 9223372036854775807 < y.data.length + o.data.length:=by omega
      have HD0 : Hid (r = .ok (withR l ⟨y.path,y.kind,y.data ++ o.data⟩)):=hyq (by rw [HR2.out,if_neg hlen])
      have f2:=frozen_of_row VE bE 2 _ _ XE.out
      obtain ⟨w4,hw4⟩:=nmq (VE.setCell ⟨bE,2,none⟩ (.string (⟨y.data.toArray⟩ ++ ⟨o.data.toArray⟩)))
      obtain ⟨x,hx⟩ : ∃ x : It,x = ⟨y.path,y.kind,y.data ++ o.data⟩:=⟨_,rfl⟩
      have Z9 : Hid (Box w4 bE 59 x.arr):=hyq (by
       have:=XE.out.set (k:=2) (.string (⟨y.data.toArray⟩ ++ ⟨o.data.toArray⟩))
       rw [← hw4,ba_app] at this
       rw [hx]
       exact this)
      have hEA : b2 + 1 + 1 < bE:=Nat.lt_of_lt_of_le hX4lt HEB1.out
      have h9 : Below VE.heap.size VE VE:=Below.refl _ _
      have X29 : Hid (Box w4 b2 24 #[.slice a n c]):=hyq (by rw [hw4]; exact X2.out.far (p:=⟨bE,2,none⟩) (by show b2 ≠ bE; omega) _)
      have X49 : Hid (Box w4 (b2 + 1 + 1) 24 #[.slice none 0 0]):=hyq (by rw [hw4]; exact X4.out.far (p:=⟨bE,2,none⟩) (by show b2 + 1 + 1 ≠ bE; omega) _)
      have X39 : Hid (Box w4 (b2 + 1) 46 o.arr):=hyq (by rw [hw4]; exact X3.out.far (p:=⟨bE,2,none⟩) (by show b2 + 1 ≠ bE; omega) _)
      have HB9 : Hid (Below w.heap.size w w4):=hyq (by rw [hw4]; exact HB.out.setCell (p:=⟨bE,2,none⟩) HEB.out _)
      have HV9 : Hid (RdI w4 (.slice a n c) l):=hyq (HV.out.on (by rw [hw4]; exact HAE.out.setCell (p:=⟨bE,2,none⟩) HEB1.out _))
      have HD : Hid (r = .ok (withR l x)):=hyq (by rw [HD0.out,hx])
      have HXP : Hid (x.path.length ≤ 2000000):=hyq (by rw [hx]; show y.path.length ≤ _; rw [HYP.out]; exact HSO.out.1)
      have HW : Hid (Calls Tryz.prog 77 #[.agg #[.slice a n c],.agg #[.string ⟨x.path.toArray⟩,.int .i64 x.kind,.string ⟨x.data.toArray⟩]] w4 fun e w' => ∃ v',e = .returned (.agg #[v']) ∧ OwnI w' w4.heap.size v' (withR l x) ∧ Below w4.heap.size w4 w'):=hyq (rwith_any l (.slice a n c) x w4 HV9.out (by have:=HL.out; omega) HSZ.out HXP.out)
      clear hlen hx hEA h9 hyd hod
      go_upto_region 14 with (first | (refine wpList_store_row rfl 59 (.tmp 7) (.tmp 20) rfl w3.heap.size #[.string ⟨y.path.toArray⟩,.int .i64 y.kind,.string ⟨y.data.toArray⟩] rfl rfl 59 #[.string ⟨#[]⟩,.int .i64 0,.string ⟨#[]⟩] box_new info59r rfl (by simp [Value.oneCell']) ?_; rw [← HVE.out,← HWE.out]) | fail)
      go_upto_region 18 with fail
      go_upto_region 22 with fail
      go_upto_region 26 with fail
      rw [← hw4]
      clear hw4 f2 m0 m1 m2 m3 p0 e1 e2 z1 z2 t2 t3 ws
      have p0:=X29.out.cell (k:=0) rfl
      obtain ⟨d0,d1,d2⟩:=Z9.out.it
      replace X4:=X49
      replace HB:=HB9
      go_wp2_with fail
      refine HW.out.mono ?_
      rintro e w5 ⟨v5,rfl,ho,hb⟩
      obtain ⟨a5,n5,c5,rfl⟩:=own_any ho
      have HO:=hyq ho
      have HB5:=hyq HB.out.size
      replace X4:=hyq (X4.out.on hb)
      replace HB:=hyq (bch HB.out hb)
      clear ho hb
      go_wp2_with (first | (refine wpList_store_row rfl 24 (.tmp 4) (.tmp 140) rfl (b2 + 1 + 1) #[.slice a5 n5 c5] rfl rfl 24 _ X4.out (info24 _) rfl (slice_one _ _ _) ?_) | fail)
      exact bodyPost_ret (end_tree2 rfl _ (X4.out.row _) rfl rfl) rfl ⟨below_row HB.out H4.out _,.inr ⟨_,_,HD.out,rfl,own_base (own_row HO.out X4.out) HB5.out⟩⟩
    ·have HD : Hid (r = .error 161):=hyq (by rw [HR1.out,if_pos (.inl ⟨HK.out,hk2⟩)])
     rcases HKG.out with hk3 | hk3 | hk3
     ·rw [hk3] at e1
      clear hk2 hk3
      go_wp2_with (first | (refine wpList_store_row rfl 59 (.tmp 7) (.tmp 20) rfl w3.heap.size #[.string ⟨y.path.toArray⟩,.int .i64 y.kind,.string ⟨y.data.toArray⟩] rfl rfl 59 #[.string ⟨#[]⟩,.int .i64 0,.string ⟨#[]⟩] box_new info59r rfl (by simp [Value.oneCell']) ?_; rw [← HVE.out,← HWE.out]) | (refine wpList_store_row rfl 24 (.tmp 4) (.tmp 94) rfl (b2 + 1 + 1) #[.slice none 0 0] rfl rfl 24 _ X4.out (info24 _) rfl (slice_one _ _ _) ?_) | fail)
      exact bodyPost_ret (end_tree2 rfl _ (X4.out.row _) rfl rfl) rfl ⟨below_row HB.out H4.out _,.inl ⟨_,HD.out,rfl⟩⟩
     ·exact absurd hk3 hk2
     ·rw [hk3] at e1
      clear hk2 hk3
      go_wp2_with (first | (refine wpList_store_row rfl 59 (.tmp 7) (.tmp 20) rfl w3.heap.size #[.string ⟨y.path.toArray⟩,.int .i64 y.kind,.string ⟨y.data.toArray⟩] rfl rfl 59 #[.string ⟨#[]⟩,.int .i64 0,.string ⟨#[]⟩] box_new info59r rfl (by simp [Value.oneCell']) ?_; rw [← HVE.out,← HWE.out]) | (refine wpList_store_row rfl 24 (.tmp 4) (.tmp 94) rfl (b2 + 1 + 1) #[.slice none 0 0] rfl rfl 24 _ X4.out (info24 _) rfl (slice_one _ _ _) ?_) | fail)
      exact bodyPost_ret (end_tree2 rfl _ (X4.out.row _) rfl rfl) rfl ⟨below_row HB.out H4.out _,.inl ⟨_,HD.out,rfl⟩⟩
  ·exact absurd hk (by have:=HKS.out; omega)
  ·exact absurd hk (by have:=HKS.out; omega)
  ·exact absurd hk (by have:=HKS.out; omega)
  ·exact absurd hk (by have:=HKS.out; omega)
 ·have t1 : (ck == 0) = false:=by simpa using he
  have t2 : (ck != 0) = true:=by simpa using he
  have HD : Hid (r = .error ck):=hyq (by rw [← HRR.out]; unfold doR; rw [← HCX.out,if_pos he])
  clear he
  go_wp2_with (first | (refine wpList_store_row rfl 24 (.tmp 4) (.tmp 13) rfl (b2 + 1 + 1) #[.slice none 0 0] rfl rfl 24 _ X4.out (info24 _) rfl (slice_one _ _ _) ?_) | fail)
  exact bodyPost_ret (end_tree2 rfl _ (X4.out.row _) rfl rfl) rfl ⟨below_row HB.out H4.out _,.inl ⟨_,HD.out,rfl⟩⟩
end Go.Proofs.YtigopecainocgaaGreatDoor
