/- Proved here: Do of puncheonref06: what an operation makes of a tree that may be. -/
import Derived.Test.YtigopecainocgaaGreatDoorRMov
import Derived.Test.YtigopecainocgaaGreatDoorRChk
set_option maxRecDepth 100000
set_option maxHeartbeats 32000000
namespace Go.Proofs.YtigopecainocgaaGreatDoor
open Go.RowKit Go.Shelf
theorem b59d (p : ByteArray) : Tryz.prog.built 59 [(0,.string p),(1,.int .i64 1)] = some #[.string p,.int .i64 1,.string ⟨#[]⟩]:=by kernel_rfl
theorem b59k (p d : ByteArray) (k : Int) : Tryz.prog.built 59 [(0,.string p),(1,.int .i64 k),(2,.string d)] = some #[.string p,.int .i64 k,.string d]:=by kernel_rfl
theorem do_if {l : List It} {o : Opn} {r : Except Int (List It)} (hr : doR l o = r) (h : checkR o = 0) : (o.kind = 1 → makesR l ⟨o.path,1,[]⟩ false = r) ∧ (o.kind = 4 → makesR l ⟨o.path,3,o.data⟩ false = r) ∧ (o.kind = 2 → makesR l ⟨o.path,2,o.data⟩ true = r) ∧ (o.kind = 5 → movesR l o.path o.to = r):=by
 unfold doR at hr
 rw [if_neg (not_not_intro h)] at hr
 refine ⟨fun k => ?_,fun k => ?_,fun k => ?_,fun k => ?_⟩ <;> rw [← hr] <;> simp [k]
theorem do_rest {l : List It} {o : Opn} {r : Except Int (List It)} {y : It} {b : Bool} (hr : doR l o = r) (h : checkR o = 0) (hk : o.kind = 3 ∨ o.kind = 6 ∨ o.kind = 7) (hy : y = (getI l o.path).getD .nil) (hb : b = (getI l o.path).isSome) :
  r = if b = false then .error 4 else if (o.kind = 3 ∧ y.kind ≠ 2) ∨ (o.kind = 6 ∧ y.kind = 1) ∨ (o.kind = 7 ∧ y.kind ≠ 1) then .error 161
   else if o.kind = 7 ∧ (o.path = [47] ∨ belowR l o.path ≠ []) then .error 162
   else if o.kind = 3 ∧ 524288 < y.data.length + o.data.length then .error 3
   else if o.kind = 3 then .ok (withR l ⟨y.path,y.kind,y.data ++ o.data⟩)
   else .ok (withoutR l o.path):=by
 unfold doR at hr
 rw [if_neg (not_not_intro h),if_neg (by omega),if_neg (by omega),if_neg (by omega),if_neg (by omega)] at hr
 rw [← hr]
 cases e : getI l o.path with
 | none => rw [e] at hb; subst hb; simp
 | some z => rw [e] at hb hy; subst hb; subst hy; simp
theorem kind_get {l : List It} (h : TreeOk l) {p : Str} {y : It} (hy : y = (getI l p).getD .nil) (hb : true = (getI l p).isSome) : y.kind = 1 ∨ y.kind = 2 ∨ y.kind = 3:=by
 cases e : getI l p with
 | none => rw [e] at hb; cases hb
 | some z =>
  rw [e] at hy
  have hyz : y = z:=hy
  subst hyz
  rcases (get_some h.sorted).1 e with ⟨_,k⟩ | ⟨_,k,_⟩
  ·rw [k]; exact .inl rfl
  ·have hd:=(h.kid y k).2
   unfold It.dataB at hd
   by_cases k1 : y.kind = 1
   ·exact .inl k1
   ·by_cases k2 : y.kind = 2
    ·exact .inr (.inl k2)
    ·by_cases k3 : y.kind = 3
     ·exact .inr (.inr k3)
     ·rw [if_neg k1,if_neg k2,if_neg k3] at hd; cases hd
theorem rdo_k1245 (l : List It) (v : Value) (o : Opn) (w : World) (hv : RdI w v l) (h : TreeOk l) (hks : o.kind ≠ 3 ∧ o.kind ≠ 6 ∧ o.kind ≠ 7) (hso : o.path.length ≤ 2000000 ∧ o.to.length ≤ 2000000) (r : Except Int (List It)) (hr : doR l o = r) :
  Calls Tryz.prog 52 #[.agg #[v],.agg #[.int .i64 o.kind,.string ⟨o.path.toArray⟩,.string ⟨o.to.toArray⟩,.string ⟨o.data.toArray⟩]] w (TreeE r w):=by
 have hl:=h.many
 have hsz : ∀ y ∈ l,y.path.length ≤ 2000000:=fun y hy => valid_small (h.kid y hy).1.1
 obtain ⟨w1,hw1⟩:=nmq (((w.alloc (.cells #[v] 24)).alloc (.cells #[.int .i64 o.kind,.string ⟨o.path.toArray⟩,.string ⟨o.to.toArray⟩,.string ⟨o.data.toArray⟩] 46)).alloc (.cells #[.slice none 0 0] 24))
 obtain ⟨b2,hb2⟩:=nmq (w.heap.size)
 have X2 : Hid (Box w1 b2 24 #[v]):=hyq (by rw [hw1,hb2]; exact (box_new.alloc _).alloc _)
 have X3 : Hid (Box w1 (b2 + 1) 46 o.arr):=hyq (by rw [hw1,hb2,show w.heap.size + 1 = (w.alloc (.cells #[v] 24)).heap.size from by simp]; exact box_new.alloc _)
 have X4 : Hid (Box w1 (b2 + 1 + 1) 24 #[.slice none 0 0]):=hyq (by rw [hw1,hb2,show w.heap.size + 1 + 1 = ((w.alloc (.cells #[v] 24)).alloc (.cells #[.int .i64 o.kind,.string ⟨o.path.toArray⟩,.string ⟨o.to.toArray⟩,.string ⟨o.data.toArray⟩] 46)).heap.size from by simp]; exact box_new)
 have HB : Hid (Below w.heap.size w w1):=hyq (by rw [hw1]; exact bch (bch (below_new _ _) (below_new _ _)) (below_new _ _))
 have H4 : Hid (w.heap.size ≤ b2 + 1 + 1):=hyq (by omega)
 have HV:=hyq (hv.on HB.out)
 have HOK:=hyq h
 have HSZ:=hyq hsz
 have HSO:=hyq hso
 have HKS:=hyq hks
 have HRR:=hyq hr
 obtain ⟨ck,hck⟩:=nmq (checkR o)
 obtain ⟨y,hy⟩:=nmq ((getI l o.path).getD .nil)
 obtain ⟨b,hb⟩:=nmq ((getI l o.path).isSome)
 have HCK : Hid (Calls Tryz.prog 72 #[.agg #[.int .i64 o.kind,.string ⟨o.path.toArray⟩,.string ⟨o.to.toArray⟩,.string ⟨o.data.toArray⟩]] w1 fun e w' => e = .returned (.int .i64 ck) ∧ Below w1.heap.size w1 w'):=hyq (by rw [hck]; exact rcheck_any o hso.1 hso.2 w1)
 have HG : Hid (∀ W,Below w1.heap.size w1 W → Calls Tryz.prog 73 #[.agg #[v],.string ⟨o.path.toArray⟩] W fun e w' => e = .returned (.tuple #[.agg #[.string ⟨y.path.toArray⟩,.int .i64 y.kind,.string ⟨y.data.toArray⟩],.bool b]) ∧ Below W.heap.size W w'):=hyq (fun W hW => rget_is l v o.path W (HV.out.on hW) (by omega) y b hy hb)
 have HCX:=hyq hck
 have HY:=hyq hy
 have HBB:=hyq hb
 have HL:=hyq hl
 obtain ⟨a,c,rfl,_⟩:=hv.open
 obtain ⟨n,hn⟩:=nmq (l.length)
 rw [← hn] at HV X2 HG hw1 ⊢
 have k0:=b24
 have HBE:=hyq hb2
 have hHB:=HB.out.size
 have hX4lt:=X4.out.lt
 clear hks hv h hr hck hy hb hn hb2 hl hsz hso
 have m0 : w1.cell? ⟨b2 + 1,0,none⟩ = some (.int .i64 o.kind):=X3.out.cell (k:=0) rfl
 have m1 : w1.cell? ⟨b2 + 1,1,none⟩ = some (.string ⟨o.path.toArray⟩):=X3.out.cell (k:=1) rfl
 have m2 : w1.cell? ⟨b2 + 1,2,none⟩ = some (.string ⟨o.to.toArray⟩):=X3.out.cell (k:=2) rfl
 have m3 : w1.cell? ⟨b2 + 1,3,none⟩ = some (.string ⟨o.data.toArray⟩):=X3.out.cell (k:=3) rfl
 go_enter Tryz.func52,Tryz.ntmps52
 go_upto_region 1 with fail
 rw [← HBE.out,← hw1]
 clear hw1
 go_wp2_with fail
 clear m0 m1 m2 m3
 refine (HCK.out).mono ?_
 rintro e w2 ⟨rfl,hb⟩
 have HA:=hyq hb
 have hA9:=hb.size
 have hcar : Below w1.heap.size w1 w2:=hb
 have X2:=hyq (X2.out.on hcar)
 have X3:=hyq (X3.out.on hcar)
 have X4:=hyq (X4.out.on hcar)
 have HB:=hyq (bch HB.out hcar)
 clear hcar
 clear hb HCK
 by_cases he : ck = 0
 ·subst he
  have HC0 : Hid (checkR o = 0):=hyq HCX.out.symm
  have HOKC : Hid (ChkOk o):=hyq (chk_ok (by rw [← chkr_is]; exact HC0.out))
  have p0:=X2.out.cell (k:=0) rfl
  have m1 : w2.cell? ⟨b2 + 1,1,none⟩ = some (.string ⟨o.path.toArray⟩):=X3.out.cell (k:=1) rfl
  go_wp2_with fail
  clear p0 m1
  refine ((HG.out w2 HA.out)).mono ?_
  rintro e w3 ⟨rfl,hb⟩
  obtain ⟨VE,hVE⟩:=nmq ((w3.alloc (.cells #[.string ⟨#[]⟩,.int .i64 0,.string ⟨#[]⟩] 59)).setRow w3.heap.size #[.string ⟨y.path.toArray⟩,.int .i64 y.kind,.string ⟨y.data.toArray⟩])
  obtain ⟨bE,hbE⟩:=nmq (w3.heap.size)
  have hnE : Below w3.heap.size w3 VE:=by rw [hVE]; exact below_row (below_new _ _) (Nat.le_refl _) _
  have XE : Hid (Box VE bE 59 #[.string ⟨y.path.toArray⟩,.int .i64 y.kind,.string ⟨y.data.toArray⟩]):=hyq (by rw [hVE,hbE]; exact box_new.row _)
  have HVE:=hyq hVE
  have HWE:=hyq hbE
  have hcar : Below w2.heap.size w2 VE:=bch hb hnE
  have X2:=hyq (X2.out.on hcar)
  have X3:=hyq (X3.out.on hcar)
  have X4:=hyq (X4.out.on hcar)
  have HB:=hyq (bch HB.out hcar)
  clear hcar
  have HEB0 : Hid (w.heap.size ≤ bE):=hyq (by rw [hbE]; exact Nat.le_trans (Nat.le_trans hHB hA9) hb.size)
  have HEB10 : Hid (w1.heap.size ≤ bE):=hyq (by rw [hbE]; exact Nat.le_trans hA9 hb.size)
  have HAE:=hyq (bch HA.out (bch hb hnE))
  clear hb hnE HG HA HCX
  have hkk : o.kind = 1 ∨ o.kind = 2 ∨ o.kind = 3 ∨ o.kind = 4 ∨ o.kind = 5 ∨ o.kind = 6 ∨ o.kind = 7:=by have:=HOKC.out.kind; omega
  have HEB : Hid (w.heap.size ≤ bE):=hyq HEB0.out
  have HEB1 : Hid (w1.heap.size ≤ bE):=hyq HEB10.out
  have HRV : Hid (RdI VE (.slice a n c) l):=hyq (HV.out.on HAE.out)
  have m0 : VE.cell? ⟨b2 + 1,0,none⟩ = some (.int .i64 o.kind):=X3.out.cell (k:=0) rfl
  have m1 : VE.cell? ⟨b2 + 1,1,none⟩ = some (.string ⟨o.path.toArray⟩):=X3.out.cell (k:=1) rfl
  have m2 : VE.cell? ⟨b2 + 1,2,none⟩ = some (.string ⟨o.to.toArray⟩):=X3.out.cell (k:=2) rfl
  have m3 : VE.cell? ⟨b2 + 1,3,none⟩ = some (.string ⟨o.data.toArray⟩):=X3.out.cell (k:=3) rfl
  have p0:=X2.out.cell (k:=0) rfl
  clear hVE hbE
  rcases hkk with hk | hk | hk | hk | hk | hk | hk
  ·have HR : Hid (makesR l ⟨o.path,1,[]⟩ false = r):=hyq ((do_if HRR.out HC0.out).1 hk)
   have HM : Hid (Calls Tryz.prog 74 #[.agg #[.slice a n c],.agg #[.string ⟨o.path.toArray⟩,.int .i64 1,.string ⟨#[]⟩],.bool false] VE (TreeE r VE)):=hyq (rmakes_any l (.slice a n c) ⟨o.path,1,[]⟩ false VE HRV.out (by have:=HL.out; omega) HSZ.out HSO.out.1 r HR.out)
   rw [hk] at m0
   have HK:=hyq hk
   clear hk
   have kb:=b59d ⟨o.path.toArray⟩
   go_wp2_with (first | (refine wpList_store_row rfl 59 (.tmp 7) (.tmp 20) rfl w3.heap.size #[.string ⟨y.path.toArray⟩,.int .i64 y.kind,.string ⟨y.data.toArray⟩] rfl rfl 59 #[.string ⟨#[]⟩,.int .i64 0,.string ⟨#[]⟩] box_new info59r rfl (by simp [Value.oneCell']) ?_; rw [← HVE.out,← HWE.out]) | fail)
   refine (HM.out).mono ?_
   rintro e w5 ⟨hb,hc⟩
   replace X4:=hyq (X4.out.on hb)
   have HB5:=hyq HB.out.size
   replace HB:=hyq (bch HB.out hb)
   clear hb p0 m0 m1 m2 m3
   rcases hc with ⟨z,hz,rfl⟩ | ⟨l',v5,hz,rfl,ho⟩
   ·have HD:=hyq hz
    clear hz
    go_wp2_with (first | (refine wpList_store_row rfl 24 (.tmp 4) (.tmp 31) rfl (b2 + 1 + 1) #[.slice none 0 0] rfl rfl 24 _ X4.out (info24 _) rfl (slice_one _ _ _) ?_) | fail)
    exact bodyPost_ret (end_tree2 rfl _ (X4.out.row _) rfl rfl) rfl ⟨below_row HB.out H4.out _,.inl ⟨_,HD.out,rfl⟩⟩
   ·obtain ⟨a5,n5,c5,rfl⟩:=own_any ho
    have HD:=hyq hz
    have HO:=hyq ho
    clear hz ho
    go_wp2_with (first | (refine wpList_store_row rfl 24 (.tmp 4) (.tmp 31) rfl (b2 + 1 + 1) #[.slice a5 n5 c5] rfl rfl 24 _ X4.out (info24 _) rfl (slice_one _ _ _) ?_) | fail)
    exact bodyPost_ret (end_tree2 rfl _ (X4.out.row _) rfl rfl) rfl ⟨below_row HB.out H4.out _,.inr ⟨_,_,HD.out,rfl,own_base (own_row HO.out X4.out) HB5.out⟩⟩
  ·have HR : Hid (makesR l ⟨o.path,2,o.data⟩ true = r):=hyq ((do_if HRR.out HC0.out).2.2.1 hk)
   have HM : Hid (Calls Tryz.prog 74 #[.agg #[.slice a n c],.agg #[.string ⟨o.path.toArray⟩,.int .i64 2,.string ⟨o.data.toArray⟩],.bool true] VE (TreeE r VE)):=hyq (rmakes_any l (.slice a n c) ⟨o.path,2,o.data⟩ true VE HRV.out (by have:=HL.out; omega) HSZ.out HSO.out.1 r HR.out)
   rw [hk] at m0
   have HK:=hyq hk
   clear hk
   have kb:=b59k ⟨o.path.toArray⟩ ⟨o.data.toArray⟩ 2
   go_wp2_with (first | (refine wpList_store_row rfl 59 (.tmp 7) (.tmp 20) rfl w3.heap.size #[.string ⟨y.path.toArray⟩,.int .i64 y.kind,.string ⟨y.data.toArray⟩] rfl rfl 59 #[.string ⟨#[]⟩,.int .i64 0,.string ⟨#[]⟩] box_new info59r rfl (by simp [Value.oneCell']) ?_; rw [← HVE.out,← HWE.out]) | fail)
   refine (HM.out).mono ?_
   rintro e w5 ⟨hb,hc⟩
   replace X4:=hyq (X4.out.on hb)
   have HB5:=hyq HB.out.size
   replace HB:=hyq (bch HB.out hb)
   clear hb p0 m0 m1 m2 m3
   rcases hc with ⟨z,hz,rfl⟩ | ⟨l',v5,hz,rfl,ho⟩
   ·have HD:=hyq hz
    clear hz
    go_wp2_with (first | (refine wpList_store_row rfl 24 (.tmp 4) (.tmp 53) rfl (b2 + 1 + 1) #[.slice none 0 0] rfl rfl 24 _ X4.out (info24 _) rfl (slice_one _ _ _) ?_) | fail)
    exact bodyPost_ret (end_tree2 rfl _ (X4.out.row _) rfl rfl) rfl ⟨below_row HB.out H4.out _,.inl ⟨_,HD.out,rfl⟩⟩
   ·obtain ⟨a5,n5,c5,rfl⟩:=own_any ho
    have HD:=hyq hz
    have HO:=hyq ho
    clear hz ho
    go_wp2_with (first | (refine wpList_store_row rfl 24 (.tmp 4) (.tmp 53) rfl (b2 + 1 + 1) #[.slice a5 n5 c5] rfl rfl 24 _ X4.out (info24 _) rfl (slice_one _ _ _) ?_) | fail)
    exact bodyPost_ret (end_tree2 rfl _ (X4.out.row _) rfl rfl) rfl ⟨below_row HB.out H4.out _,.inr ⟨_,_,HD.out,rfl,own_base (own_row HO.out X4.out) HB5.out⟩⟩
  ·exact absurd hk (by have:=HKS.out; omega)
  ·have HR : Hid (makesR l ⟨o.path,3,o.data⟩ false = r):=hyq ((do_if HRR.out HC0.out).2.1 hk)
   have HM : Hid (Calls Tryz.prog 74 #[.agg #[.slice a n c],.agg #[.string ⟨o.path.toArray⟩,.int .i64 3,.string ⟨o.data.toArray⟩],.bool false] VE (TreeE r VE)):=hyq (rmakes_any l (.slice a n c) ⟨o.path,3,o.data⟩ false VE HRV.out (by have:=HL.out; omega) HSZ.out HSO.out.1 r HR.out)
   rw [hk] at m0
   have HK:=hyq hk
   clear hk
   have kb:=b59k ⟨o.path.toArray⟩ ⟨o.data.toArray⟩ 3
   go_wp2_with (first | (refine wpList_store_row rfl 59 (.tmp 7) (.tmp 20) rfl w3.heap.size #[.string ⟨y.path.toArray⟩,.int .i64 y.kind,.string ⟨y.data.toArray⟩] rfl rfl 59 #[.string ⟨#[]⟩,.int .i64 0,.string ⟨#[]⟩] box_new info59r rfl (by simp [Value.oneCell']) ?_; rw [← HVE.out,← HWE.out]) | fail)
   refine (HM.out).mono ?_
   rintro e w5 ⟨hb,hc⟩
   replace X4:=hyq (X4.out.on hb)
   have HB5:=hyq HB.out.size
   replace HB:=hyq (bch HB.out hb)
   clear hb p0 m0 m1 m2 m3
   rcases hc with ⟨z,hz,rfl⟩ | ⟨l',v5,hz,rfl,ho⟩
   ·have HD:=hyq hz
    clear hz
    go_wp2_with (first | (refine wpList_store_row rfl 24 (.tmp 4) (.tmp 42) rfl (b2 + 1 + 1) #[.slice none 0 0] rfl rfl 24 _ X4.out (info24 _) rfl (slice_one _ _ _) ?_) | fail)
    exact bodyPost_ret (end_tree2 rfl _ (X4.out.row _) rfl rfl) rfl ⟨below_row HB.out H4.out _,.inl ⟨_,HD.out,rfl⟩⟩
   ·obtain ⟨a5,n5,c5,rfl⟩:=own_any ho
    have HD:=hyq hz
    have HO:=hyq ho
    clear hz ho
    go_wp2_with (first | (refine wpList_store_row rfl 24 (.tmp 4) (.tmp 42) rfl (b2 + 1 + 1) #[.slice a5 n5 c5] rfl rfl 24 _ X4.out (info24 _) rfl (slice_one _ _ _) ?_) | fail)
    exact bodyPost_ret (end_tree2 rfl _ (X4.out.row _) rfl rfl) rfl ⟨below_row HB.out H4.out _,.inr ⟨_,_,HD.out,rfl,own_base (own_row HO.out X4.out) HB5.out⟩⟩
  ·have HR : Hid (movesR l o.path o.to = r):=hyq ((do_if HRR.out HC0.out).2.2.2 hk)
   have HM : Hid (Calls Tryz.prog 75 #[.agg #[.slice a n c],.string ⟨o.path.toArray⟩,.string ⟨o.to.toArray⟩] VE (TreeE r VE)):=hyq (rmoves_any l (.slice a n c) o.path o.to VE HRV.out HOK.out HOKC.out.path (HOKC.out.to hk) r HR.out)
   rw [hk] at m0
   have HK:=hyq hk
   clear hk
   go_wp2_with (first | (refine wpList_store_row rfl 59 (.tmp 7) (.tmp 20) rfl w3.heap.size #[.string ⟨y.path.toArray⟩,.int .i64 y.kind,.string ⟨y.data.toArray⟩] rfl rfl 59 #[.string ⟨#[]⟩,.int .i64 0,.string ⟨#[]⟩] box_new info59r rfl (by simp [Value.oneCell']) ?_; rw [← HVE.out,← HWE.out]) | fail)
   refine (HM.out).mono ?_
   rintro e w5 ⟨hb,hc⟩
   replace X4:=hyq (X4.out.on hb)
   have HB5:=hyq HB.out.size
   replace HB:=hyq (bch HB.out hb)
   clear hb p0 m0 m1 m2 m3
   rcases hc with ⟨z,hz,rfl⟩ | ⟨l',v5,hz,rfl,ho⟩
   ·have HD:=hyq hz
    clear hz
    go_wp2_with (first | (refine wpList_store_row rfl 24 (.tmp 4) (.tmp 63) rfl (b2 + 1 + 1) #[.slice none 0 0] rfl rfl 24 _ X4.out (info24 _) rfl (slice_one _ _ _) ?_) | fail)
    exact bodyPost_ret (end_tree2 rfl _ (X4.out.row _) rfl rfl) rfl ⟨below_row HB.out H4.out _,.inl ⟨_,HD.out,rfl⟩⟩
   ·obtain ⟨a5,n5,c5,rfl⟩:=own_any ho
    have HD:=hyq hz
    have HO:=hyq ho
    clear hz ho
    go_wp2_with (first | (refine wpList_store_row rfl 24 (.tmp 4) (.tmp 63) rfl (b2 + 1 + 1) #[.slice a5 n5 c5] rfl rfl 24 _ X4.out (info24 _) rfl (slice_one _ _ _) ?_) | fail)
    exact bodyPost_ret (end_tree2 rfl _ (X4.out.row _) rfl rfl) rfl ⟨below_row HB.out H4.out _,.inr ⟨_,_,HD.out,rfl,own_base (own_row HO.out X4.out) HB5.out⟩⟩
  ·exact absurd hk (by have:=HKS.out; omega)
  ·exact absurd hk (by have:=HKS.out; omega)
 ·have t1 : (ck == 0) = false:=by simpa using he
  have t2 : (ck != 0) = true:=by simpa using he
  have HD : Hid (r = .error ck):=hyq (by rw [← HRR.out]; unfold doR; rw [← HCX.out,if_pos he])
  clear he
  go_wp2_with (first | (refine wpList_store_row rfl 24 (.tmp 4) (.tmp 13) rfl (b2 + 1 + 1) #[.slice none 0 0] rfl rfl 24 _ X4.out (info24 _) rfl (slice_one _ _ _) ?_) | fail)
  exact bodyPost_ret (end_tree2 rfl _ (X4.out.row _) rfl rfl) rfl ⟨below_row HB.out H4.out _,.inl ⟨_,HD.out,rfl⟩⟩
end Go.Proofs.YtigopecainocgaaGreatDoor
