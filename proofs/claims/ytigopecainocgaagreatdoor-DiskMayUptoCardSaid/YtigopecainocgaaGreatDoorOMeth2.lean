/- Proved here: mkdir, link, extend and write of package tree. -/
import Derived.Test.YtigopecainocgaaGreatDoorTK
import Derived.Test.YtigopecainocgaaGreatDoorOMeth
set_option maxRecDepth 100000
set_option maxHeartbeats 32000000
namespace Go.Proofs.YtigopecainocgaaGreatDoor
open Go.RowKit Go.Shelf
theorem built35m (p : ByteArray) (k : Int) : Tryz.prog.built 59 [(0,.string p),(1,.int .i64 k)] = some #[.string p,.int .i64 k,.string ⟨#[]⟩]:=by kernel_rfl
theorem mkdir_any (B b : Nat) (v : Value) (l : List It) (o : Opn) (w : World) (hG : Gr w B b v l) (h : TreeOk l) (hv : validB o.path = true) (hT : Tabs w) :
  Calls Tryz.prog 63 #[.pointer (some ⟨b,0,none⟩),.agg o.arr] w (GrR B b v l (addM l ⟨o.path,1,[]⟩) w):=by
 obtain ⟨w1,hw1⟩:=nmq (w.alloc (.cells o.arr 46))
 obtain ⟨bo,hbo⟩:=nmq (w.heap.size)
 have X1 : Hid (Box w1 bo 46 o.arr):=hyq (by rw [hw1,hbo]; exact box_new)
 have HB1 : Hid (Below w.heap.size w w1):=hyq (by rw [hw1]; exact below_new _ _)
 have HA : Hid (Calls Tryz.prog 85 #[.pointer (some ⟨b,0,none⟩),.agg #[.string ⟨o.path.toArray⟩,.int .i64 1,.string ⟨#[]⟩]] w1 (GrR B b v l (addM l ⟨o.path,1,[]⟩) w1)):=hyq (add_any B b v l ⟨o.path,1,[]⟩ w1 (hG.on HB1.out) h hv (hT.on HB1.out))
 obtain ⟨r,hr⟩:=nmq (addM l ⟨o.path,1,[]⟩)
 rw [← hr] at HA ⊢
 have p1 : w1.cell? ⟨bo,1,none⟩ = some (.string ⟨o.path.toArray⟩):=X1.out.cell (k:=1) rfl
 have bl:=built35m ⟨o.path.toArray⟩ 1
 clear hr hG h hv hT
 go_enter Tryz.func63,Tryz.ntmps63
 go_upto_region 1 with fail
 rw [← hw1,← hbo]
 clear hw1 hbo
 go_wp2_with fail
 refine HA.out.mono ?_
 rintro e w2 ⟨v',rfl,hG2,hN2⟩
 have HE : Hid (GrR B b v l r w (.returned (.int .i64 (resO l r).2)) w2):=hyq ⟨v',rfl,hG2,(Nxt.below HB1.out b v).trans hN2⟩
 clear hG2 hN2 p1
 go_wp2_with fail
 go_ret
 exact HE.out
theorem link_any (B b : Nat) (v : Value) (l : List It) (o : Opn) (w : World) (hG : Gr w B b v l) (h : TreeOk l) (hv : validB o.path = true) (hT : Tabs w) :
  Calls Tryz.prog 66 #[.pointer (some ⟨b,0,none⟩),.agg o.arr] w (GrR B b v l (addM l ⟨o.path,3,o.data⟩) w):=by
 obtain ⟨w1,hw1⟩:=nmq (w.alloc (.cells o.arr 46))
 obtain ⟨bo,hbo⟩:=nmq (w.heap.size)
 have X1 : Hid (Box w1 bo 46 o.arr):=hyq (by rw [hw1,hbo]; exact box_new)
 have HB1 : Hid (Below w.heap.size w w1):=hyq (by rw [hw1]; exact below_new _ _)
 have HA : Hid (Calls Tryz.prog 85 #[.pointer (some ⟨b,0,none⟩),.agg #[.string ⟨o.path.toArray⟩,.int .i64 3,.string ⟨o.data.toArray⟩]] w1 (GrR B b v l (addM l ⟨o.path,3,o.data⟩) w1)):=hyq (add_any B b v l ⟨o.path,3,o.data⟩ w1 (hG.on HB1.out) h hv (hT.on HB1.out))
 obtain ⟨r,hr⟩:=nmq (addM l ⟨o.path,3,o.data⟩)
 rw [← hr] at HA ⊢
 have p1 : w1.cell? ⟨bo,1,none⟩ = some (.string ⟨o.path.toArray⟩):=X1.out.cell (k:=1) rfl
 have p3 : w1.cell? ⟨bo,3,none⟩ = some (.string ⟨o.data.toArray⟩):=X1.out.cell (k:=3) rfl
 have bl:=built35 ⟨o.path.toArray⟩ ⟨o.data.toArray⟩ 3
 clear hr hG h hv hT
 go_enter Tryz.func66,Tryz.ntmps66
 go_upto_region 1 with fail
 rw [← hw1,← hbo]
 clear hw1 hbo
 go_wp2_with fail
 refine HA.out.mono ?_
 rintro e w2 ⟨v',rfl,hG2,hN2⟩
 have HE : Hid (GrR B b v l r w (.returned (.int .i64 (resO l r).2)) w2):=hyq ⟨v',rfl,hG2,(Nxt.below HB1.out b v).trans hN2⟩
 clear hG2 hN2 p1 p3
 go_wp2_with fail
 go_ret
 exact HE.out
theorem ba_app (a b : Str) : (⟨a.toArray⟩ ++ ⟨b.toArray⟩ : ByteArray) = ⟨(a ++ b).toArray⟩:=by
 have : (⟨a.toArray⟩ ++ ⟨b.toArray⟩ : ByteArray).data.toList = a ++ b:=by
  rw [ByteArray.data_append,Array.toList_append]
 exact ba_of this
theorem path_of {l : List It} (h : TreeOk l) {p : Str} {y : It} (hq : getI l p = some y) (hk : y.kind ≠ 1) : y.path = p ∧ y ∈ l:=by
 rcases (get_some (srt_of h)).1 hq with ⟨_,e⟩ | ⟨_,h1,h2⟩
 ·subst e; exact absurd rfl hk
 ·exact ⟨h2,h1⟩
theorem file_data {l : List It} (h : TreeOk l) {y : It} (hy : y ∈ l) (hk : y.kind = 2) : y.data.length ≤ 524288:=by
 have:=(h.kid y hy).2
 unfold It.dataB at this
 rw [if_neg (by omega),if_pos hk] at this
 exact of_decide_eq_true this
theorem extend_any (B b : Nat) (v : Value) (l : List It) (o : Opn) (w : World) (hG : Gr w B b v l) (h : TreeOk l) (hv : validB o.path = true) (hT : Tabs w) (hd : o.data.length ≤ 524288) :
  Calls Tryz.prog 65 #[.pointer (some ⟨b,0,none⟩),.agg o.arr] w (GrR B b v l (extendM l o.path o.data) w):=by
 obtain ⟨w1,hw1⟩:=nmq (w.alloc (.cells o.arr 46))
 have hpl : o.path.length ≤ 140737488355328:=Nat.le_trans (valid_len _ hv) (by decide)
 obtain ⟨bo,hbo⟩:=nmq (w.heap.size)
 have X1 : Hid (Box w1 bo 46 o.arr):=hyq (by rw [hw1,hbo]; exact box_new)
 have HB1 : Hid (Below w.heap.size w w1):=hyq (by rw [hw1]; exact below_new _ _)
 have HG1 : Hid (Gr w1 B b v l):=hyq (hG.on HB1.out)
 have HT1 : Hid (Tabs w1):=hyq (hT.on HB1.out)
 have HG:=hyq hG
 have HOK:=hyq h
 have HV:=hyq hv
 obtain ⟨r,hr⟩:=nmq (extendM l o.path o.data)
 rw [← hr]
 obtain ⟨q,hq⟩ : ∃ q,getI l o.path = q:=⟨_,rfl⟩
 obtain ⟨y,hy⟩:=nmq (q.getD .nil)
 obtain ⟨is,his⟩:=nmq (q.isSome)
 obtain ⟨v0,hv0⟩:=nmq (World.drew w1)
 obtain ⟨vs,hvs⟩:=nmq (World.drew w1)
 have HGV : Hid (Gr vs B b v l):=hyq (by rw [hvs]; exact HG1.out.drew)
 have HTV : Hid (Tabs vs):=hyq (by rw [hvs]; exact HT1.out.on ((Below.refl _ _).drew))
 have HV2 : Hid (Below w1.heap.size w1 vs):=hyq (by rw [hvs]; exact (Below.refl _ _).drew)
 have XO : Hid (Box vs bo 46 o.arr):=hyq (X1.out.on HV2.out)
 obtain ⟨a,n,c,rfl⟩:=own_any HGV.out.own
 have XG : Hid (Box vs b 78 #[.slice a n c]):=hyq HGV.out.box
 have HGET : Hid (∀ W,Below vs.heap.size vs W → Calls Tryz.prog 49 #[.slice a n c,.string ⟨o.path.toArray⟩] W fun e w' => e = .returned (.tuple #[.agg y.arr,.bool is]) ∧ Below W.heap.size W w'):=hyq (fun W hW => by
  have:=tget_gen l (.slice a n c) o.path W (srt_of HOK.out) HOK.out.many (HGV.out.on hW).rd (tree_sz HOK.out) (Nat.le_trans (valid_len _ HV.out) (by decide)) (HTV.out.on hW)
  rw [hq] at this
  rw [hy,his]
  exact this)
 have HQ:=hyq hq
 have HY:=hyq hy
 have HI:=hyq his
 have HR0:=hyq hr
 clear hq hy his hpl hr hG h hv hT
 go_enter Tryz.func65,Tryz.ntmps65
 go_upto_region 1 with fail
 rw [← hw1,← hbo]
 clear hw1 hbo
 go_cut [5,6] (CutG vs y is)
 case first =>
  rename_i J2 K2 hJ hK2
  refine wp_region_held_drew (S:=fun w' => Below vs.heap.size vs w') (by kernel_rfl) (by rw [hvs]; exact Below.refl _ _) (fun hH => ?_)
  rw [← hv0] at hH ⊢
  clear hv0 hvs
  refine tk 0 hH ?_; try go_frame
  refine tk 1 hH ?_; try go_frame
  refine tk 2 hH ?_; try go_frame
  refine tkf 3 rfl (fun w hSw => by have p0 : w.cell? ⟨b,0,none⟩ = some (.slice a n c):=(XG.out.on hSw).cell (k:=0) rfl; go_simp; try with_reducible rfl) hH ?_; try go_frame
  refine tk 4 hH ?_; try go_frame
  refine tkf 5 rfl (fun w hSw => by have p0 : w.cell? ⟨bo,1,none⟩ = some (.string ⟨o.path.toArray⟩):=(XO.out.on hSw).cell (k:=1) rfl; go_simp; try with_reducible rfl) hH ?_; try go_frame
  refine rd2 6 10 (fun K hK => ?_) (fun K hK => ?_)
  ·go_simp
   refine (HGET.out _ hH).mono ?_
   rintro e v106 ⟨rfl,hba⟩
   refine hK.out _ _ (bch hH hba) (fun hH => ?_)
   clear hba
   try go_frame
   refine tk 7 hH ?_; try go_frame
   refine tk 8 hH ?_; try go_frame
   refine tk 9 hH ?_; try go_frame
   refine rd1 10 (fun K hK => ?_)
   ·go_simp
    have hba : Below v106.heap.size v106 (v106.alloc (.cells #[.string ⟨#[]⟩,.int .i64 0,.string ⟨#[]⟩] 59)):=below_new _ _
    have Z7 : Hid (Box (v106.alloc (.cells #[.string ⟨#[]⟩,.int .i64 0,.string ⟨#[]⟩] 59)) v106.heap.size 59 It.nil.arr):=hyq box_new
    have HB7 : Hid (vs.heap.size ≤ v106.heap.size):=hyq hH.size
    obtain ⟨v110,hv9⟩:=nmq ((v106.alloc (.cells #[.string ⟨#[]⟩,.int .i64 0,.string ⟨#[]⟩] 59)))
    refine hK.out _ _ (bch hH hba) (fun hH => ?_)
    clear hba
    rw [← hv9] at Z7 hH ⊢
    clear hv9
    obtain ⟨b7,hg9⟩:=nmq (v106.heap.size)
    rw [← hg9] at Z7 HB7 ⊢
    clear hg9
    try go_frame
    refine rd1 11 (fun K hK => ?_)
    ·refine wp_store_if (by rfl) 59 (.tmp 5) (.tmp 15) rfl b7 59 It.nil.arr y.arr rfl rfl Z7.out (info35 _) rfl (iarr_one _) ?_
     have Z8 : Hid (Box (v110.setRow b7 y.arr) b7 59 y.arr):=hyq (Z7.out.row _)
     refine hK.out _ _ (below_row hH HB7.out _) (fun hH => ?_)
     clear Z7
     (try simp only [Act.put])
     refine tk 12 hH ?_; try go_frame
     refine wpAnyH_done (by kernel_rfl) ?_ _
     first | refine hK2 _ _ (Met.intro (hJ _ _ ?_)) | refine Met.intro (hJ _ _ ?_)
     (repeat apply Exists.intro)
     refine ⟨?_,rfl⟩
     exact ⟨_,rfl,rfl,Z8,hyq hH,HB7⟩
  ·go_simp
   have hba : Below v0.heap.size v0 (v0.alloc (.cells #[.string ⟨#[]⟩,.int .i64 0,.string ⟨#[]⟩] 59)):=below_new _ _
   have Z7 : Hid (Box (v0.alloc (.cells #[.string ⟨#[]⟩,.int .i64 0,.string ⟨#[]⟩] 59)) v0.heap.size 59 It.nil.arr):=hyq box_new
   have HB7 : Hid (vs.heap.size ≤ v0.heap.size):=hyq hH.size
   obtain ⟨v110,hv9⟩:=nmq ((v0.alloc (.cells #[.string ⟨#[]⟩,.int .i64 0,.string ⟨#[]⟩] 59)))
   refine hK.out _ _ (bch hH hba) (fun hH => ?_)
   clear hba
   rw [← hv9] at Z7 hH ⊢
   clear hv9
   obtain ⟨b7,hg9⟩:=nmq (v0.heap.size)
   rw [← hg9] at Z7 HB7 ⊢
   clear hg9
   try go_frame
   refine rd1 6 (fun K hK => ?_)
   ·go_simp
    refine (HGET.out _ hH).mono ?_
    rintro e v106 ⟨rfl,hba⟩
    have Z7:=hyq (Z7.out.on hba)
    refine hK.out _ _ (bch hH hba) (fun hH => ?_)
    clear hba
    try go_frame
    refine tk 7 hH ?_; try go_frame
    refine tk 8 hH ?_; try go_frame
    refine tk 9 hH ?_; try go_frame
    refine rd1 11 (fun K hK => ?_)
    ·refine wp_store_if (by rfl) 59 (.tmp 5) (.tmp 15) rfl b7 59 It.nil.arr y.arr rfl rfl Z7.out (info35 _) rfl (iarr_one _) ?_
     have Z8 : Hid (Box (v106.setRow b7 y.arr) b7 59 y.arr):=hyq (Z7.out.row _)
     refine hK.out _ _ (below_row hH HB7.out _) (fun hH => ?_)
     clear Z7
     (try simp only [Act.put])
     refine tk 12 hH ?_; try go_frame
     refine wpAnyH_done (by kernel_rfl) ?_ _
     first | refine hK2 _ _ (Met.intro (hJ _ _ ?_)) | refine Met.intro (hJ _ _ ?_)
     (repeat apply Exists.intro)
     refine ⟨?_,rfl⟩
     exact ⟨_,rfl,rfl,Z8,hyq hH,HB7⟩
 case rest =>
  obtain ⟨b7,rfl,rfl,Z7,HB,HB7⟩:=hcut
  obtain ⟨w2,hw2⟩:=nmq (wc)
  rw [← hw2] at HB Z7 ⊢
  have HB2:=hyq (bch HB1.out (bch HV2.out HB.out))
  have X2:=hyq (XO.out.on HB.out)
  have HG2:=hyq (HGV.out.on HB.out)
  have HT2:=hyq (HTV.out.on HB.out)
  obtain ⟨c0,c1,c2⟩:=Z7.out.it
  have p1 : w2.cell? ⟨bo,1,none⟩ = some (.string ⟨o.path.toArray⟩):=X2.out.cell (k:=1) rfl
  have p3 : w2.cell? ⟨bo,3,none⟩ = some (.string ⟨o.data.toArray⟩):=X2.out.cell (k:=3) rfl
  clear hw2 XG HGET hvs hv0
  cases q with
  | none =>
   obtain rfl : is = false:=HI.out
   have HR : Hid (r = .error 4):=hyq (by rw [HR0.out]; unfold extendM; rw [HQ.out])
   go_wp2_with fail
   go_ret
   exact GrR.no HR.out HG.out HB2.out
  | some z =>
   obtain rfl : is = true:=HI.out
   obtain rfl : y = z:=HY.out
   by_cases hk : y.kind = 2
   ·have t1 : (y.kind != 2) = false:=by simp [hk]
    have t1' : (y.kind == 2) = true:=by simp [hk]
    obtain ⟨hyp,hyl⟩:=path_of HOK.out HQ.out (by omega)
    have hyd:=file_data HOK.out hyl hk
    have HR1 : Hid (r = if 524288 < y.data.length + o.data.length then .error 3 else .ok (putL l [⟨o.path,2,y.data ++ o.data⟩] o.path)):=hyq (by rw [HR0.out]; unfold extendM; rw [HQ.out]; simp only; rw [if_neg (by simpa using hk)])
    have HK:=hyq hk
    have HYP:=hyq hyp
    clear hk hyp hyl
    by_cases hlen : 524288 < y.data.length + o.data.length
    ·have t2 : (524288 : Int) < (y.data.length : Int) + (o.data.length : Int):=by omega
     have HR : Hid (r = .error 3):=hyq (by rw [HR1.out,if_pos hlen])
     clear hlen
     go_wp2_with fail
     go_ret
     exact GrR.no HR.out HG.out HB2.out
    ·have t2 : ¬ (524288 : Int) < (y.data.length : Int) + (o.data.length : Int):=by omega
     have t3 : ¬ 9223372036854775807 < y.data.length + o.data.length:=by omega
     have HR : Hid (r = .ok (putL l [⟨o.path,2,y.data ++ o.data⟩] o.path)):=hyq (by rw [HR1.out,if_neg hlen])
     have f2:=frozen_of_row w2 b7 2 _ _ Z7.out
     obtain ⟨w3,hw3⟩:=nmq (w2.setCell ⟨b7,2,none⟩ (.string (⟨y.data.toArray⟩ ++ ⟨o.data.toArray⟩)))
     obtain ⟨x,hx⟩ : ∃ x : It,x = ⟨y.path,y.kind,y.data ++ o.data⟩:=⟨_,rfl⟩
     have Z9 : Hid (Box w3 b7 59 x.arr):=hyq (by
      have:=Z7.out.set (k:=2) (.string (⟨y.data.toArray⟩ ++ ⟨o.data.toArray⟩))
      rw [← hw3,ba_app] at this
      rw [hx]
      exact this)
     have HB3 : Hid (Below w.heap.size w w3):=hyq (by rw [hw3]; exact HB2.out.setCell (p:=⟨b7,2,none⟩) (Nat.le_trans (Nat.le_trans HB1.out.size HV2.out.size) HB7.out) _)
     have HBV3 : Hid (Below vs.heap.size vs w3):=hyq (by rw [hw3]; exact HB.out.setCell (p:=⟨b7,2,none⟩) HB7.out _)
     have HG3:=hyq (HGV.out.on HBV3.out)
     have HP:=hyq (put_one B b _ l x w3 HG3.out HOK.out (by rw [hx]; show validB y.path = true; rw [HYP.out]; exact HV.out))
     have HE : Hid (putL l [x] x.path = putL l [⟨o.path,2,y.data ++ o.data⟩] o.path):=hyq (by rw [hx]; show putL l [⟨y.path,y.kind,_⟩] y.path = _; rw [HYP.out,HK.out])
     clear hlen hx
     go_upto_region 9 with fail
     rw [← hw3]
     clear hw3 c0 c1 c2 p1 p3 f2
     obtain ⟨c0,c1,c2⟩:=Z9.out.it
     go_wp2_with fail
     refine HP.out.mono ?_
     rintro e w4 ⟨v',rfl,hG4,hN4⟩
     rw [HE.out] at hG4
     have HE4:=hyq (GrR.yes (w:=w) (v:=.slice a n c) (l:=l) HR.out hG4 ((Nxt.below HB3.out b _).trans hN4))
     clear hG4 hN4 c0 c1 c2
     go_wp2_with fail
     go_ret
     exact HE4.out
   ·have t1 : (y.kind != 2) = true:=by simp [hk]
    have t1' : (y.kind == 2) = false:=by simp [hk]
    have HR : Hid (r = .error 161):=hyq (by rw [HR0.out]; unfold extendM; rw [HQ.out]; simp only; rw [if_pos hk])
    clear hk
    go_wp2_with fail
    go_ret
    exact GrR.no HR.out HG.out HB2.out
theorem write_any (B b : Nat) (v : Value) (l : List It) (o : Opn) (w : World) (hG : Gr w B b v l) (h : TreeOk l) (hv : validB o.path = true) (hT : Tabs w) :
  Calls Tryz.prog 64 #[.pointer (some ⟨b,0,none⟩),.agg o.arr] w (GrR B b v l (writeM l o.path o.data) w):=by
 obtain ⟨w1,hw1⟩:=nmq (w.alloc (.cells o.arr 46))
 have hpl : o.path.length ≤ 140737488355328:=Nat.le_trans (valid_len _ hv) (by decide)
 obtain ⟨bo,hbo⟩:=nmq (w.heap.size)
 have X1 : Hid (Box w1 bo 46 o.arr):=hyq (by rw [hw1,hbo]; exact box_new)
 have HB1 : Hid (Below w.heap.size w w1):=hyq (by rw [hw1]; exact below_new _ _)
 have HG1 : Hid (Gr w1 B b v l):=hyq (hG.on HB1.out)
 have HT1 : Hid (Tabs w1):=hyq (hT.on HB1.out)
 have HG:=hyq hG
 have HOK:=hyq h
 have HV:=hyq hv
 obtain ⟨z,hz⟩:=nmq (openM l o.path)
 have HOP : Hid (Calls Tryz.prog 86 #[.pointer (some ⟨b,0,none⟩),.string ⟨o.path.toArray⟩] w1 fun e w' => e = .returned (.int .i64 z) ∧ Below w1.heap.size w1 w'):=hyq (by
  rw [hz]
  exact open_any B b v l o.path w1 HG1.out (srt_of h) h.many (tree_sz h) hv HT1.out)
 have q1 : w1.cell? ⟨bo,1,none⟩ = some (.string ⟨o.path.toArray⟩):=X1.out.cell (k:=1) rfl
 obtain ⟨r,hr⟩:=nmq (writeM l o.path o.data)
 rw [← hr]
 by_cases hz0 : z = 0
 ·have HR0 : Hid (r = match getI l o.path with | some x => if x.kind = 2 then .ok (putL l [⟨o.path,2,o.data⟩] o.path) else .error 161 | none => if l.length = 2000 then .error 6 else .ok (putL l [⟨o.path,2,o.data⟩] o.path)):=hyq (by rw [hr]; unfold writeM; rw [if_neg (by rw [← hz]; simpa using hz0)]; cases getI l o.path <;> rfl)
  subst hz0
  clear hz hr hv h hT hG
  go_enter Tryz.func64,Tryz.ntmps64
  go_upto_region 1 with fail
  rw [← hw1,← hbo]
  clear hw1 hbo
  go_wp2_with fail
  refine HOP.out.mono ?_
  rintro e wo ⟨rfl,hb⟩
  have Xo:=hyq (X1.out.on hb)
  have HBo:=hyq (bch HB1.out hb)
  have HGo:=hyq (HG1.out.on hb)
  have HTo:=hyq (HT1.out.on hb)
  clear hb HOP q1
  go_upto_region 4 with fail
  obtain ⟨q,hq⟩ : ∃ q,getI l o.path = q:=⟨_,rfl⟩
  obtain ⟨y,hy⟩:=nmq (q.getD .nil)
  obtain ⟨is,his⟩:=nmq (q.isSome)
  obtain ⟨v0,hv0⟩:=nmq (World.drew wo)
  obtain ⟨vs,hvs⟩:=nmq (World.drew wo)
  have HGV : Hid (Gr vs B b v l):=hyq (by rw [hvs]; exact HGo.out.drew)
  have HTV : Hid (Tabs vs):=hyq (by rw [hvs]; exact HTo.out.on ((Below.refl _ _).drew))
  have HV2 : Hid (Below wo.heap.size wo vs):=hyq (by rw [hvs]; exact (Below.refl _ _).drew)
  have XO : Hid (Box vs bo 46 o.arr):=hyq (Xo.out.on HV2.out)
  obtain ⟨a,n,c,rfl⟩:=own_any HGV.out.own
  have XG : Hid (Box vs b 78 #[.slice a n c]):=hyq HGV.out.box
  have HGET : Hid (∀ W,Below vs.heap.size vs W → Calls Tryz.prog 49 #[.slice a n c,.string ⟨o.path.toArray⟩] W fun e w' => e = .returned (.tuple #[.agg y.arr,.bool is]) ∧ Below W.heap.size W w'):=hyq (fun W hW => by
   have:=tget_gen l (.slice a n c) o.path W (srt_of HOK.out) HOK.out.many (HGV.out.on hW).rd (tree_sz HOK.out) (Nat.le_trans (valid_len _ HV.out) (by decide)) (HTV.out.on hW)
   rw [hq] at this
   rw [hy,his]
   exact this)
  have HQ:=hyq hq
  have HY:=hyq hy
  have HI:=hyq his
  clear hq hy his hpl
  go_cut [6,7] (CutG vs y is)
  case first =>
   rename_i J2 K2 hJ hK2
   refine wp_region_held_drew (S:=fun w' => Below vs.heap.size vs w') (by kernel_rfl) (by rw [hvs]; exact Below.refl _ _) (fun hH => ?_)
   rw [← hv0] at hH ⊢
   clear hv0 hvs
   refine tk 0 hH ?_; try go_frame
   refine tk 1 hH ?_; try go_frame
   refine tk 2 hH ?_; try go_frame
   refine tkf 3 rfl (fun w hSw => by have p0 : w.cell? ⟨b,0,none⟩ = some (.slice a n c):=(XG.out.on hSw).cell (k:=0) rfl; go_simp; try with_reducible rfl) hH ?_; try go_frame
   refine tk 4 hH ?_; try go_frame
   refine tkf 5 rfl (fun w hSw => by have p0 : w.cell? ⟨bo,1,none⟩ = some (.string ⟨o.path.toArray⟩):=(XO.out.on hSw).cell (k:=1) rfl; go_simp; try with_reducible rfl) hH ?_; try go_frame
   refine rd2 6 10 (fun K hK => ?_) (fun K hK => ?_)
   ·go_simp
    refine (HGET.out _ hH).mono ?_
    rintro e v106 ⟨rfl,hba⟩
    refine hK.out _ _ (bch hH hba) (fun hH => ?_)
    clear hba
    try go_frame
    refine tk 7 hH ?_; try go_frame
    refine tk 8 hH ?_; try go_frame
    refine tk 9 hH ?_; try go_frame
    refine rd1 10 (fun K hK => ?_)
    ·go_simp
     have hba : Below v106.heap.size v106 (v106.alloc (.cells #[.string ⟨#[]⟩,.int .i64 0,.string ⟨#[]⟩] 59)):=below_new _ _
     have Z7 : Hid (Box (v106.alloc (.cells #[.string ⟨#[]⟩,.int .i64 0,.string ⟨#[]⟩] 59)) v106.heap.size 59 It.nil.arr):=hyq box_new
     have HB7 : Hid (vs.heap.size ≤ v106.heap.size):=hyq hH.size
     obtain ⟨v110,hv9⟩:=nmq ((v106.alloc (.cells #[.string ⟨#[]⟩,.int .i64 0,.string ⟨#[]⟩] 59)))
     refine hK.out _ _ (bch hH hba) (fun hH => ?_)
     clear hba
     rw [← hv9] at Z7 hH ⊢
     clear hv9
     obtain ⟨b7,hg9⟩:=nmq (v106.heap.size)
     rw [← hg9] at Z7 HB7 ⊢
     clear hg9
     try go_frame
     refine rd1 11 (fun K hK => ?_)
     ·refine wp_store_if (by rfl) 59 (.tmp 6) (.tmp 23) rfl b7 59 It.nil.arr y.arr rfl rfl Z7.out (info35 _) rfl (iarr_one _) ?_
      have Z8 : Hid (Box (v110.setRow b7 y.arr) b7 59 y.arr):=hyq (Z7.out.row _)
      refine hK.out _ _ (below_row hH HB7.out _) (fun hH => ?_)
      clear Z7
      (try simp only [Act.put])
      refine tk 12 hH ?_; try go_frame
      refine wpAnyH_done (by kernel_rfl) ?_ _
      first | refine hK2 _ _ (Met.intro (hJ _ _ ?_)) | refine Met.intro (hJ _ _ ?_)
      (repeat apply Exists.intro)
      refine ⟨?_,rfl⟩
      exact ⟨_,rfl,rfl,Z8,hyq hH,HB7⟩
   ·go_simp
    have hba : Below v0.heap.size v0 (v0.alloc (.cells #[.string ⟨#[]⟩,.int .i64 0,.string ⟨#[]⟩] 59)):=below_new _ _
    have Z7 : Hid (Box (v0.alloc (.cells #[.string ⟨#[]⟩,.int .i64 0,.string ⟨#[]⟩] 59)) v0.heap.size 59 It.nil.arr):=hyq box_new
    have HB7 : Hid (vs.heap.size ≤ v0.heap.size):=hyq hH.size
    obtain ⟨v110,hv9⟩:=nmq ((v0.alloc (.cells #[.string ⟨#[]⟩,.int .i64 0,.string ⟨#[]⟩] 59)))
    refine hK.out _ _ (bch hH hba) (fun hH => ?_)
    clear hba
    rw [← hv9] at Z7 hH ⊢
    clear hv9
    obtain ⟨b7,hg9⟩:=nmq (v0.heap.size)
    rw [← hg9] at Z7 HB7 ⊢
    clear hg9
    try go_frame
    refine rd1 6 (fun K hK => ?_)
    ·go_simp
     refine (HGET.out _ hH).mono ?_
     rintro e v106 ⟨rfl,hba⟩
     have Z7:=hyq (Z7.out.on hba)
     refine hK.out _ _ (bch hH hba) (fun hH => ?_)
     clear hba
     try go_frame
     refine tk 7 hH ?_; try go_frame
     refine tk 8 hH ?_; try go_frame
     refine tk 9 hH ?_; try go_frame
     refine rd1 11 (fun K hK => ?_)
     ·refine wp_store_if (by rfl) 59 (.tmp 6) (.tmp 23) rfl b7 59 It.nil.arr y.arr rfl rfl Z7.out (info35 _) rfl (iarr_one _) ?_
      have Z8 : Hid (Box (v106.setRow b7 y.arr) b7 59 y.arr):=hyq (Z7.out.row _)
      refine hK.out _ _ (below_row hH HB7.out _) (fun hH => ?_)
      clear Z7
      (try simp only [Act.put])
      refine tk 12 hH ?_; try go_frame
      refine wpAnyH_done (by kernel_rfl) ?_ _
      first | refine hK2 _ _ (Met.intro (hJ _ _ ?_)) | refine Met.intro (hJ _ _ ?_)
      (repeat apply Exists.intro)
      refine ⟨?_,rfl⟩
      exact ⟨_,rfl,rfl,Z8,hyq hH,HB7⟩
  case rest =>
   obtain ⟨b7,rfl,rfl,Z7,HB,HB7⟩:=hcut
   obtain ⟨w2,hw2⟩:=nmq (wc)
   rw [← hw2] at HB Z7 ⊢
   have HB2:=hyq (bch HBo.out (bch HV2.out HB.out))
   have X2:=hyq (XO.out.on HB.out)
   have HG2:=hyq (HGV.out.on HB.out)
   have HT2:=hyq (HTV.out.on HB.out)
   obtain ⟨c0,c1,c2⟩:=Z7.out.it
   have p1 : w2.cell? ⟨bo,1,none⟩ = some (.string ⟨o.path.toArray⟩):=X2.out.cell (k:=1) rfl
   have p3 : w2.cell? ⟨bo,3,none⟩ = some (.string ⟨o.data.toArray⟩):=X2.out.cell (k:=3) rfl
   clear hw2 XG HGET hvs hv0
   have bl:=built35 ⟨o.path.toArray⟩ ⟨o.data.toArray⟩ 2
   have HPP : Hid (∀ W,Gr W B b (.slice a n c) l → Calls Tryz.prog 88 #[.pointer (some ⟨b,0,none⟩),.slice (some ⟨W.heap.size,0,none⟩) 1 1] (W.alloc (.cells #[.string ⟨o.path.toArray⟩,.int .i64 2,.string ⟨o.data.toArray⟩] 59)) (DoneR B b (.slice a n c) (putL l [⟨o.path,2,o.data⟩] o.path) W)):=hyq (fun W hW => put_one B b _ l ⟨o.path,2,o.data⟩ W hW HOK.out HV.out)
   rw [HQ.out] at HR0
   cases q with
   | none =>
    obtain rfl : is = false:=HI.out
    have HF:=hyq (full_any B b _ l w2 HG2.out)
    by_cases hf : l.length = 2000
    ·have HR : Hid (r = .error 6):=hyq (by rw [HR0.out]; simp only; rw [if_pos hf])
     have HD : Hid (decide (l.length = 2000) = true):=hyq (decide_eq_true hf)
     rw [HD.out] at HF
     clear hf
     go_wp2_with fail
     refine HF.out.mono ?_
     rintro e w4 ⟨rfl,rfl⟩
     go_wp2_with fail
     go_ret
     exact GrR.no HR.out HG.out HB2.out
    ·have HR : Hid (r = .ok (putL l [⟨o.path,2,o.data⟩] o.path)):=hyq (by rw [HR0.out]; simp only; rw [if_neg hf])
     have HD : Hid (decide (l.length = 2000) = false):=hyq (decide_eq_false hf)
     rw [HD.out] at HF
     have HP:=hyq (HPP.out w2 HG2.out)
     clear hf
     go_wp2_with fail
     refine HF.out.mono ?_
     rintro e w4 ⟨rfl,rfl⟩
     go_wp2_with fail
     refine HP.out.mono ?_
     rintro e w4 ⟨v',rfl,hG4,hN4⟩
     have HE:=hyq (GrR.yes (w:=w) (v:=.slice a n c) (l:=l) HR.out hG4 ((Nxt.below HB2.out b _).trans hN4))
     clear hG4 hN4 c0 c1 c2 p1 p3
     go_wp2_with fail
     go_ret
     exact HE.out
   | some y' =>
    obtain rfl : is = true:=HI.out
    obtain rfl : y = y':=HY.out
    by_cases hk : y.kind = 2
    ·have t1 : (y.kind != 2) = false:=by simp [hk]
     have t1' : (y.kind == 2) = true:=by simp [hk]
     have HR : Hid (r = .ok (putL l [⟨o.path,2,o.data⟩] o.path)):=hyq (by rw [HR0.out]; simp only; rw [if_pos hk])
     have HP:=hyq (HPP.out w2 HG2.out)
     clear hk
     go_wp2_with fail
     refine HP.out.mono ?_
     rintro e w4 ⟨v',rfl,hG4,hN4⟩
     have HE:=hyq (GrR.yes (w:=w) (v:=.slice a n c) (l:=l) HR.out hG4 ((Nxt.below HB2.out b _).trans hN4))
     clear hG4 hN4 c0 c1 c2 p1 p3
     go_wp2_with fail
     go_ret
     exact HE.out
    ·have t1 : (y.kind != 2) = true:=by simp [hk]
     have t1' : (y.kind == 2) = false:=by simp [hk]
     have HR : Hid (r = .error 161):=hyq (by rw [HR0.out]; simp only; rw [if_neg hk])
     clear hk
     go_wp2_with fail
     go_ret
     exact GrR.no HR.out HG.out HB2.out
 ·have HR : Hid (r = .error z):=hyq (by rw [hr]; unfold writeM; rw [← hz,if_pos hz0])
  have t1 : (z == 0) = false:=by simpa using hz0
  have t2 : (z != 0) = true:=by simpa using hz0
  clear hz0 hz hr hv h hT hG
  go_enter Tryz.func64,Tryz.ntmps64
  go_upto_region 1 with fail
  rw [← hw1,← hbo]
  clear hw1 hbo
  go_wp2_with fail
  refine HOP.out.mono ?_
  rintro e w2 ⟨rfl,hb⟩
  have HB2:=hyq (bch HB1.out hb)
  clear hb HOP q1
  go_wp2_with fail
  go_ret
  exact GrR.no HR.out HG.out HB2.out
end Go.Proofs.YtigopecainocgaaGreatDoor
