/- Proved here: unlink and rmdir of package tree. -/
import Derived.Test.YtigopecainocgaaGreatDoorTK
import Derived.Test.YtigopecainocgaaGreatDoorOBusy
import Derived.Test.YtigopecainocgaaGreatDoorOMath4
set_option maxRecDepth 100000
set_option maxHeartbeats 32000000
namespace Go.Proofs.YtigopecainocgaaGreatDoor
open Go.RowKit Go.Shelf
def Opn.arr (o : Opn) : Array Value:=#[.int .i64 o.kind,.string ⟨o.path.toArray⟩,.string ⟨o.to.toArray⟩,.string ⟨o.data.toArray⟩]
theorem unlink_any (B b : Nat) (v : Value) (l : List It) (o : Opn) (w : World) (hG : Gr w B b v l) (h : TreeOk l) (hv : validB o.path = true) (hT : Tabs w) :
  Calls Tryz.prog 68 #[.pointer (some ⟨b,0,none⟩),.agg o.arr] w (GrR B b v l (unlinkM l o.path) w):=by
 obtain ⟨w1,hw1⟩:=nmq (w.alloc (.cells o.arr 46))
 have hpl : o.path.length ≤ 140737488355328:=Nat.le_trans (valid_len _ hv) (by decide)
 obtain ⟨bo,hbo⟩:=nmq (w.heap.size)
 have X1 : Hid (Box w1 bo 46 o.arr):=hyq (by rw [hw1,hbo]; exact box_new)
 have HB1 : Hid (Below w.heap.size w w1):=hyq (by rw [hw1]; exact below_new _ _)
 have HG1 : Hid (Gr w1 B b v l):=hyq (hG.on HB1.out)
 have HT1 : Hid (Tabs w1):=hyq (hT.on HB1.out)
 have HG:=hyq hG
 have HOK:=hyq h
 have HV:=hyq hv
 obtain ⟨r,hr⟩:=nmq (unlinkM l o.path)
 rw [← hr]
 obtain ⟨q,hq⟩ : ∃ q,getI l o.path = q:=⟨_,rfl⟩
 obtain ⟨y,hy⟩:=nmq (q.getD .nil)
 obtain ⟨is,his⟩:=nmq (q.isSome)
 obtain ⟨v0,hv0⟩:=nmq (World.drew w1)
 obtain ⟨vs,hvs⟩:=nmq (World.drew w1)
 have HGV : Hid (Gr vs B b v l):=hyq (by rw [hvs]; exact HG1.out.drew)
 have HTV : Hid (Tabs vs):=hyq (by rw [hvs]; exact HT1.out.on ((Below.refl _ _).drew))
 have HV2 : Hid (Below w1.heap.size w1 vs):=hyq (by rw [hvs]; exact (Below.refl _ _).drew)
 have XO : Hid (Box vs bo 46 o.arr):=hyq (X1.out.on HV2.out)
 obtain ⟨a,n,c,rfl⟩:=own_any HGV.out.own
 have XG : Hid (Box vs b 78 #[.slice a n c]):=hyq HGV.out.box
 have HGET : Hid (∀ W,Below vs.heap.size vs W → Calls Tryz.prog 49 #[.slice a n c,.string ⟨o.path.toArray⟩] W fun e w' => e = .returned (.tuple #[.agg y.arr,.bool is]) ∧ Below W.heap.size W w'):=hyq (fun W hW => by
  have:=tget_gen l (.slice a n c) o.path W (srt_of HOK.out) HOK.out.many (HGV.out.on hW).rd (tree_sz HOK.out) (Nat.le_trans (valid_len _ HV.out) (by decide)) (HTV.out.on hW)
  rw [hq] at this
  rw [hy,his]
  exact this)
 have HQ:=hyq hq
 have HY:=hyq hy
 have HI:=hyq his
 have HR0:=hyq hr
 clear hq hy his hpl hr hG h hv hT
 go_enter Tryz.func68,Tryz.ntmps68
 go_upto_region 1 with fail
 rw [← hw1,← hbo]
 clear hw1 hbo
 go_cut [5,6] (CutG vs y is)
 case first =>
  rename_i J2 K2 hJ hK2
  refine wp_region_held_drew (S:=fun w' => Below vs.heap.size vs w') (by kernel_rfl) (by rw [hvs]; exact Below.refl _ _) (fun hH => ?_)
  rw [← hv0] at hH ⊢
  clear hv0 hvs
  refine tk 0 hH ?_; try go_frame
  refine tk 1 hH ?_; try go_frame
  refine tk 2 hH ?_; try go_frame
  refine tkf 3 rfl (fun w hSw => by have p0 : w.cell? ⟨b,0,none⟩ = some (.slice a n c):=(XG.out.on hSw).cell (k:=0) rfl; go_simp; try with_reducible rfl) hH ?_; try go_frame
  refine tk 4 hH ?_; try go_frame
  refine tkf 5 rfl (fun w hSw => by have p0 : w.cell? ⟨bo,1,none⟩ = some (.string ⟨o.path.toArray⟩):=(XO.out.on hSw).cell (k:=1) rfl; go_simp; try with_reducible rfl) hH ?_; try go_frame
  refine rd2 6 10 (fun K hK => ?_) (fun K hK => ?_)
  ·go_simp
   refine (HGET.out _ hH).mono ?_
   rintro e v106 ⟨rfl,hba⟩
   refine hK.out _ _ (bch hH hba) (fun hH => ?_)
   clear hba
   try go_frame
   refine tk 7 hH ?_; try go_frame
   refine tk 8 hH ?_; try go_frame
   refine tk 9 hH ?_; try go_frame
   refine rd1 10 (fun K hK => ?_)
   ·go_simp
    have hba : Below v106.heap.size v106 (v106.alloc (.cells #[.string ⟨#[]⟩,.int .i64 0,.string ⟨#[]⟩] 59)):=below_new _ _
    have Z7 : Hid (Box (v106.alloc (.cells #[.string ⟨#[]⟩,.int .i64 0,.string ⟨#[]⟩] 59)) v106.heap.size 59 It.nil.arr):=hyq box_new
    have HB7 : Hid (vs.heap.size ≤ v106.heap.size):=hyq hH.size
    obtain ⟨v110,hv9⟩:=nmq ((v106.alloc (.cells #[.string ⟨#[]⟩,.int .i64 0,.string ⟨#[]⟩] 59)))
    refine hK.out _ _ (bch hH hba) (fun hH => ?_)
    clear hba
    rw [← hv9] at Z7 hH ⊢
    clear hv9
    obtain ⟨b7,hg9⟩:=nmq (v106.heap.size)
    rw [← hg9] at Z7 HB7 ⊢
    clear hg9
    try go_frame
    refine rd1 11 (fun K hK => ?_)
    ·refine wp_store_if (by rfl) 59 (.tmp 5) (.tmp 15) rfl b7 59 It.nil.arr y.arr rfl rfl Z7.out (info35 _) rfl (iarr_one _) ?_
     have Z8 : Hid (Box (v110.setRow b7 y.arr) b7 59 y.arr):=hyq (Z7.out.row _)
     refine hK.out _ _ (below_row hH HB7.out _) (fun hH => ?_)
     clear Z7
     (try simp only [Act.put])
     refine tk 12 hH ?_; try go_frame
     refine wpAnyH_done (by kernel_rfl) ?_ _
     first | refine hK2 _ _ (Met.intro (hJ _ _ ?_)) | refine Met.intro (hJ _ _ ?_)
     (repeat apply Exists.intro)
     refine ⟨?_,rfl⟩
     exact ⟨_,rfl,rfl,Z8,hyq hH,HB7⟩
  ·go_simp
   have hba : Below v0.heap.size v0 (v0.alloc (.cells #[.string ⟨#[]⟩,.int .i64 0,.string ⟨#[]⟩] 59)):=below_new _ _
   have Z7 : Hid (Box (v0.alloc (.cells #[.string ⟨#[]⟩,.int .i64 0,.string ⟨#[]⟩] 59)) v0.heap.size 59 It.nil.arr):=hyq box_new
   have HB7 : Hid (vs.heap.size ≤ v0.heap.size):=hyq hH.size
   obtain ⟨v110,hv9⟩:=nmq ((v0.alloc (.cells #[.string ⟨#[]⟩,.int .i64 0,.string ⟨#[]⟩] 59)))
   refine hK.out _ _ (bch hH hba) (fun hH => ?_)
   clear hba
   rw [← hv9] at Z7 hH ⊢
   clear hv9
   obtain ⟨b7,hg9⟩:=nmq (v0.heap.size)
   rw [← hg9] at Z7 HB7 ⊢
   clear hg9
   try go_frame
   refine rd1 6 (fun K hK => ?_)
   ·go_simp
    refine (HGET.out _ hH).mono ?_
    rintro e v106 ⟨rfl,hba⟩
    have Z7:=hyq (Z7.out.on hba)
    refine hK.out _ _ (bch hH hba) (fun hH => ?_)
    clear hba
    try go_frame
    refine tk 7 hH ?_; try go_frame
    refine tk 8 hH ?_; try go_frame
    refine tk 9 hH ?_; try go_frame
    refine rd1 11 (fun K hK => ?_)
    ·refine wp_store_if (by rfl) 59 (.tmp 5) (.tmp 15) rfl b7 59 It.nil.arr y.arr rfl rfl Z7.out (info35 _) rfl (iarr_one _) ?_
     have Z8 : Hid (Box (v106.setRow b7 y.arr) b7 59 y.arr):=hyq (Z7.out.row _)
     refine hK.out _ _ (below_row hH HB7.out _) (fun hH => ?_)
     clear Z7
     (try simp only [Act.put])
     refine tk 12 hH ?_; try go_frame
     refine wpAnyH_done (by kernel_rfl) ?_ _
     first | refine hK2 _ _ (Met.intro (hJ _ _ ?_)) | refine Met.intro (hJ _ _ ?_)
     (repeat apply Exists.intro)
     refine ⟨?_,rfl⟩
     exact ⟨_,rfl,rfl,Z8,hyq hH,HB7⟩
 case rest =>
  obtain ⟨b7,rfl,rfl,Z7,HB,HB7⟩:=hcut
  obtain ⟨w2,hw2⟩:=nmq (wc)
  rw [← hw2] at HB Z7 ⊢
  have HB2:=hyq (bch HB1.out (bch HV2.out HB.out))
  have X2:=hyq (XO.out.on HB.out)
  have HG2:=hyq (HGV.out.on HB.out)
  have HT2:=hyq (HTV.out.on HB.out)
  obtain ⟨c0,c1,c2⟩:=Z7.out.it
  have p1 : w2.cell? ⟨bo,1,none⟩ = some (.string ⟨o.path.toArray⟩):=X2.out.cell (k:=1) rfl
  have p3 : w2.cell? ⟨bo,3,none⟩ = some (.string ⟨o.data.toArray⟩):=X2.out.cell (k:=3) rfl
  clear hw2 XG HGET hvs hv0
  cases q with
  | none =>
   obtain rfl : is = false:=HI.out
   have HR : Hid (r = .error 4):=hyq (by rw [HR0.out]; unfold unlinkM; rw [HQ.out])
   go_wp2_with fail
   go_ret
   exact GrR.no HR.out HG.out HB2.out
  | some z =>
   obtain rfl : is = true:=HI.out
   obtain rfl : y = z:=HY.out
   by_cases hk : y.kind = 1
   ·have t1 : (y.kind == 1) = true:=by simp [hk]
    have HR : Hid (r = .error 161):=hyq (by rw [HR0.out]; unfold unlinkM; rw [HQ.out]; simp only; rw [if_pos hk])
    clear hk
    go_wp2_with fail
    go_ret
    exact GrR.no HR.out HG.out HB2.out
   ·have t1 : (y.kind == 1) = false:=by simp [hk]
    have HR : Hid (r = .ok (takeL l o.path 1)):=hyq (by rw [HR0.out]; unfold unlinkM; rw [HQ.out]; simp only; rw [if_neg hk])
    have HP:=hyq (take_any B b _ l o.path 1 w2 HG2.out (srt_of HOK.out) HOK.out.many (tree_sz HOK.out) (Nat.le_trans (valid_len _ HV.out) (by decide)) (by omega) (has_lt (has_some (srt_of HOK.out) HQ.out (kind_root HQ.out hk))))
    clear hk
    go_wp2_with fail
    refine HP.out.mono ?_
    rintro e w4 ⟨v',rfl,hG4,hN4⟩
    have HE:=hyq (GrR.yes (w:=w) (v:=.slice a n c) (l:=l) HR.out hG4 ((Nxt.below HB2.out b _).trans hN4))
    clear hG4 hN4 c0 c1 c2 p1 p3
    go_wp2_with fail
    go_ret
    exact HE.out
theorem rmdir_any (B b : Nat) (v : Value) (l : List It) (o : Opn) (w : World) (hG : Gr w B b v l) (h : TreeOk l) (hv : validB o.path = true) (hT : Tabs w) :
  Calls Tryz.prog 69 #[.pointer (some ⟨b,0,none⟩),.agg o.arr] w (GrR B b v l (rmdirM l o.path) w):=by
 obtain ⟨w1,hw1⟩:=nmq (w.alloc (.cells o.arr 46))
 have hpl : o.path.length ≤ 140737488355328:=Nat.le_trans (valid_len _ hv) (by decide)
 obtain ⟨bo,hbo⟩:=nmq (w.heap.size)
 have X1 : Hid (Box w1 bo 46 o.arr):=hyq (by rw [hw1,hbo]; exact box_new)
 have HB1 : Hid (Below w.heap.size w w1):=hyq (by rw [hw1]; exact below_new _ _)
 have HG1 : Hid (Gr w1 B b v l):=hyq (hG.on HB1.out)
 have HT1 : Hid (Tabs w1):=hyq (hT.on HB1.out)
 have HG:=hyq hG
 have HOK:=hyq h
 have HV:=hyq hv
 obtain ⟨r,hr⟩:=nmq (rmdirM l o.path)
 rw [← hr]
 obtain ⟨q,hq⟩ : ∃ q,getI l o.path = q:=⟨_,rfl⟩
 obtain ⟨y,hy⟩:=nmq (q.getD .nil)
 obtain ⟨is,his⟩:=nmq (q.isSome)
 obtain ⟨v0,hv0⟩:=nmq (World.drew w1)
 obtain ⟨vs,hvs⟩:=nmq (World.drew w1)
 have HGV : Hid (Gr vs B b v l):=hyq (by rw [hvs]; exact HG1.out.drew)
 have HTV : Hid (Tabs vs):=hyq (by rw [hvs]; exact HT1.out.on ((Below.refl _ _).drew))
 have HV2 : Hid (Below w1.heap.size w1 vs):=hyq (by rw [hvs]; exact (Below.refl _ _).drew)
 have XO : Hid (Box vs bo 46 o.arr):=hyq (X1.out.on HV2.out)
 obtain ⟨a,n,c,rfl⟩:=own_any HGV.out.own
 have XG : Hid (Box vs b 78 #[.slice a n c]):=hyq HGV.out.box
 have HGET : Hid (∀ W,Below vs.heap.size vs W → Calls Tryz.prog 49 #[.slice a n c,.string ⟨o.path.toArray⟩] W fun e w' => e = .returned (.tuple #[.agg y.arr,.bool is]) ∧ Below W.heap.size W w'):=hyq (fun W hW => by
  have:=tget_gen l (.slice a n c) o.path W (srt_of HOK.out) HOK.out.many (HGV.out.on hW).rd (tree_sz HOK.out) (Nat.le_trans (valid_len _ HV.out) (by decide)) (HTV.out.on hW)
  rw [hq] at this
  rw [hy,his]
  exact this)
 have HQ:=hyq hq
 have HY:=hyq hy
 have HI:=hyq his
 have HR0:=hyq hr
 clear hq hy his hpl hr hG h hv hT
 go_enter Tryz.func69,Tryz.ntmps69
 go_upto_region 1 with fail
 rw [← hw1,← hbo]
 clear hw1 hbo
 go_cut [5,6] (CutG vs y is)
 case first =>
  rename_i J2 K2 hJ hK2
  refine wp_region_held_drew (S:=fun w' => Below vs.heap.size vs w') (by kernel_rfl) (by rw [hvs]; exact Below.refl _ _) (fun hH => ?_)
  rw [← hv0] at hH ⊢
  clear hv0 hvs
  refine tk 0 hH ?_; try go_frame
  refine tk 1 hH ?_; try go_frame
  refine tk 2 hH ?_; try go_frame
  refine tkf 3 rfl (fun w hSw => by have p0 : w.cell? ⟨b,0,none⟩ = some (.slice a n c):=(XG.out.on hSw).cell (k:=0) rfl; go_simp; try with_reducible rfl) hH ?_; try go_frame
  refine tk 4 hH ?_; try go_frame
  refine tkf 5 rfl (fun w hSw => by have p0 : w.cell? ⟨bo,1,none⟩ = some (.string ⟨o.path.toArray⟩):=(XO.out.on hSw).cell (k:=1) rfl; go_simp; try with_reducible rfl) hH ?_; try go_frame
  refine rd2 6 10 (fun K hK => ?_) (fun K hK => ?_)
  ·go_simp
   refine (HGET.out _ hH).mono ?_
   rintro e v106 ⟨rfl,hba⟩
   refine hK.out _ _ (bch hH hba) (fun hH => ?_)
   clear hba
   try go_frame
   refine tk 7 hH ?_; try go_frame
   refine tk 8 hH ?_; try go_frame
   refine tk 9 hH ?_; try go_frame
   refine rd1 10 (fun K hK => ?_)
   ·go_simp
    have hba : Below v106.heap.size v106 (v106.alloc (.cells #[.string ⟨#[]⟩,.int .i64 0,.string ⟨#[]⟩] 59)):=below_new _ _
    have Z7 : Hid (Box (v106.alloc (.cells #[.string ⟨#[]⟩,.int .i64 0,.string ⟨#[]⟩] 59)) v106.heap.size 59 It.nil.arr):=hyq box_new
    have HB7 : Hid (vs.heap.size ≤ v106.heap.size):=hyq hH.size
    obtain ⟨v110,hv9⟩:=nmq ((v106.alloc (.cells #[.string ⟨#[]⟩,.int .i64 0,.string ⟨#[]⟩] 59)))
    refine hK.out _ _ (bch hH hba) (fun hH => ?_)
    clear hba
    rw [← hv9] at Z7 hH ⊢
    clear hv9
    obtain ⟨b7,hg9⟩:=nmq (v106.heap.size)
    rw [← hg9] at Z7 HB7 ⊢
    clear hg9
    try go_frame
    refine rd1 11 (fun K hK => ?_)
    ·refine wp_store_if (by rfl) 59 (.tmp 5) (.tmp 15) rfl b7 59 It.nil.arr y.arr rfl rfl Z7.out (info35 _) rfl (iarr_one _) ?_
     have Z8 : Hid (Box (v110.setRow b7 y.arr) b7 59 y.arr):=hyq (Z7.out.row _)
     refine hK.out _ _ (below_row hH HB7.out _) (fun hH => ?_)
     clear Z7
     (try simp only [Act.put])
     refine tk 12 hH ?_; try go_frame
     refine wpAnyH_done (by kernel_rfl) ?_ _
     first | refine hK2 _ _ (Met.intro (hJ _ _ ?_)) | refine Met.intro (hJ _ _ ?_)
     (repeat apply Exists.intro)
     refine ⟨?_,rfl⟩
     exact ⟨_,rfl,rfl,Z8,hyq hH,HB7⟩
  ·go_simp
   have hba : Below v0.heap.size v0 (v0.alloc (.cells #[.string ⟨#[]⟩,.int .i64 0,.string ⟨#[]⟩] 59)):=below_new _ _
   have Z7 : Hid (Box (v0.alloc (.cells #[.string ⟨#[]⟩,.int .i64 0,.string ⟨#[]⟩] 59)) v0.heap.size 59 It.nil.arr):=hyq box_new
   have HB7 : Hid (vs.heap.size ≤ v0.heap.size):=hyq hH.size
   obtain ⟨v110,hv9⟩:=nmq ((v0.alloc (.cells #[.string ⟨#[]⟩,.int .i64 0,.string ⟨#[]⟩] 59)))
   refine hK.out _ _ (bch hH hba) (fun hH => ?_)
   clear hba
   rw [← hv9] at Z7 hH ⊢
   clear hv9
   obtain ⟨b7,hg9⟩:=nmq (v0.heap.size)
   rw [← hg9] at Z7 HB7 ⊢
   clear hg9
   try go_frame
   refine rd1 6 (fun K hK => ?_)
   ·go_simp
    refine (HGET.out _ hH).mono ?_
    rintro e v106 ⟨rfl,hba⟩
    have Z7:=hyq (Z7.out.on hba)
    refine hK.out _ _ (bch hH hba) (fun hH => ?_)
    clear hba
    try go_frame
    refine tk 7 hH ?_; try go_frame
    refine tk 8 hH ?_; try go_frame
    refine tk 9 hH ?_; try go_frame
    refine rd1 11 (fun K hK => ?_)
    ·refine wp_store_if (by rfl) 59 (.tmp 5) (.tmp 15) rfl b7 59 It.nil.arr y.arr rfl rfl Z7.out (info35 _) rfl (iarr_one _) ?_
     have Z8 : Hid (Box (v106.setRow b7 y.arr) b7 59 y.arr):=hyq (Z7.out.row _)
     refine hK.out _ _ (below_row hH HB7.out _) (fun hH => ?_)
     clear Z7
     (try simp only [Act.put])
     refine tk 12 hH ?_; try go_frame
     refine wpAnyH_done (by kernel_rfl) ?_ _
     first | refine hK2 _ _ (Met.intro (hJ _ _ ?_)) | refine Met.intro (hJ _ _ ?_)
     (repeat apply Exists.intro)
     refine ⟨?_,rfl⟩
     exact ⟨_,rfl,rfl,Z8,hyq hH,HB7⟩
 case rest =>
  obtain ⟨b7,rfl,rfl,Z7,HB,HB7⟩:=hcut
  obtain ⟨w2,hw2⟩:=nmq (wc)
  rw [← hw2] at HB Z7 ⊢
  have HB2:=hyq (bch HB1.out (bch HV2.out HB.out))
  have X2:=hyq (XO.out.on HB.out)
  have HG2:=hyq (HGV.out.on HB.out)
  have HT2:=hyq (HTV.out.on HB.out)
  obtain ⟨c0,c1,c2⟩:=Z7.out.it
  have p1 : w2.cell? ⟨bo,1,none⟩ = some (.string ⟨o.path.toArray⟩):=X2.out.cell (k:=1) rfl
  have p3 : w2.cell? ⟨bo,3,none⟩ = some (.string ⟨o.data.toArray⟩):=X2.out.cell (k:=3) rfl
  clear hw2 XG HGET hvs hv0
  cases q with
  | none =>
   obtain rfl : is = false:=HI.out
   have HR : Hid (r = .error 4):=hyq (by rw [HR0.out]; unfold rmdirM; rw [HQ.out])
   go_wp2_with fail
   go_ret
   exact GrR.no HR.out HG.out HB2.out
  | some z =>
   obtain rfl : is = true:=HI.out
   obtain rfl : y = z:=HY.out
   by_cases hk : y.kind = 1
   ·have t1 : (y.kind != 1) = false:=by simp [hk]
    have t1' : (y.kind == 1) = true:=by simp [hk]
    have HR1 : Hid (r = if y = .root ∨ belowL l o.path ≠ [] then .error 162 else .ok (takeL l o.path 1)):=hyq (by rw [HR0.out]; unfold rmdirM; rw [HQ.out]; simp only; rw [if_neg (by simpa using hk)])
    have r0:=HT2.out.r0
    have r1:=HT2.out.r1
    have r2:=HT2.out.r2
    obtain ⟨d,hd⟩:=nmq (decide (y = It.root))
    have HD:=hyq hd
    have E : ∀ W,(Op.equalIn 10000 59 (.agg #[.string ⟨y.path.toArray⟩,.int .i64 y.kind,.string ⟨y.data.toArray⟩]) (.agg #[.string ⟨It.root.path.toArray⟩,.int .i64 It.root.kind,.string ⟨It.root.data.toArray⟩])).run Tryz.prog W = .ok d W:=fun W => by rw [hd]; exact eq35 y .root W
    have E2 : ∀ W,(Op.equalIn 10000 59 (.agg #[.string ⟨y.path.toArray⟩,.int .i64 y.kind,.string ⟨y.data.toArray⟩]) (.agg #[.string ⟨#[47]⟩,.int .i64 1,.string ⟨#[]⟩])).run Tryz.prog W = .ok d W:=E
    clear hk E hd
    cases d with
    | true =>
     have HR : Hid (r = .error 162):=hyq (by rw [HR1.out,if_pos (.inl (of_decide_eq_true HD.out.symm))])
     go_wp2_with fail
     go_ret
     exact GrR.no HR.out HG.out HB2.out
    | false =>
     have HNR : Hid (y ≠ It.root):=hyq (of_decide_eq_false HD.out.symm)
     obtain ⟨f,hf⟩:=nmq (decide (belowL l o.path ≠ []))
     have HBU:=hyq (busy_any B b _ l o.path w2 HG2.out (srt_of HOK.out) HOK.out.many (tree_sz HOK.out) (Nat.le_trans (valid_len _ HV.out) (by decide)))
     rw [← hf] at HBU
     have HF:=hyq hf
     clear hf
     go_wp2_with fail
     refine HBU.out.mono ?_
     rintro e w3 ⟨rfl,hb⟩
     have HB3:=hyq (bch HB2.out hb)
     have HG3:=hyq (HG2.out.on hb)
     have p13 : w3.cell? ⟨bo,1,none⟩ = some (.string ⟨o.path.toArray⟩):=(X2.out.on hb).cell (k:=1) rfl
     clear hb c0 c1 c2 p1 p3 r0 r1 r2
     cases f with
     | true =>
      have HR : Hid (r = .error 162):=hyq (by rw [HR1.out,if_pos (.inr (of_decide_eq_true HF.out.symm))])
      go_wp2_with fail
      go_ret
      exact GrR.no HR.out HG.out HB3.out
     | false =>
      have HR : Hid (r = .ok (takeL l o.path 1)):=hyq (by rw [HR1.out,if_neg (fun k => k.elim HNR.out (of_decide_eq_false HF.out.symm))])
      have HP:=hyq (take_any B b _ l o.path 1 w3 HG3.out (srt_of HOK.out) HOK.out.many (tree_sz HOK.out) (Nat.le_trans (valid_len _ HV.out) (by decide)) (by omega) (has_lt (has_some (srt_of HOK.out) HQ.out (fun e => HNR.out (by
       have:=HQ.out
       rw [e,get_root] at this
       exact (Option.some.inj this).symm)))))
      go_wp2_with fail
      refine HP.out.mono ?_
      rintro e w4 ⟨v',rfl,hG4,hN4⟩
      have HE:=hyq (GrR.yes (w:=w) (v:=.slice a n c) (l:=l) HR.out hG4 ((Nxt.below HB3.out b _).trans hN4))
      clear hG4 hN4 p13
      go_wp2_with fail
      go_ret
      exact HE.out
   ·have t1 : (y.kind != 1) = true:=by simp [hk]
    have t1' : (y.kind == 1) = false:=by simp [hk]
    have HR : Hid (r = .error 161):=hyq (by rw [HR0.out]; unfold rmdirM; rw [HQ.out]; simp only; rw [if_pos hk])
    clear hk
    go_wp2_with fail
    go_ret
    exact GrR.no HR.out HG.out HB2.out
end Go.Proofs.YtigopecainocgaaGreatDoor
