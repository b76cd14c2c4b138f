/- Proved here: add of package tree. -/
import Derived.Test.YtigopecainocgaaGreatDoorTK
import Derived.Test.YtigopecainocgaaGreatDoorOAdd
set_option maxRecDepth 100000
set_option maxHeartbeats 32000000
namespace Go.Proofs.YtigopecainocgaaGreatDoor
open Go.RowKit Go.Shelf
theorem own_apart {w : World} {B : Nat} {v : Value} {l : List It} (h : OwnI w B v l) : v.ownBlock ≠ some w.heap.size:=fun e => by
 rcases own_form h with ⟨_,q⟩ | ⟨r,c,_,_,hr,q,_⟩
 ·rw [q] at e; cases e
 ·rw [q] at e; cases e; omega
theorem put_one (B b : Nat) (v : Value) (l : List It) (x : It) (W : World) (hG : Gr W B b v l) (h : TreeOk l) (hv : validB x.path = true) :
  Calls Tryz.prog 88 #[.pointer (some ⟨b,0,none⟩),.slice (some ⟨W.heap.size,0,none⟩) 1 1] (W.alloc (.cells #[.string ⟨x.path.toArray⟩,.int .i64 x.kind,.string ⟨x.data.toArray⟩] 59)) (DoneR B b v (putL l [x] x.path) W):=by
 have X : Box (W.alloc (.cells x.arr 59)) W.heap.size 59 x.arr:=box_new
 have hb:=below_new W (.cells x.arr 59)
 have hlt:=hG.box.lt
 refine (put_any B b v l [x] x.path x W.heap.size 0 1 _ (hG.on hb) (srt_of h) h.many (tree_sz h) (Nat.le_trans (valid_len x.path hv) (by decide)) rfl rfl (by simp) (own_apart hG.own) (by omega) ⟨_,_,X⟩ (fun j u hj => ?_) (Nat.le_trans hG.low (by have:=hb.size; omega))).mono ?_
 ·rw [Nat.zero_add]
  refine X.cell ?_
  rw [← Array.getElem?_toList]
  simpa [flatI,It.cells,It.arr] using hj
 ·rintro e w' ⟨v',he,h1,h2⟩
  exact ⟨v',he,h1,(Nxt.below hb b v).trans h2⟩
theorem add_any (B b : Nat) (v : Value) (l : List It) (x : It) (w : World) (hG : Gr w B b v l) (h : TreeOk l) (hv : validB x.path = true) (hT : Tabs w) :
  Calls Tryz.prog 85 #[.pointer (some ⟨b,0,none⟩),.agg x.arr] w (GrR B b v l (addM l x) w):=by
 obtain ⟨w1,hw1⟩:=nmq (w.alloc (.cells x.arr 59))
 have hpl : x.path.length ≤ 140737488355328:=Nat.le_trans (valid_len _ hv) (by decide)
 obtain ⟨bo,hbo⟩:=nmq (w.heap.size)
 have X1 : Hid (Box w1 bo 59 x.arr):=hyq (by rw [hw1,hbo]; exact box_new)
 have HB1 : Hid (Below w.heap.size w w1):=hyq (by rw [hw1]; exact below_new _ _)
 have HG1 : Hid (Gr w1 B b v l):=hyq (hG.on HB1.out)
 have HT1 : Hid (Tabs w1):=hyq (hT.on HB1.out)
 have HG:=hyq hG
 have HOK:=hyq h
 have HV:=hyq hv
 obtain ⟨z,hz⟩:=nmq (openM l x.path)
 have HOP : Hid (Calls Tryz.prog 86 #[.pointer (some ⟨b,0,none⟩),.string ⟨x.path.toArray⟩] w1 fun e w' => e = .returned (.int .i64 z) ∧ Below w1.heap.size w1 w'):=hyq (by
  rw [hz]
  exact open_any B b v l x.path w1 HG1.out (srt_of h) h.many (tree_sz h) hv HT1.out)
 obtain ⟨c0,c1,c2⟩:=X1.out.it
 obtain ⟨r,hr⟩:=nmq (addM l x)
 rw [← hr]
 by_cases hz0 : z = 0
 ·have HR0 : Hid (r = if (getI l x.path).isSome then .error 5 else if l.length = 2000 then .error 6 else .ok (putL l [x] x.path)):=hyq (by rw [hr]; unfold addM; rw [if_neg (by rw [← hz]; simpa using hz0)])
  subst hz0
  clear hz hr hv h hT hG
  go_enter Tryz.func85,Tryz.ntmps85
  go_upto_region 1 with fail
  rw [← hw1,← hbo]
  clear hw1 hbo
  go_wp2_with fail
  refine HOP.out.mono ?_
  rintro e w2 ⟨rfl,hb⟩
  have X2:=hyq (X1.out.on hb)
  have HB2:=hyq (bch HB1.out hb)
  have HG2:=hyq (HG1.out.on hb)
  have HT2:=hyq (HT1.out.on hb)
  clear hb HOP c0 c1 c2
  go_upto_region 4 with fail
  obtain ⟨o,ho⟩ : ∃ o,getI l x.path = o:=⟨_,rfl⟩
  obtain ⟨y,hy⟩:=nmq (o.getD .nil)
  obtain ⟨is,his⟩:=nmq (o.isSome)
  rw [ho] at HR0
  obtain ⟨v0,hv0⟩:=nmq (World.drew w2)
  obtain ⟨vs,hvs⟩:=nmq (World.drew w2)
  have HGV : Hid (Gr vs B b v l):=hyq (by rw [hvs]; exact HG2.out.drew)
  have HTV : Hid (Tabs vs):=hyq (by rw [hvs]; exact HT2.out.on ((Below.refl _ _).drew))
  have HV2 : Hid (Below w2.heap.size w2 vs):=hyq (by rw [hvs]; exact (Below.refl _ _).drew)
  have XO : Hid (Box vs bo 59 x.arr):=hyq (X2.out.on HV2.out)
  obtain ⟨a,n,c,rfl⟩:=own_any HGV.out.own
  have XG : Hid (Box vs b 78 #[.slice a n c]):=hyq HGV.out.box
  have HGET : Hid (∀ W,Below vs.heap.size vs W → Calls Tryz.prog 49 #[.slice a n c,.string ⟨x.path.toArray⟩] W fun e w' => e = .returned (.tuple #[.agg y.arr,.bool is]) ∧ Below W.heap.size W w'):=hyq (fun W hW => by
   have:=tget_gen l (.slice a n c) x.path W (srt_of HOK.out) HOK.out.many (HGV.out.on hW).rd (tree_sz HOK.out) (Nat.le_trans (valid_len _ HV.out) (by decide)) (HTV.out.on hW)
   rw [ho] at this
   rw [hy,his]
   exact this)
  have HO:=hyq ho
  have HI:=hyq his
  clear ho hy his hpl
  go_cut [6,7] (CutG vs y is)
  case first =>
   rename_i J2 K2 hJ hK2
   refine wp_region_held_drew (S:=fun w' => Below vs.heap.size vs w') (by kernel_rfl) (by rw [hvs]; exact Below.refl _ _) (fun hH => ?_)
   rw [← hv0] at hH ⊢
   clear hv0 hvs
   refine tk 0 hH ?_; try go_frame
   refine tk 1 hH ?_; try go_frame
   refine tk 2 hH ?_; try go_frame
   refine tkf 3 rfl (fun w hSw => by have p0 : w.cell? ⟨b,0,none⟩ = some (.slice a n c):=(XG.out.on hSw).cell (k:=0) rfl; go_simp; try with_reducible rfl) hH ?_; try go_frame
   refine tk 4 hH ?_; try go_frame
   refine tkf 5 rfl (fun w hSw => by have p0 : w.cell? ⟨bo,0,none⟩ = some (.string ⟨x.path.toArray⟩):=(XO.out.on hSw).cell (k:=0) rfl; go_simp; try with_reducible rfl) hH ?_; try go_frame
   refine rd2 6 10 (fun K hK => ?_) (fun K hK => ?_)
   ·go_simp
    refine (HGET.out _ hH).mono ?_
    rintro e v106 ⟨rfl,hba⟩
    refine hK.out _ _ (bch hH hba) (fun hH => ?_)
    clear hba
    try go_frame
    refine tk 7 hH ?_; try go_frame
    refine tk 8 hH ?_; try go_frame
    refine tk 9 hH ?_; try go_frame
    refine rd1 10 (fun K hK => ?_)
    ·go_simp
     have hba : Below v106.heap.size v106 (v106.alloc (.cells #[.string ⟨#[]⟩,.int .i64 0,.string ⟨#[]⟩] 59)):=below_new _ _
     have Z7 : Hid (Box (v106.alloc (.cells #[.string ⟨#[]⟩,.int .i64 0,.string ⟨#[]⟩] 59)) v106.heap.size 59 It.nil.arr):=hyq box_new
     have HB7 : Hid (vs.heap.size ≤ v106.heap.size):=hyq hH.size
     obtain ⟨v110,hv9⟩:=nmq ((v106.alloc (.cells #[.string ⟨#[]⟩,.int .i64 0,.string ⟨#[]⟩] 59)))
     refine hK.out _ _ (bch hH hba) (fun hH => ?_)
     clear hba
     rw [← hv9] at Z7 hH ⊢
     clear hv9
     obtain ⟨b7,hg9⟩:=nmq (v106.heap.size)
     rw [← hg9] at Z7 HB7 ⊢
     clear hg9
     try go_frame
     refine rd1 11 (fun K hK => ?_)
     ·refine wp_store_if (by rfl) 59 (.tmp 6) (.tmp 23) rfl b7 59 It.nil.arr y.arr rfl rfl Z7.out (info35 _) rfl (iarr_one _) ?_
      have Z8 : Hid (Box (v110.setRow b7 y.arr) b7 59 y.arr):=hyq (Z7.out.row _)
      refine hK.out _ _ (below_row hH HB7.out _) (fun hH => ?_)
      clear Z7
      (try simp only [Act.put])
      refine tk 12 hH ?_; try go_frame
      refine wpAnyH_done (by kernel_rfl) ?_ _
      first | refine hK2 _ _ (Met.intro (hJ _ _ ?_)) | refine Met.intro (hJ _ _ ?_)
      (repeat apply Exists.intro)
      refine ⟨?_,rfl⟩
      exact ⟨_,rfl,rfl,Z8,hyq hH,HB7⟩
   ·go_simp
    have hba : Below v0.heap.size v0 (v0.alloc (.cells #[.string ⟨#[]⟩,.int .i64 0,.string ⟨#[]⟩] 59)):=below_new _ _
    have Z7 : Hid (Box (v0.alloc (.cells #[.string ⟨#[]⟩,.int .i64 0,.string ⟨#[]⟩] 59)) v0.heap.size 59 It.nil.arr):=hyq box_new
    have HB7 : Hid (vs.heap.size ≤ v0.heap.size):=hyq hH.size
    obtain ⟨v110,hv9⟩:=nmq ((v0.alloc (.cells #[.string ⟨#[]⟩,.int .i64 0,.string ⟨#[]⟩] 59)))
    refine hK.out _ _ (bch hH hba) (fun hH => ?_)
    clear hba
    rw [← hv9] at Z7 hH ⊢
    clear hv9
    obtain ⟨b7,hg9⟩:=nmq (v0.heap.size)
    rw [← hg9] at Z7 HB7 ⊢
    clear hg9
    try go_frame
    refine rd1 6 (fun K hK => ?_)
    ·go_simp
     refine (HGET.out _ hH).mono ?_
     rintro e v106 ⟨rfl,hba⟩
     have Z7:=hyq (Z7.out.on hba)
     refine hK.out _ _ (bch hH hba) (fun hH => ?_)
     clear hba
     try go_frame
     refine tk 7 hH ?_; try go_frame
     refine tk 8 hH ?_; try go_frame
     refine tk 9 hH ?_; try go_frame
     refine rd1 11 (fun K hK => ?_)
     ·refine wp_store_if (by rfl) 59 (.tmp 6) (.tmp 23) rfl b7 59 It.nil.arr y.arr rfl rfl Z7.out (info35 _) rfl (iarr_one _) ?_
      have Z8 : Hid (Box (v106.setRow b7 y.arr) b7 59 y.arr):=hyq (Z7.out.row _)
      refine hK.out _ _ (below_row hH HB7.out _) (fun hH => ?_)
      clear Z7
      (try simp only [Act.put])
      refine tk 12 hH ?_; try go_frame
      refine wpAnyH_done (by kernel_rfl) ?_ _
      first | refine hK2 _ _ (Met.intro (hJ _ _ ?_)) | refine Met.intro (hJ _ _ ?_)
      (repeat apply Exists.intro)
      refine ⟨?_,rfl⟩
      exact ⟨_,rfl,rfl,Z8,hyq hH,HB7⟩
  case rest =>
   obtain ⟨b7,rfl,rfl,_,HB,_⟩:=hcut
   obtain ⟨w3,hw3⟩:=nmq (wc)
   rw [← hw3] at HB ⊢
   have HB3:=hyq (bch HB2.out (bch HV2.out HB.out))
   have X3:=hyq (XO.out.on HB.out)
   have HG3:=hyq (HGV.out.on HB.out)
   clear hw3 XG HGET HB hvs hv0
   cases o with
   | some q =>
    obtain rfl : is = true:=HI.out
    have HR : Hid (r = .error 5):=hyq HR0.out
    go_wp2_with fail
    go_ret
    exact GrR.no HR.out HG.out HB3.out
   | none =>
    obtain rfl : is = false:=HI.out
    have HF:=hyq (full_any B b _ l w3 HG3.out)
    by_cases hf : l.length = 2000
    ·have HR : Hid (r = .error 6):=hyq (by rw [HR0.out]; simp only [Option.isSome_none,Bool.false_eq_true,if_false]; rw [if_pos hf])
     have HD : Hid (decide (l.length = 2000) = true):=hyq (decide_eq_true hf)
     rw [HD.out] at HF
     clear hf
     go_wp2_with fail
     refine HF.out.mono ?_
     rintro e w4 ⟨rfl,rfl⟩
     go_wp2_with fail
     go_ret
     exact GrR.no HR.out HG.out HB3.out
    ·have HR : Hid (r = .ok (putL l [x] x.path)):=hyq (by rw [HR0.out]; simp only [Option.isSome_none,Bool.false_eq_true,if_false]; rw [if_neg hf])
     have HD : Hid (decide (l.length = 2000) = false):=hyq (decide_eq_false hf)
     rw [HD.out] at HF
     have HP:=hyq (put_one B b _ l x w3 HG3.out HOK.out HV.out)
     obtain ⟨c0,c1,c2⟩:=X3.out.it
     clear hf
     go_wp2_with fail
     refine HF.out.mono ?_
     rintro e w4 ⟨rfl,rfl⟩
     go_wp2_with fail
     refine HP.out.mono ?_
     rintro e w4 ⟨v',rfl,hG4,hN4⟩
     have HE:=hyq (GrR.yes (w:=w) (v:=.slice a n c) (l:=l) HR.out hG4 ((Nxt.below HB3.out b _).trans hN4))
     clear hG4 hN4 c0 c1 c2
     go_wp2_with fail
     go_ret
     exact HE.out
 ·have HR : Hid (r = .error z):=hyq (by rw [hr]; unfold addM; rw [← hz,if_pos hz0])
  have t1 : (z == 0) = false:=by simpa using hz0
  have t2 : (z != 0) = true:=by simpa using hz0
  clear hz0 hz hr hv h hT hG
  go_enter Tryz.func85,Tryz.ntmps85
  go_upto_region 1 with fail
  rw [← hw1,← hbo]
  clear hw1 hbo
  go_wp2_with fail
  refine HOP.out.mono ?_
  rintro e w2 ⟨rfl,hb⟩
  have HB2:=hyq (bch HB1.out hb)
  clear hb HOP c0 c1 c2
  go_wp2_with fail
  go_ret
  exact GrR.no HR.out HG.out HB2.out
end Go.Proofs.YtigopecainocgaaGreatDoor
