/- Proved here: move of package tree. -/
import Derived.Test.YtigopecainocgaaGreatDoorTK
import Derived.Test.YtigopecainocgaaGreatDoorOMoved
set_option maxRecDepth 100000
set_option maxHeartbeats 32000000
namespace Go.Proofs.YtigopecainocgaaGreatDoor
open Go.RowKit Go.Shelf
theorem under_root {p : Str} (h : validB p = true) : underB p [47] = true:=by
 rw [underB_is p [47] h (by decide)]
 have : namesL [47] = []:=by decide
 rw [this]
 exact List.nil_prefix
theorem take_sub (l : List It) (p : Str) (k : Nat) : (takeL l p k).Sublist l:=by
 unfold takeL
 conv => rhs; rw [← List.take_append_drop (idxL l p) l]
 exact (List.Sublist.refl _).append (by rw [← List.drop_drop]; exact List.drop_sublist _ _)
theorem has_bel {l : List It} {p : Str} (h : hasL l p = true) : idxL l p + ((belowL l p).length + 1) ≤ l.length:=by
 have h1 : (belowL l p).length ≤ (l.drop (idxL l p + oneL l p)).length:=(List.takeWhile_sublist _).length_le
 have h2 : oneL l p = 1:=by unfold oneL; rw [if_pos h]
 have h3:=has_lt h
 rw [List.length_drop,h2] at h1
 omega
theorem move_any (B b : Nat) (v : Value) (l : List It) (o : Opn) (w : World) (hG : Gr w B b v l) (h : TreeOk l) (hv : validB o.path = true) (hT : Tabs w) (hvt : validB o.to = true) :
  Calls Tryz.prog 67 #[.pointer (some ⟨b,0,none⟩),.agg o.arr] w (GrR B b v l (moveM l o.path o.to) w):=by
 obtain ⟨w1,hw1⟩:=nmq (w.alloc (.cells o.arr 46))
 have hpl : o.path.length ≤ 140737488355328:=Nat.le_trans (valid_len _ hv) (by decide)
 obtain ⟨bo,hbo⟩:=nmq (w.heap.size)
 have X1 : Hid (Box w1 bo 46 o.arr):=hyq (by rw [hw1,hbo]; exact box_new)
 have HB1 : Hid (Below w.heap.size w w1):=hyq (by rw [hw1]; exact below_new _ _)
 have HG1 : Hid (Gr w1 B b v l):=hyq (hG.on HB1.out)
 have HT1 : Hid (Tabs w1):=hyq (hT.on HB1.out)
 have HG:=hyq hG
 have HOK:=hyq h
 have HV:=hyq hv
 have HVT:=hyq hvt
 obtain ⟨r,hr⟩:=nmq (moveM l o.path o.to)
 rw [← hr]
 obtain ⟨q,hq⟩ : ∃ q,getI l o.path = q:=⟨_,rfl⟩
 obtain ⟨y,hy⟩:=nmq (q.getD .nil)
 obtain ⟨is,his⟩:=nmq (q.isSome)
 obtain ⟨v0,hv0⟩:=nmq (World.drew w1)
 obtain ⟨vs,hvs⟩:=nmq (World.drew w1)
 have HGV : Hid (Gr vs B b v l):=hyq (by rw [hvs]; exact HG1.out.drew)
 have HTV : Hid (Tabs vs):=hyq (by rw [hvs]; exact HT1.out.on ((Below.refl _ _).drew))
 have HV2 : Hid (Below w1.heap.size w1 vs):=hyq (by rw [hvs]; exact (Below.refl _ _).drew)
 have XO : Hid (Box vs bo 46 o.arr):=hyq (X1.out.on HV2.out)
 obtain ⟨a,n,c,rfl⟩:=own_any HGV.out.own
 have XG : Hid (Box vs b 78 #[.slice a n c]):=hyq HGV.out.box
 have HGET : Hid (∀ W,Below vs.heap.size vs W → Calls Tryz.prog 49 #[.slice a n c,.string ⟨o.path.toArray⟩] W fun e w' => e = .returned (.tuple #[.agg y.arr,.bool is]) ∧ Below W.heap.size W w'):=hyq (fun W hW => by
  have:=tget_gen l (.slice a n c) o.path W (srt_of HOK.out) HOK.out.many (HGV.out.on hW).rd (tree_sz HOK.out) (Nat.le_trans (valid_len _ HV.out) (by decide)) (HTV.out.on hW)
  rw [hq] at this
  rw [hy,his]
  exact this)
 have HQ:=hyq hq
 have HY:=hyq hy
 have HI:=hyq his
 have HR0:=hyq hr
 clear hq hy his hpl hr hG h hv hT hvt
 go_enter Tryz.func67,Tryz.ntmps67
 go_upto_region 1 with fail
 rw [← hw1,← hbo]
 clear hw1 hbo
 go_cut [5,6] (CutG vs y is)
 case first =>
  rename_i J2 K2 hJ hK2
  refine wp_region_held_drew (S:=fun w' => Below vs.heap.size vs w') (by kernel_rfl) (by rw [hvs]; exact Below.refl _ _) (fun hH => ?_)
  rw [← hv0] at hH ⊢
  clear hv0 hvs
  refine tk 0 hH ?_; try go_frame
  refine tk 1 hH ?_; try go_frame
  refine tk 2 hH ?_; try go_frame
  refine tkf 3 rfl (fun w hSw => by have p0 : w.cell? ⟨b,0,none⟩ = some (.slice a n c):=(XG.out.on hSw).cell (k:=0) rfl; go_simp; try with_reducible rfl) hH ?_; try go_frame
  refine tk 4 hH ?_; try go_frame
  refine tkf 5 rfl (fun w hSw => by have p0 : w.cell? ⟨bo,1,none⟩ = some (.string ⟨o.path.toArray⟩):=(XO.out.on hSw).cell (k:=1) rfl; go_simp; try with_reducible rfl) hH ?_; try go_frame
  refine rd2 6 10 (fun K hK => ?_) (fun K hK => ?_)
  ·go_simp
   refine (HGET.out _ hH).mono ?_
   rintro e v106 ⟨rfl,hba⟩
   refine hK.out _ _ (bch hH hba) (fun hH => ?_)
   clear hba
   try go_frame
   refine tk 7 hH ?_; try go_frame
   refine tk 8 hH ?_; try go_frame
   refine tk 9 hH ?_; try go_frame
   refine rd1 10 (fun K hK => ?_)
   ·go_simp
    have hba : Below v106.heap.size v106 (v106.alloc (.cells #[.string ⟨#[]⟩,.int .i64 0,.string ⟨#[]⟩] 59)):=below_new _ _
    have Z7 : Hid (Box (v106.alloc (.cells #[.string ⟨#[]⟩,.int .i64 0,.string ⟨#[]⟩] 59)) v106.heap.size 59 It.nil.arr):=hyq box_new
    have HB7 : Hid (vs.heap.size ≤ v106.heap.size):=hyq hH.size
    obtain ⟨v110,hv9⟩:=nmq ((v106.alloc (.cells #[.string ⟨#[]⟩,.int .i64 0,.string ⟨#[]⟩] 59)))
    refine hK.out _ _ (bch hH hba) (fun hH => ?_)
    clear hba
    rw [← hv9] at Z7 hH ⊢
    clear hv9
    obtain ⟨b7,hg9⟩:=nmq (v106.heap.size)
    rw [← hg9] at Z7 HB7 ⊢
    clear hg9
    try go_frame
    refine rd1 11 (fun K hK => ?_)
    ·refine wp_store_if (by rfl) 59 (.tmp 5) (.tmp 20) rfl b7 59 It.nil.arr y.arr rfl rfl Z7.out (info35 _) rfl (iarr_one _) ?_
     have Z8 : Hid (Box (v110.setRow b7 y.arr) b7 59 y.arr):=hyq (Z7.out.row _)
     refine hK.out _ _ (below_row hH HB7.out _) (fun hH => ?_)
     clear Z7
     (try simp only [Act.put])
     refine tk 12 hH ?_; try go_frame
     refine wpAnyH_done (by kernel_rfl) ?_ _
     first | refine hK2 _ _ (Met.intro (hJ _ _ ?_)) | refine Met.intro (hJ _ _ ?_)
     (repeat apply Exists.intro)
     refine ⟨?_,rfl⟩
     exact ⟨_,rfl,rfl,Z8,hyq hH,HB7⟩
  ·go_simp
   have hba : Below v0.heap.size v0 (v0.alloc (.cells #[.string ⟨#[]⟩,.int .i64 0,.string ⟨#[]⟩] 59)):=below_new _ _
   have Z7 : Hid (Box (v0.alloc (.cells #[.string ⟨#[]⟩,.int .i64 0,.string ⟨#[]⟩] 59)) v0.heap.size 59 It.nil.arr):=hyq box_new
   have HB7 : Hid (vs.heap.size ≤ v0.heap.size):=hyq hH.size
   obtain ⟨v110,hv9⟩:=nmq ((v0.alloc (.cells #[.string ⟨#[]⟩,.int .i64 0,.string ⟨#[]⟩] 59)))
   refine hK.out _ _ (bch hH hba) (fun hH => ?_)
   clear hba
   rw [← hv9] at Z7 hH ⊢
   clear hv9
   obtain ⟨b7,hg9⟩:=nmq (v0.heap.size)
   rw [← hg9] at Z7 HB7 ⊢
   clear hg9
   try go_frame
   refine rd1 6 (fun K hK => ?_)
   ·go_simp
    refine (HGET.out _ hH).mono ?_
    rintro e v106 ⟨rfl,hba⟩
    have Z7:=hyq (Z7.out.on hba)
    refine hK.out _ _ (bch hH hba) (fun hH => ?_)
    clear hba
    try go_frame
    refine tk 7 hH ?_; try go_frame
    refine tk 8 hH ?_; try go_frame
    refine tk 9 hH ?_; try go_frame
    refine rd1 11 (fun K hK => ?_)
    ·refine wp_store_if (by rfl) 59 (.tmp 5) (.tmp 20) rfl b7 59 It.nil.arr y.arr rfl rfl Z7.out (info35 _) rfl (iarr_one _) ?_
     have Z8 : Hid (Box (v106.setRow b7 y.arr) b7 59 y.arr):=hyq (Z7.out.row _)
     refine hK.out _ _ (below_row hH HB7.out _) (fun hH => ?_)
     clear Z7
     (try simp only [Act.put])
     refine tk 12 hH ?_; try go_frame
     refine wpAnyH_done (by kernel_rfl) ?_ _
     first | refine hK2 _ _ (Met.intro (hJ _ _ ?_)) | refine Met.intro (hJ _ _ ?_)
     (repeat apply Exists.intro)
     refine ⟨?_,rfl⟩
     exact ⟨_,rfl,rfl,Z8,hyq hH,HB7⟩
 case rest =>
  obtain ⟨b7,rfl,rfl,Z7,HB,HB7⟩:=hcut
  obtain ⟨w2,hw2⟩:=nmq (wc)
  rw [← hw2] at HB Z7 ⊢
  have HB2:=hyq (bch HB1.out (bch HV2.out HB.out))
  have X2:=hyq (XO.out.on HB.out)
  have HG2:=hyq (HGV.out.on HB.out)
  have HT2:=hyq (HTV.out.on HB.out)
  obtain ⟨c0,c1,c2⟩:=Z7.out.it
  have p1 : w2.cell? ⟨bo,1,none⟩ = some (.string ⟨o.path.toArray⟩):=X2.out.cell (k:=1) rfl
  have p3 : w2.cell? ⟨bo,3,none⟩ = some (.string ⟨o.data.toArray⟩):=X2.out.cell (k:=3) rfl
  clear hw2 XG HGET hvs hv0
  cases q with
  | none =>
   obtain rfl : is = false:=HI.out
   have HR : Hid (r = .error 4):=hyq (by rw [HR0.out]; unfold moveM; rw [HQ.out])
   go_wp2_with fail
   go_ret
   exact GrR.no HR.out HG.out HB2.out
  | some z =>
   obtain rfl : is = true:=HI.out
   obtain rfl : y = z:=HY.out
   have p2 : w2.cell? ⟨bo,2,none⟩ = some (.string ⟨o.to.toArray⟩):=X2.out.cell (k:=2) rfl
   have htl : o.to.length ≤ 140737488355328:=Nat.le_trans (valid_len _ HVT.out) (by decide)
   have hpl2 : o.path.length ≤ 140737488355328:=Nat.le_trans (valid_len _ HV.out) (by decide)
   obtain ⟨u,hu⟩:=nmq (underB o.to o.path)
   have HUN : Hid (∀ W,Calls Tryz.prog 89 #[.string ⟨o.to.toArray⟩,.string ⟨o.path.toArray⟩] W fun e w' => e = .returned (.bool u) ∧ Below W.heap.size W w'):=hyq (under_is o.to o.path htl hpl2 u hu.symm)
   have HU:=hyq hu
   obtain ⟨z,hz⟩:=nmq (openM l o.to)
   have HZ:=hyq hz
   have HOP : Hid (∀ W,Below w2.heap.size w2 W → Calls Tryz.prog 86 #[.pointer (some ⟨b,0,none⟩),.string ⟨o.to.toArray⟩] W fun e w' => e = .returned (.int .i64 z) ∧ Below W.heap.size W w'):=hyq (fun W hW => by
    rw [hz]
    exact open_any B b _ l o.to W (HG2.out.on hW) (srt_of HOK.out) HOK.out.many (tree_sz HOK.out) HVT.out (HT2.out.on hW))
   have HR1 : Hid (r = if underB o.to o.path = true then .error 2 else if openM l o.to ≠ 0 then .error (openM l o.to) else if (getI l o.to).isSome then .error 5 else if fitsM l o.path o.to = false then .error 110 else .ok (putL (takeL l o.path ((belowL l o.path).length + 1)) (movedM l o.path o.to y) o.to)):=hyq (by rw [HR0.out]; unfold moveM; rw [HQ.out])
   clear hu hz c0 c1 c2 p3 htl hpl2
   cases u with
   | true =>
    have HR : Hid (r = .error 2):=hyq (by rw [HR1.out,if_pos HU.out.symm])
    go_wp2_with fail
    refine (HUN.out _).mono ?_
    rintro e w3 ⟨rfl,hb⟩
    have HB3:=hyq (bch HB2.out hb)
    clear hb
    go_wp2_with fail
    go_ret
    exact GrR.no HR.out HG.out HB3.out
   | false =>
    have HNU : Hid (¬ underB o.to o.path = true):=hyq (by rw [← HU.out]; simp)
    go_wp2_with fail
    refine (HUN.out _).mono ?_
    rintro e w3 ⟨rfl,hb⟩
    have HB23:=hyq hb
    have HB3:=hyq (bch HB2.out hb)
    have X3:=hyq (X2.out.on hb)
    have p2' : w3.cell? ⟨bo,2,none⟩ = some (.string ⟨o.to.toArray⟩):=X3.out.cell (k:=2) rfl
    clear hb p2 p1
    go_wp2_with fail
    refine (HOP.out w3 HB23.out).mono ?_
    rintro e w4 ⟨rfl,hb⟩
    have HB24:=hyq (bch HB23.out hb)
    have HB4:=hyq (bch HB3.out hb)
    have X4:=hyq (X3.out.on hb)
    clear hb p2'
    by_cases hz0 : z = 0
    ·have HR2 : Hid (r = if (getI l o.to).isSome then .error 5 else if fitsM l o.path o.to = false then .error 110 else .ok (putL (takeL l o.path ((belowL l o.path).length + 1)) (movedM l o.path o.to y) o.to)):=hyq (by rw [HR1.out,if_neg HNU.out,if_neg (by rw [← HZ.out]; simpa using hz0)])
     subst hz0
     go_upto_region 9 with fail
     obtain ⟨q2,hq2⟩ : ∃ q,getI l o.to = q:=⟨_,rfl⟩
     obtain ⟨y2,hy2⟩:=nmq (q2.getD .nil)
     obtain ⟨is2,his2⟩:=nmq (q2.isSome)
     have HG4:=hyq (HG2.out.on HB24.out)
     have HT4:=hyq (HT2.out.on HB24.out)
     clear HGV HTV HV2 XO HB HB7 Z7
     obtain ⟨v0,hv0⟩:=nmq (World.drew w4)
     obtain ⟨vs,hvs⟩:=nmq (World.drew w4)
     have HGV : Hid (Gr vs B b (.slice a n c) l):=hyq (by rw [hvs]; exact HG4.out.drew)
     have HTV : Hid (Tabs vs):=hyq (by rw [hvs]; exact HT4.out.on ((Below.refl _ _).drew))
     have HV2 : Hid (Below w4.heap.size w4 vs):=hyq (by rw [hvs]; exact (Below.refl _ _).drew)
     have XO : Hid (Box vs bo 46 o.arr):=hyq (X4.out.on HV2.out)
     have XG : Hid (Box vs b 78 #[.slice a n c]):=hyq HGV.out.box
     have HGET2 : Hid (∀ W,Below vs.heap.size vs W → Calls Tryz.prog 49 #[.slice a n c,.string ⟨o.to.toArray⟩] W fun e w' => e = .returned (.tuple #[.agg y2.arr,.bool is2]) ∧ Below W.heap.size W w'):=hyq (fun W hW => by
      have:=tget_gen l (.slice a n c) o.to W (srt_of HOK.out) HOK.out.many (HGV.out.on hW).rd (tree_sz HOK.out) (Nat.le_trans (valid_len _ HVT.out) (by decide)) (HTV.out.on hW)
      rw [hq2] at this
      rw [hy2,his2]
      exact this)
     have HQ2:=hyq hq2
     have HI2:=hyq his2
     clear hq2 hy2 his2
     go_cut [8,9] (CutG vs y2 is2)
     case first =>
      rename_i J2 K2 hJ hK2
      refine wp_region_held_drew (S:=fun w' => Below vs.heap.size vs w') (by kernel_rfl) (by rw [hvs]; exact Below.refl _ _) (fun hH => ?_)
      rw [← hv0] at hH ⊢
      clear hv0 hvs
      refine tk 0 hH ?_; try go_frame
      refine tk 1 hH ?_; try go_frame
      refine tk 2 hH ?_; try go_frame
      refine tkf 3 rfl (fun w hSw => by have p0 : w.cell? ⟨b,0,none⟩ = some (.slice a n c):=(XG.out.on hSw).cell (k:=0) rfl; go_simp; try with_reducible rfl) hH ?_; try go_frame
      refine tk 4 hH ?_; try go_frame
      refine tkf 5 rfl (fun w hSw => by have p0 : w.cell? ⟨bo,2,none⟩ = some (.string ⟨o.to.toArray⟩):=(XO.out.on hSw).cell (k:=2) rfl; go_simp; try with_reducible rfl) hH ?_; try go_frame
      refine rd2 6 10 (fun K hK => ?_) (fun K hK => ?_)
      ·go_simp
       refine (HGET2.out _ hH).mono ?_
       rintro e v106 ⟨rfl,hba⟩
       refine hK.out _ _ (bch hH hba) (fun hH => ?_)
       clear hba
       try go_frame
       refine tk 7 hH ?_; try go_frame
       refine tk 8 hH ?_; try go_frame
       refine tk 9 hH ?_; try go_frame
       refine rd1 10 (fun K hK => ?_)
       ·go_simp
        have hba : Below v106.heap.size v106 (v106.alloc (.cells #[.string ⟨#[]⟩,.int .i64 0,.string ⟨#[]⟩] 59)):=below_new _ _
        have Z7 : Hid (Box (v106.alloc (.cells #[.string ⟨#[]⟩,.int .i64 0,.string ⟨#[]⟩] 59)) v106.heap.size 59 It.nil.arr):=hyq box_new
        have HB7 : Hid (vs.heap.size ≤ v106.heap.size):=hyq hH.size
        obtain ⟨v110,hv9⟩:=nmq ((v106.alloc (.cells #[.string ⟨#[]⟩,.int .i64 0,.string ⟨#[]⟩] 59)))
        refine hK.out _ _ (bch hH hba) (fun hH => ?_)
        clear hba
        rw [← hv9] at Z7 hH ⊢
        clear hv9
        obtain ⟨b7,hg9⟩:=nmq (v106.heap.size)
        rw [← hg9] at Z7 HB7 ⊢
        clear hg9
        try go_frame
        refine rd1 11 (fun K hK => ?_)
        ·refine wp_store_if (by rfl) 59 (.tmp 8) (.tmp 44) rfl b7 59 It.nil.arr y2.arr rfl rfl Z7.out (info35 _) rfl (iarr_one _) ?_
         have Z8 : Hid (Box (v110.setRow b7 y2.arr) b7 59 y2.arr):=hyq (Z7.out.row _)
         refine hK.out _ _ (below_row hH HB7.out _) (fun hH => ?_)
         clear Z7
         (try simp only [Act.put])
         refine tk 12 hH ?_; try go_frame
         refine wpAnyH_done (by kernel_rfl) ?_ _
         first | refine hK2 _ _ (Met.intro (hJ _ _ ?_)) | refine Met.intro (hJ _ _ ?_)
         (repeat apply Exists.intro)
         refine ⟨?_,rfl⟩
         exact ⟨_,rfl,rfl,Z8,hyq hH,HB7⟩
      ·go_simp
       have hba : Below v0.heap.size v0 (v0.alloc (.cells #[.string ⟨#[]⟩,.int .i64 0,.string ⟨#[]⟩] 59)):=below_new _ _
       have Z7 : Hid (Box (v0.alloc (.cells #[.string ⟨#[]⟩,.int .i64 0,.string ⟨#[]⟩] 59)) v0.heap.size 59 It.nil.arr):=hyq box_new
       have HB7 : Hid (vs.heap.size ≤ v0.heap.size):=hyq hH.size
       obtain ⟨v110,hv9⟩:=nmq ((v0.alloc (.cells #[.string ⟨#[]⟩,.int .i64 0,.string ⟨#[]⟩] 59)))
       refine hK.out _ _ (bch hH hba) (fun hH => ?_)
       clear hba
       rw [← hv9] at Z7 hH ⊢
       clear hv9
       obtain ⟨b7,hg9⟩:=nmq (v0.heap.size)
       rw [← hg9] at Z7 HB7 ⊢
       clear hg9
       try go_frame
       refine rd1 6 (fun K hK => ?_)
       ·go_simp
        refine (HGET2.out _ hH).mono ?_
        rintro e v106 ⟨rfl,hba⟩
        have Z7:=hyq (Z7.out.on hba)
        refine hK.out _ _ (bch hH hba) (fun hH => ?_)
        clear hba
        try go_frame
        refine tk 7 hH ?_; try go_frame
        refine tk 8 hH ?_; try go_frame
        refine tk 9 hH ?_; try go_frame
        refine rd1 11 (fun K hK => ?_)
        ·refine wp_store_if (by rfl) 59 (.tmp 8) (.tmp 44) rfl b7 59 It.nil.arr y2.arr rfl rfl Z7.out (info35 _) rfl (iarr_one _) ?_
         have Z8 : Hid (Box (v106.setRow b7 y2.arr) b7 59 y2.arr):=hyq (Z7.out.row _)
         refine hK.out _ _ (below_row hH HB7.out _) (fun hH => ?_)
         clear Z7
         (try simp only [Act.put])
         refine tk 12 hH ?_; try go_frame
         refine wpAnyH_done (by kernel_rfl) ?_ _
         first | refine hK2 _ _ (Met.intro (hJ _ _ ?_)) | refine Met.intro (hJ _ _ ?_)
         (repeat apply Exists.intro)
         refine ⟨?_,rfl⟩
         exact ⟨_,rfl,rfl,Z8,hyq hH,HB7⟩
     case rest =>
      obtain ⟨b9,rfl,rfl,_,HB,_⟩:=hcut
      obtain ⟨w6,hw6⟩:=nmq (wc)
      rw [← hw6] at HB ⊢
      have HB6:=hyq (bch HB4.out (bch HV2.out HB.out))
      have X6:=hyq (XO.out.on HB.out)
      have HG6:=hyq (HGV.out.on HB.out)
      have HT6:=hyq (HTV.out.on HB.out)
      have p1 : w6.cell? ⟨bo,1,none⟩ = some (.string ⟨o.path.toArray⟩):=X6.out.cell (k:=1) rfl
      have p2 : w6.cell? ⟨bo,2,none⟩ = some (.string ⟨o.to.toArray⟩):=X6.out.cell (k:=2) rfl
      rw [HQ2.out] at HR2
      clear hw6 XG HGET2 HB hvs hv0
      cases q2 with
      | some q3 =>
       obtain rfl : is2 = true:=HI2.out
       have HR : Hid (r = .error 5):=hyq HR2.out
       go_wp2_with fail
       go_ret
       exact GrR.no HR.out HG.out HB6.out
      | none =>
       obtain rfl : is2 = false:=HI2.out
       have HMV:=hyq (moved_any B b _ l o.path o.to y w6 HG6.out HOK.out HV.out HVT.out HQ.out HT6.out)
       go_wp2_with fail
       refine HMV.out.mono ?_
       rintro e w7 ⟨hb7,(⟨hfit,vm,rfl,hOm⟩ | ⟨hfit,rfl⟩)⟩
       ·have HR : Hid (r = .ok (putL (takeL l o.path ((belowL l o.path).length + 1)) (movedM l o.path o.to y) o.to)):=hyq (by rw [HR2.out]; simp only [Option.isSome_none,Bool.false_eq_true,if_false]; rw [if_neg (by rw [hfit]; simp)])
        have hlenm : (movedM l o.path o.to y).length = (belowL l o.path).length + 1:=by simp [movedM]
        obtain ⟨k,hk⟩:=nmq ((movedM l o.path o.to y).length)
        have hnr : o.path ≠ [47]:=fun e => HNU.out (by rw [e]; exact under_root HVT.out)
        have hhas:=has_some (srt_of HOK.out) HQ.out hnr
        have hblk:=has_bel hhas
        have hmany:=HOK.out.many
        rcases own_form hOm with ⟨e,_⟩ | ⟨gm,cm,rfl,hgm,hgm2,hgmo,hgmc⟩
        ·rw [e] at hlenm; simp at hlenm
        have HG7:=hyq (HG6.out.on hb7)
        have HTK:=hyq (take_any B b _ l o.path k w7 HG7.out (srt_of HOK.out) HOK.out.many (tree_sz HOK.out) (Nat.le_trans (valid_len _ HV.out) (by decide)) (by omega) (by rw [hk,hlenm]; omega))
        have HB7:=hyq (bch HB6.out hb7)
        have X7:=hyq (X6.out.on hb7)
        have HOM:=hyq hOm
        have hgb : gm ≠ b:=by have:=HG6.out.box.lt; omega
        have hvg : (Value.slice a n c).ownBlock ≠ some gm:=fun e => by
         rcases own_form HG6.out.own with ⟨_,q⟩ | ⟨r,cc,_,_,hlt,q,_⟩
         ·rw [q] at e; cases e
         ·rw [q] at e; cases e; omega
        have HPU : Hid (∀ v1 W,Gr W B b v1 (takeL l o.path k) → Nxt b (.slice a n c) v1 w7 W → Calls Tryz.prog 88 #[.pointer (some ⟨b,0,none⟩),.slice (some ⟨gm,0,none⟩) k cm] W (DoneR B b v1 (putL (takeL l o.path k) (movedM l o.path o.to y) o.to) W)):=hyq (fun v1 W h1 h2 => by
         have hh : W.heap[gm]? = w7.heap[gm]?:=h2.block gm hgm2 hgb hvg
         have hsub:=take_sub l o.path k
         rw [hk]
         refine put_any B b v1 (takeL l o.path (movedM l o.path o.to y).length) (movedM l o.path o.to y) o.to ⟨o.to,y.kind,y.data⟩ gm 0 cm W (hk ▸ h1) ?_ ?_ ?_ (Nat.le_trans (valid_len _ HVT.out) (by decide)) rfl rfl (by rw [hlenm]; omega) ?_ hgb ?_ ?_ ?_
         ·rw [← hk]; exact (srt_of HOK.out).sublist hsub
         ·rw [← hk]; exact Nat.le_trans hsub.length_le hmany
         ·rw [← hk]; exact fun x hx => tree_sz HOK.out x (hsub.subset hx)
         ·intro e
          rcases h2.row with q | q
          ·exact hvg (q ▸ e)
          ·have:=q gm e; omega
         ·obtain ⟨cs,t,e⟩:=hgmc
          exact ⟨cs,t,hh.trans e⟩
         ·intro j x hx
          have:=HOM.out.cells (g:=gm) rfl j x hx
          rw [add_to] at this
          exact (World.cell?_of_block hh).trans this
         ·have:=HG7.out.low; have:=HG7.out.box.lt; have:=h2.size; omega)
        have p17 : w7.cell? ⟨bo,1,none⟩ = some (.string ⟨o.path.toArray⟩):=X7.out.cell (k:=1) rfl
        have HKL : Hid (k = (belowL l o.path).length + 1):=hyq (hk.trans hlenm)
        rw [← hk]
        clear hb7 hfit hOm hlenm hk hnr hhas hblk hgm hgm2 hgmo hgmc hgb hvg p1 p2
        go_wp2_with fail
        refine HTK.out.mono ?_
        rintro e w8 ⟨v1,rfl,hG8,hN8⟩
        have HG8:=hyq hG8
        have HN8:=hyq hN8
        clear hG8 hN8
        go_wp2_with fail
        refine (HPU.out v1 w8 HG8.out HN8.out).mono ?_
        rintro e w9 ⟨v',rfl,hG9,hN9⟩
        rw [HKL.out] at hG9
        have HE:=hyq (GrR.yes (w:=w) (v:=.slice a n c) (l:=l) HR.out hG9 ((Nxt.below HB7.out b _).trans (HN8.out.trans hN9)))
        clear hG9 hN9 p17
        go_wp2_with fail
        go_ret
        exact HE.out
       ·have HR : Hid (r = .error 110):=hyq (by rw [HR2.out]; simp only [Option.isSome_none,Bool.false_eq_true,if_false]; rw [if_pos hfit])
        have HB7:=hyq (bch HB6.out hb7)
        clear hb7 hfit
        go_wp2_with fail
        go_ret
        exact GrR.no HR.out HG.out HB7.out
    ·have HR : Hid (r = .error z):=hyq (by rw [HR1.out,if_neg HNU.out,if_pos (by rw [← HZ.out]; exact hz0),← HZ.out])
     have t1 : (z == 0) = false:=by simpa using hz0
     have t2 : (z != 0) = true:=by simpa using hz0
     clear hz0
     go_wp2_with fail
     go_ret
     exact GrR.no HR.out HG.out HB4.out
end Go.Proofs.YtigopecainocgaaGreatDoor
