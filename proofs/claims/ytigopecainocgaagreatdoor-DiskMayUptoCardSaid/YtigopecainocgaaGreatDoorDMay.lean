/- Proved here: DiskMay of puncheonlaw08 returns true, for every two disks and row of operations of texts of at most two million letters, wherever the tables stand. -/
import Derived.Test.YtigopecainocgaaGreatDoorTK
import Derived.Test.YtigopecainocgaaGreatDoorR8b
import Derived.Test.YtigopecainocgaaGreatDoorDSameAny
import Derived.Test.YtigopecainocgaaGreatDoorDSpoil
import Derived.Deep.DeepCutAuto
set_option maxRecDepth 100000
set_option maxHeartbeats 32000000
namespace Go.Proofs.YtigopecainocgaaGreatDoor
open Go.RowKit Go.Shelf
theorem index30 (a b c d e f : Value) (w : World) : (Instr.index 30 (.agg #[a,b,c,d,e,f]) (.int .i64 0)).run Tryz.prog w = .ok (.agg #[a,b,c]) w ∧ (Instr.index 30 (.agg #[a,b,c,d,e,f]) (.int .i64 1)).run Tryz.prog w = .ok (.agg #[d,e,f]) w:=by
 constructor <;> simp [Instr.index,Sem.run_bind,run_underlying Tryz.underlying30,asIntOf,Tryz.sizeOf27,Go.part,Tryz.isAgg27]
theorem yes_self {α : Type} [DecidableEq α] (l : α) : decide (l = l) = true:=decide_eq_true rfl
def nowT (d : Dsk) : List It:=(nowM d).getD []
theorem nowU (d : Dsk) (iv wv : Value) (w : World) (h : RdD w iv wv d) (hz : SzD d) (hT : TabS w) (er : Int) (her : (if (nowM d).isSome = true then (0 : Int) else 180) = er) :
  Calls Tryz.prog 10 #[.agg #[iv,wv,.int .i64 d.room]] w fun e w' => ∃ a n c,e = .returned (.tuple #[.agg #[.slice a n c],.int .i64 er]) ∧ RdI w' (.slice a n c) (nowT d) ∧ Below w.heap.size w w':=by
 refine (now_is d iv wv w h hz hT).mono ?_
 rintro e w' ⟨hb,⟨h1,rfl⟩ | ⟨t,v',h1,rfl,h2⟩⟩
 ·rw [h1] at her
  obtain rfl : (180 : Int) = er:=her
  exact ⟨none,0,0,rfl,by unfold nowT; rw [h1]; exact RdI.nil _,hb⟩
 ·rw [h1] at her
  obtain rfl : (0 : Int) = er:=her
  obtain ⟨a,n,c,rfl⟩:=own_any3 h2
  exact ⟨a,n,c,rfl,by unfold nowT; rw [h1]; exact OwnI.rd h2,hb⟩
theorem checkU (d : Dsk) (iv wv : Value) (w : World) (h : RdD w iv wv d) (hz : SzD d) (hT : TabS w) (er : Int) (her : (if (nowM d).isSome = true then (0 : Int) else 180) = er) :
  Calls Tryz.prog 12 #[.agg #[iv,wv,.int .i64 d.room]] w fun e w' => e = .returned (.int .i64 er) ∧ Below w.heap.size w w':=by
 rw [← her]; exact check_is d iv wv w h hz hT
theorem rnowU (d : Dsk) (iv wv : Value) (w : World) (h : RdD w iv wv d) (hz : ∀ o ∈ d.wait,o.path.length ≤ 2000000 ∧ o.to.length ≤ 2000000) (hs : (nowM d).isSome = true) :
  Calls Tryz.prog 11 #[.agg #[iv,wv,.int .i64 d.room]] w fun e w' => ∃ a n c,e = .returned (.tuple #[.agg #[.slice a n c],.bool true]) ∧ RdI w' (.slice a n c) (nowT d) ∧ Below w.heap.size w w':=by
 obtain ⟨t,ht⟩:=Option.isSome_iff_exists.1 hs
 obtain ⟨_,_,h3,h4,h5⟩:=now_some ht
 refine (rnow8_any d iv wv w h (tree_ok h3) hz true (by rw [h4]; rfl)).mono ?_
 rintro e w' ⟨v',rfl,hr,hb⟩
 obtain ⟨a,c,rfl,_⟩:=id hr.open
 exact ⟨a,_,c,rfl,by unfold nowT; rw [ht,Option.getD_some,← h5]; exact hr,hb⟩
theorem nowT_no {d : Dsk} (h : (nowM d).isSome = false) : nowT d = []:=by
 unfold nowT
 cases h2 : nowM d with
 | none => rfl
 | some t => rw [h2] at h; cases h
theorem new_yes {l : List It} (h : validT l = true) : newM l = (freshM l,0):=by unfold newM; rw [if_pos h]
theorem new_no {l : List It} (h : validT l = false) : newM l = (⟨[],[],0⟩,160):=by unfold newM; rw [if_neg (by simp [h])]
theorem new_wait (l : List It) : (newM l).1.wait = []:=by unfold newM; split <;> rfl
theorem rdO_none {w : World} {v : Value} (h : RdO w v []) : ∃ a c,v = .slice a 0 c ∧ ∀ W,RdO W (.slice a 0 c) []:=by
 obtain ⟨a,c,rfl,h1,h2,_⟩:=h
 exact ⟨a,c,rfl,fun W => ⟨a,c,rfl,h1,h2,fun h => absurd h (Nat.lt_irrefl _)⟩⟩
theorem may8_any (x y : Dsk) (ix wx iy wy lv : Value) (ops : List Opn) (w : World) (hx : RdD w ix wx x) (hy : RdD w iy wy y) (ho : RdO w lv ops) (zx : SzD x) (zy : SzD y)
  (sx : ∀ i ∈ x.safe,i.path.length ≤ 2000000) (sy : ∀ i ∈ y.safe,i.path.length ≤ 2000000) (tx : ∀ o ∈ x.wait,o.path.length ≤ 2000000 ∧ o.to.length ≤ 2000000) (ty : ∀ o ∈ y.wait,o.path.length ≤ 2000000 ∧ o.to.length ≤ 2000000) (hT : TabS w) :
  Calls Tryz.prog 3 #[.agg #[ix,wx,.int .i64 x.room],.agg #[iy,wy,.int .i64 y.room],lv] w (EqR true w):=by
 have HX:=hyq hx
 have HY:=hyq hy
 have HL:=hyq ho
 have HT:=hyq hT
 obtain ⟨xa,xc,rfl,-⟩:=hx.items.open
 obtain ⟨xb,xd,rfl,-⟩:=hx.wait.open
 obtain ⟨ya,yc,rfl,-⟩:=hy.items.open
 obtain ⟨yb,yd,rfl,-⟩:=hy.wait.open
 obtain ⟨al,cl,rfl,hlc,hcm,-⟩:=ho.open
 obtain ⟨xn,hxn⟩:=nmq (x.safe.length)
 obtain ⟨xm,hxm⟩:=nmq (x.wait.length)
 obtain ⟨yn,hyn⟩:=nmq (y.safe.length)
 obtain ⟨ym,hym⟩:=nmq (y.wait.length)
 obtain ⟨n,hn⟩:=nmq (ops.length)
 have HN:=hyq hn
 rw [← hxn,← hxm] at HX ⊢
 rw [← hyn,← hym] at HY ⊢
 rw [← hn] at HL hlc ⊢
 unfold maxLen at hcm
 obtain ⟨A,hA⟩:=nmq (ownD x)
 obtain ⟨B,hB⟩:=nmq (ownD y)
 have HAA:=hyq hA
 have HBB:=hyq hB
 have ZA : Hid (SzD A):=hyq (by rw [hA]; exact own_sz zx)
 have ZB : Hid (SzD B):=hyq (by rw [hB]; exact own_sz zy)
 have SA : Hid (∀ i ∈ A.safe,i.path.length ≤ 2000000):=hyq (fun i h => sx i (List.mem_of_mem_take (by rw [hA] at h; exact h)))
 have SB : Hid (∀ i ∈ B.safe,i.path.length ≤ 2000000):=hyq (fun i h => sy i (List.mem_of_mem_take (by rw [hB] at h; exact h)))
 have TA : Hid (∀ o ∈ A.wait,o.path.length ≤ 2000000 ∧ o.to.length ≤ 2000000):=hyq (fun i h => tx i (List.mem_of_mem_take (by rw [hA] at h; exact h)))
 have TB : Hid (∀ o ∈ B.wait,o.path.length ≤ 2000000 ∧ o.to.length ≤ 2000000):=hyq (fun i h => ty i (List.mem_of_mem_take (by rw [hB] at h; exact h)))
 have HAS : Hid (x.safe.take 100 = A.safe):=hyq (by rw [hA]; rfl)
 obtain ⟨w1,hw1⟩:=nmq ((w.alloc (.cells #[.slice xa xn xc,.slice xb xm xd,.int .i64 x.room] 27)).alloc (.cells #[.slice ya yn yc,.slice yb ym yd,.int .i64 y.room] 27))
 obtain ⟨bX,hbX⟩:=nmq (w.heap.size)
 have X1 : Hid (Box w1 bX 27 #[.slice xa xn xc,.slice xb xm xd,.int .i64 x.room]):=hyq (by rw [hw1,hbX]; exact box_new.alloc _)
 have X2 : Hid (Box w1 (bX + 1) 27 #[.slice ya yn yc,.slice yb ym yd,.int .i64 y.room]):=hyq (by rw [hw1,hbX,show w.heap.size + 1 = (w.alloc (.cells #[.slice xa xn xc,.slice xb xm xd,.int .i64 x.room] 27)).heap.size from by simp]; exact box_new)
 have B1 : Hid (Below w.heap.size w w1):=hyq (by rw [hw1]; exact bch (below_new _ _) (below_new _ _))
 clear hx hy ho zx zy sx sy tx ty hT hxn hxm hyn hym hn hA hB
 go_enter Tryz.func3,Tryz.ntmps3
 go_upto_region 1 with fail
 rw [← hw1,← hbX]
 clear hw1 hbX
 go_wp2_with fail
 refine (wakes8_any w1 (HT.out.on B1.out)).mono ?_
 rintro e w2 ⟨rfl,hb⟩
 replace X1:=hyq (X1.out.on hb)
 replace X2:=hyq (X2.out.on hb)
 have B2:=hyq (bch B1.out hb)
 clear hb B1
 go_upto_region 3 with fail
 obtain ⟨w3,hw3⟩:=nmq (World.drew w2)
 replace X1 : Hid (Box w3 bX 27 #[.slice xa xn xc,.slice xb xm xd,.int .i64 x.room]):=hyq (by rw [hw3]; exact X1.out)
 replace X2 : Hid (Box w3 (bX + 1) 27 #[.slice ya yn yc,.slice yb ym yd,.int .i64 y.room]):=hyq (by rw [hw3]; exact X2.out)
 have B3 : Hid (Below w.heap.size w w3):=hyq (by rw [hw3]; exact B2.out.drew)
 have HX3:=hyq (HX.out.on B3.out)
 have HY3:=hyq (HY.out.on B3.out)
 go_cut [7,8] (fun p7 p8 wx => ∃ g7 g8 a1 n1 c1 a2 n2 c2 a3 n3 c3 a4 n4 c4,p7 = .pointer (some ⟨g7,0,none⟩) ∧ p8 = .pointer (some ⟨g8,0,none⟩) ∧ Hid (Box wx g7 27 #[.slice a1 n1 c1,.slice a2 n2 c2,.int .i64 A.room]) ∧ Hid (Box wx g8 27 #[.slice a3 n3 c3,.slice a4 n4 c4,.int .i64 B.room]) ∧ Hid (RdD wx (.slice a1 n1 c1) (.slice a2 n2 c2) A) ∧ Hid (RdD wx (.slice a3 n3 c3) (.slice a4 n4 c4) B) ∧ Hid (Below w3.heap.size w3 wx))
 case first =>
  rename_i J2 K2 hJ hK2
  obtain ⟨v0,hv0⟩:=nmq (World.drew w2)
  refine wp_region_held_drew (S:=fun w' => Below w3.heap.size w3 w') (by kernel_rfl) (by rw [← hw3]; exact Below.refl _ _) (fun hH => ?_)
  rw [← hv0] at hH ⊢
  clear hv0 hw3
  refine tkf 0 rfl (fun w hSw => by have p0:=(X1.out.on hSw).cell (k:=0) rfl; have p1:=(X1.out.on hSw).cell (k:=1) rfl; have p2:=(X1.out.on hSw).cell (k:=2) rfl; go_simp; try with_reducible rfl) hH ?_; try go_frame
  refine tkf 2 rfl (fun w hSw => by have p0:=(X2.out.on hSw).cell (k:=0) rfl; have p1:=(X2.out.on hSw).cell (k:=1) rfl; have p2:=(X2.out.on hSw).cell (k:=2) rfl; go_simp; try with_reducible rfl) hH ?_; try go_frame
  refine wpAnyH_ready (rs:=[1,4,5]) (by kernel_rfl) (by simp) (AllReadyH.cons rfl (fun K hK => ?_) (AllReadyH.cons rfl (fun K hK => ?_) (AllReadyH.cons rfl (fun K hK => ?_) AllReadyH.nil)))
  ·go_simp
   refine (own8_any x _ _ v0 (HX3.out.on hH)).mono ?_
   rintro e v1 ⟨iv9,wv9,he,hI,hW,hba⟩
   rw [← HAA.out] at he hI hW
   subst he
   obtain ⟨a1,n1,c1,rfl⟩:=own_any3 hI
   obtain ⟨a2,n2,c2,rfl⟩:=own_any3 hW
   have OA : Hid (OwnI v1 w3.heap.size (.slice a1 n1 c1) A.safe):=hyq (own_base hI hH.size)
   have PA : Hid (OwnO v1 w3.heap.size (.slice a2 n2 c2) A.wait):=hyq (own_base hW hH.size)
   refine hK.out _ _ (bch hH hba) (fun hH => ?_)
   clear hI hW hba
   try go_frame
   refine wpAnyH_ready (rs:=[3,4,5]) (by kernel_rfl) (by simp) (AllReadyH.cons rfl (fun K hK => ?_) (AllReadyH.cons rfl (fun K hK => ?_) (AllReadyH.cons rfl (fun K hK => ?_) AllReadyH.nil)))
   ·go_simp
    refine (own8_any y _ _ v1 (HY3.out.on hH)).mono ?_
    rintro e v3 ⟨iv9,wv9,he,hI,hW,hba⟩
    rw [← HBB.out] at he hI hW
    subst he
    obtain ⟨a3,n3,c3,rfl⟩:=own_any3 hI
    obtain ⟨a4,n4,c4,rfl⟩:=own_any3 hW
    have OA:=hyq (OwnI.on OA.out hba)
    have PA:=hyq (OwnO.on PA.out hba)
    have OB : Hid (OwnI v3 w3.heap.size (.slice a3 n3 c3) B.safe):=hyq (own_base hI hH.size)
    have PB : Hid (OwnO v3 w3.heap.size (.slice a4 n4 c4) B.wait):=hyq (own_base hW hH.size)
    refine hK.out _ _ (bch hH hba) (fun hH => ?_)
    clear hI hW hba
    try go_frame
    refine rd2 4 5 (fun K hK => ?_) (fun K hK => ?_)
    ·go_simp
     have hba : Below v3.heap.size v3 (v3.alloc (.cells #[.slice none 0 0,.slice none 0 0,.int .i64 0] 27)):=below_new _ _
     have Z7 : Hid (Box (v3.alloc (.cells #[.slice none 0 0,.slice none 0 0,.int .i64 0] 27)) v3.heap.size 27 #[.slice none 0 0,.slice none 0 0,.int .i64 0]):=hyq box_new
     have g70 : Hid (w3.heap.size ≤ v3.heap.size):=hyq hH.size
     have OA:=hyq (OwnI.on OA.out hba)
     have PA:=hyq (OwnO.on PA.out hba)
     have OB:=hyq (OwnI.on OB.out hba)
     have PB:=hyq (OwnO.on PB.out hba)
     obtain ⟨v4,hv9⟩:=nmq ((v3.alloc (.cells #[.slice none 0 0,.slice none 0 0,.int .i64 0] 27)))
     refine hK.out _ _ (bch hH hba) (fun hH => ?_)
     clear hba
     rw [← hv9] at Z7 hH OA PA OB PB ⊢
     clear hv9
     obtain ⟨g7,hg9⟩:=nmq (v3.heap.size)
     rw [← hg9] at Z7 g70 ⊢
     clear hg9
     try go_frame
     refine rd1 5 (fun K hK => ?_)
     ·go_simp
      have hba : Below v4.heap.size v4 (v4.alloc (.cells #[.slice none 0 0,.slice none 0 0,.int .i64 0] 27)):=below_new _ _
      have Z8 : Hid (Box (v4.alloc (.cells #[.slice none 0 0,.slice none 0 0,.int .i64 0] 27)) v4.heap.size 27 #[.slice none 0 0,.slice none 0 0,.int .i64 0]):=hyq box_new
      have g80 : Hid (w3.heap.size ≤ v4.heap.size):=hyq hH.size
      have HNE0 : Hid (g7 < v4.heap.size):=hyq Z7.out.lt
      have OA:=hyq (OwnI.on OA.out hba)
      have PA:=hyq (OwnO.on PA.out hba)
      have OB:=hyq (OwnI.on OB.out hba)
      have PB:=hyq (OwnO.on PB.out hba)
      have Z7:=hyq (Z7.out.on hba)
      obtain ⟨v5,hv9⟩:=nmq ((v4.alloc (.cells #[.slice none 0 0,.slice none 0 0,.int .i64 0] 27)))
      refine hK.out _ _ (bch hH hba) (fun hH => ?_)
      clear hba
      rw [← hv9] at Z8 hH OA PA OB PB Z7 ⊢
      clear hv9
      obtain ⟨g8,hg9⟩:=nmq (v4.heap.size)
      rw [← hg9] at Z8 g80 HNE0 ⊢
      clear hg9
      have HNE : Hid (g7 ≠ g8):=hyq (by have:=HNE0.out; omega)
      try go_frame
      refine rd1 6 (fun K hK => ?_)
      ·refine wp_store_if (by rfl) 27 (.tmp 7) (.tmp 25) rfl g7 27 #[.slice none 0 0,.slice none 0 0,.int .i64 0] #[.slice a1 n1 c1,.slice a2 n2 c2,.int .i64 A.room] rfl rfl Z7.out (info27 _ _ _) rfl (darr_one _ _ _ _ _ _ _) ?_
       have OA:=hyq (own_row' (cs':=#[.slice a1 n1 c1,.slice a2 n2 c2,.int .i64 A.room]) OA.out Z7.out (by decide))
       have PA:=hyq (own_row' (cs':=#[.slice a1 n1 c1,.slice a2 n2 c2,.int .i64 A.room]) PA.out Z7.out (by decide))
       have OB:=hyq (own_row' (cs':=#[.slice a1 n1 c1,.slice a2 n2 c2,.int .i64 A.room]) OB.out Z7.out (by decide))
       have PB:=hyq (own_row' (cs':=#[.slice a1 n1 c1,.slice a2 n2 c2,.int .i64 A.room]) PB.out Z7.out (by decide))
       have Z8:=hyq (Z8.out.far_row (Ne.symm HNE.out) #[.slice a1 n1 c1,.slice a2 n2 c2,.int .i64 A.room])
       have Z7 : Hid (Box (v5.setRow g7 #[.slice a1 n1 c1,.slice a2 n2 c2,.int .i64 A.room]) g7 27 #[.slice a1 n1 c1,.slice a2 n2 c2,.int .i64 A.room]):=hyq (Z7.out.row _)
       refine hK.out _ _ (below_row hH g70.out _) (fun hH => ?_)
       obtain ⟨vq,hv9⟩:=nmq (v5.setRow g7 #[.slice a1 n1 c1,.slice a2 n2 c2,.int .i64 A.room])
       rw [← hv9] at Z7 Z8 OA PA OB PB hH ⊢
       clear hv9
       (try simp only [Act.put])
       refine rd1 7 (fun K hK => ?_)
       ·refine wp_store_if (by rfl) 27 (.tmp 8) (.tmp 27) rfl g8 27 #[.slice none 0 0,.slice none 0 0,.int .i64 0] #[.slice a3 n3 c3,.slice a4 n4 c4,.int .i64 B.room] rfl rfl Z8.out (info27 _ _ _) rfl (darr_one _ _ _ _ _ _ _) ?_
        have OA:=hyq (own_row' (cs':=#[.slice a3 n3 c3,.slice a4 n4 c4,.int .i64 B.room]) OA.out Z8.out (by decide))
        have PA:=hyq (own_row' (cs':=#[.slice a3 n3 c3,.slice a4 n4 c4,.int .i64 B.room]) PA.out Z8.out (by decide))
        have OB:=hyq (own_row' (cs':=#[.slice a3 n3 c3,.slice a4 n4 c4,.int .i64 B.room]) OB.out Z8.out (by decide))
        have PB:=hyq (own_row' (cs':=#[.slice a3 n3 c3,.slice a4 n4 c4,.int .i64 B.room]) PB.out Z8.out (by decide))
        have Z7:=hyq (Z7.out.far_row HNE.out #[.slice a3 n3 c3,.slice a4 n4 c4,.int .i64 B.room])
        have Z8 : Hid (Box (vq.setRow g8 #[.slice a3 n3 c3,.slice a4 n4 c4,.int .i64 B.room]) g8 27 #[.slice a3 n3 c3,.slice a4 n4 c4,.int .i64 B.room]):=hyq (Z8.out.row _)
        refine hK.out _ _ (below_row hH g80.out _) (fun hH => ?_)
        (try simp only [Act.put])
        refine wpAnyH_done (by kernel_rfl) ?_ _
        first | refine hK2 _ _ (Met.intro (hJ _ _ ?_)) | refine Met.intro (hJ _ _ ?_)
        (repeat apply Exists.intro)
        refine ⟨?_,rfl⟩
        exact ⟨_,_,_,_,_,_,_,_,_,_,_,_,_,_,rfl,rfl,Z7,Z8,hyq ⟨OwnI.rd OA.out,OwnO.rd PA.out⟩,hyq ⟨OwnI.rd OB.out,OwnO.rd PB.out⟩,hyq hH⟩
    ·go_simp
     have hba : Below v3.heap.size v3 (v3.alloc (.cells #[.slice none 0 0,.slice none 0 0,.int .i64 0] 27)):=below_new _ _
     have Z8 : Hid (Box (v3.alloc (.cells #[.slice none 0 0,.slice none 0 0,.int .i64 0] 27)) v3.heap.size 27 #[.slice none 0 0,.slice none 0 0,.int .i64 0]):=hyq box_new
     have g80 : Hid (w3.heap.size ≤ v3.heap.size):=hyq hH.size
     have OA:=hyq (OwnI.on OA.out hba)
     have PA:=hyq (OwnO.on PA.out hba)
     have OB:=hyq (OwnI.on OB.out hba)
     have PB:=hyq (OwnO.on PB.out hba)
     obtain ⟨v5,hv9⟩:=nmq ((v3.alloc (.cells #[.slice none 0 0,.slice none 0 0,.int .i64 0] 27)))
     refine hK.out _ _ (bch hH hba) (fun hH => ?_)
     clear hba
     rw [← hv9] at Z8 hH OA PA OB PB ⊢
     clear hv9
     obtain ⟨g8,hg9⟩:=nmq (v3.heap.size)
     rw [← hg9] at Z8 g80 ⊢
     clear hg9
     try go_frame
     refine rd1 4 (fun K hK => ?_)
     ·go_simp
      have hba : Below v5.heap.size v5 (v5.alloc (.cells #[.slice none 0 0,.slice none 0 0,.int .i64 0] 27)):=below_new _ _
      have Z7 : Hid (Box (v5.alloc (.cells #[.slice none 0 0,.slice none 0 0,.int .i64 0] 27)) v5.heap.size 27 #[.slice none 0 0,.slice none 0 0,.int .i64 0]):=hyq box_new
      have g70 : Hid (w3.heap.size ≤ v5.heap.size):=hyq hH.size
      have HNE0 : Hid (g8 < v5.heap.size):=hyq Z8.out.lt
      have OA:=hyq (OwnI.on OA.out hba)
      have PA:=hyq (OwnO.on PA.out hba)
      have OB:=hyq (OwnI.on OB.out hba)
      have PB:=hyq (OwnO.on PB.out hba)
      have Z8:=hyq (Z8.out.on hba)
      obtain ⟨v4,hv9⟩:=nmq ((v5.alloc (.cells #[.slice none 0 0,.slice none 0 0,.int .i64 0] 27)))
      refine hK.out _ _ (bch hH hba) (fun hH => ?_)
      clear hba
      rw [← hv9] at Z7 hH OA PA OB PB Z8 ⊢
      clear hv9
      obtain ⟨g7,hg9⟩:=nmq (v5.heap.size)
      rw [← hg9] at Z7 g70 HNE0 ⊢
      clear hg9
      have HNE : Hid (g7 ≠ g8):=hyq (by have:=HNE0.out; omega)
      try go_frame
      refine rd1 6 (fun K hK => ?_)
      ·refine wp_store_if (by rfl) 27 (.tmp 7) (.tmp 25) rfl g7 27 #[.slice none 0 0,.slice none 0 0,.int .i64 0] #[.slice a1 n1 c1,.slice a2 n2 c2,.int .i64 A.room] rfl rfl Z7.out (info27 _ _ _) rfl (darr_one _ _ _ _ _ _ _) ?_
       have OA:=hyq (own_row' (cs':=#[.slice a1 n1 c1,.slice a2 n2 c2,.int .i64 A.room]) OA.out Z7.out (by decide))
       have PA:=hyq (own_row' (cs':=#[.slice a1 n1 c1,.slice a2 n2 c2,.int .i64 A.room]) PA.out Z7.out (by decide))
       have OB:=hyq (own_row' (cs':=#[.slice a1 n1 c1,.slice a2 n2 c2,.int .i64 A.room]) OB.out Z7.out (by decide))
       have PB:=hyq (own_row' (cs':=#[.slice a1 n1 c1,.slice a2 n2 c2,.int .i64 A.room]) PB.out Z7.out (by decide))
       have Z8:=hyq (Z8.out.far_row (Ne.symm HNE.out) #[.slice a1 n1 c1,.slice a2 n2 c2,.int .i64 A.room])
       have Z7 : Hid (Box (v4.setRow g7 #[.slice a1 n1 c1,.slice a2 n2 c2,.int .i64 A.room]) g7 27 #[.slice a1 n1 c1,.slice a2 n2 c2,.int .i64 A.room]):=hyq (Z7.out.row _)
       refine hK.out _ _ (below_row hH g70.out _) (fun hH => ?_)
       obtain ⟨vq,hv9⟩:=nmq (v4.setRow g7 #[.slice a1 n1 c1,.slice a2 n2 c2,.int .i64 A.room])
       rw [← hv9] at Z7 Z8 OA PA OB PB hH ⊢
       clear hv9
       (try simp only [Act.put])
       refine rd1 7 (fun K hK => ?_)
       ·refine wp_store_if (by rfl) 27 (.tmp 8) (.tmp 27) rfl g8 27 #[.slice none 0 0,.slice none 0 0,.int .i64 0] #[.slice a3 n3 c3,.slice a4 n4 c4,.int .i64 B.room] rfl rfl Z8.out (info27 _ _ _) rfl (darr_one _ _ _ _ _ _ _) ?_
        have OA:=hyq (own_row' (cs':=#[.slice a3 n3 c3,.slice a4 n4 c4,.int .i64 B.room]) OA.out Z8.out (by decide))
        have PA:=hyq (own_row' (cs':=#[.slice a3 n3 c3,.slice a4 n4 c4,.int .i64 B.room]) PA.out Z8.out (by decide))
        have OB:=hyq (own_row' (cs':=#[.slice a3 n3 c3,.slice a4 n4 c4,.int .i64 B.room]) OB.out Z8.out (by decide))
        have PB:=hyq (own_row' (cs':=#[.slice a3 n3 c3,.slice a4 n4 c4,.int .i64 B.room]) PB.out Z8.out (by decide))
        have Z7:=hyq (Z7.out.far_row HNE.out #[.slice a3 n3 c3,.slice a4 n4 c4,.int .i64 B.room])
        have Z8 : Hid (Box (vq.setRow g8 #[.slice a3 n3 c3,.slice a4 n4 c4,.int .i64 B.room]) g8 27 #[.slice a3 n3 c3,.slice a4 n4 c4,.int .i64 B.room]):=hyq (Z8.out.row _)
        refine hK.out _ _ (below_row hH g80.out _) (fun hH => ?_)
        (try simp only [Act.put])
        refine wpAnyH_done (by kernel_rfl) ?_ _
        first | refine hK2 _ _ (Met.intro (hJ _ _ ?_)) | refine Met.intro (hJ _ _ ?_)
        (repeat apply Exists.intro)
        refine ⟨?_,rfl⟩
        exact ⟨_,_,_,_,_,_,_,_,_,_,_,_,_,_,rfl,rfl,Z7,Z8,hyq ⟨OwnI.rd OA.out,OwnO.rd PA.out⟩,hyq ⟨OwnI.rd OB.out,OwnO.rd PB.out⟩,hyq hH⟩
   ·go_simp
    have hba : Below v1.heap.size v1 (v1.alloc (.cells #[.slice none 0 0,.slice none 0 0,.int .i64 0] 27)):=below_new _ _
    have Z7 : Hid (Box (v1.alloc (.cells #[.slice none 0 0,.slice none 0 0,.int .i64 0] 27)) v1.heap.size 27 #[.slice none 0 0,.slice none 0 0,.int .i64 0]):=hyq box_new
    have g70 : Hid (w3.heap.size ≤ v1.heap.size):=hyq hH.size
    have OA:=hyq (OwnI.on OA.out hba)
    have PA:=hyq (OwnO.on PA.out hba)
    obtain ⟨v4,hv9⟩:=nmq ((v1.alloc (.cells #[.slice none 0 0,.slice none 0 0,.int .i64 0] 27)))
    refine hK.out _ _ (bch hH hba) (fun hH => ?_)
    clear hba
    rw [← hv9] at Z7 hH OA PA ⊢
    clear hv9
    obtain ⟨g7,hg9⟩:=nmq (v1.heap.size)
    rw [← hg9] at Z7 g70 ⊢
    clear hg9
    try go_frame
    refine rd2 3 5 (fun K hK => ?_) (fun K hK => ?_)
    ·go_simp
     refine (own8_any y _ _ v4 (HY3.out.on hH)).mono ?_
     rintro e v3 ⟨iv9,wv9,he,hI,hW,hba⟩
     rw [← HBB.out] at he hI hW
     subst he
     obtain ⟨a3,n3,c3,rfl⟩:=own_any3 hI
     obtain ⟨a4,n4,c4,rfl⟩:=own_any3 hW
     have OA:=hyq (OwnI.on OA.out hba)
     have PA:=hyq (OwnO.on PA.out hba)
     have Z7:=hyq (Z7.out.on hba)
     have OB : Hid (OwnI v3 w3.heap.size (.slice a3 n3 c3) B.safe):=hyq (own_base hI hH.size)
     have PB : Hid (OwnO v3 w3.heap.size (.slice a4 n4 c4) B.wait):=hyq (own_base hW hH.size)
     refine hK.out _ _ (bch hH hba) (fun hH => ?_)
     clear hI hW hba
     try go_frame
     refine rd1 5 (fun K hK => ?_)
     ·go_simp
      have hba : Below v3.heap.size v3 (v3.alloc (.cells #[.slice none 0 0,.slice none 0 0,.int .i64 0] 27)):=below_new _ _
      have Z8 : Hid (Box (v3.alloc (.cells #[.slice none 0 0,.slice none 0 0,.int .i64 0] 27)) v3.heap.size 27 #[.slice none 0 0,.slice none 0 0,.int .i64 0]):=hyq box_new
      have g80 : Hid (w3.heap.size ≤ v3.heap.size):=hyq hH.size
      have HNE0 : Hid (g7 < v3.heap.size):=hyq Z7.out.lt
      have OA:=hyq (OwnI.on OA.out hba)
      have PA:=hyq (OwnO.on PA.out hba)
      have OB:=hyq (OwnI.on OB.out hba)
      have PB:=hyq (OwnO.on PB.out hba)
      have Z7:=hyq (Z7.out.on hba)
      obtain ⟨v5,hv9⟩:=nmq ((v3.alloc (.cells #[.slice none 0 0,.slice none 0 0,.int .i64 0] 27)))
      refine hK.out _ _ (bch hH hba) (fun hH => ?_)
      clear hba
      rw [← hv9] at Z8 hH OA PA OB PB Z7 ⊢
      clear hv9
      obtain ⟨g8,hg9⟩:=nmq (v3.heap.size)
      rw [← hg9] at Z8 g80 HNE0 ⊢
      clear hg9
      have HNE : Hid (g7 ≠ g8):=hyq (by have:=HNE0.out; omega)
      try go_frame
      refine rd1 6 (fun K hK => ?_)
      ·refine wp_store_if (by rfl) 27 (.tmp 7) (.tmp 25) rfl g7 27 #[.slice none 0 0,.slice none 0 0,.int .i64 0] #[.slice a1 n1 c1,.slice a2 n2 c2,.int .i64 A.room] rfl rfl Z7.out (info27 _ _ _) rfl (darr_one _ _ _ _ _ _ _) ?_
       have OA:=hyq (own_row' (cs':=#[.slice a1 n1 c1,.slice a2 n2 c2,.int .i64 A.room]) OA.out Z7.out (by decide))
       have PA:=hyq (own_row' (cs':=#[.slice a1 n1 c1,.slice a2 n2 c2,.int .i64 A.room]) PA.out Z7.out (by decide))
       have OB:=hyq (own_row' (cs':=#[.slice a1 n1 c1,.slice a2 n2 c2,.int .i64 A.room]) OB.out Z7.out (by decide))
       have PB:=hyq (own_row' (cs':=#[.slice a1 n1 c1,.slice a2 n2 c2,.int .i64 A.room]) PB.out Z7.out (by decide))
       have Z8:=hyq (Z8.out.far_row (Ne.symm HNE.out) #[.slice a1 n1 c1,.slice a2 n2 c2,.int .i64 A.room])
       have Z7 : Hid (Box (v5.setRow g7 #[.slice a1 n1 c1,.slice a2 n2 c2,.int .i64 A.room]) g7 27 #[.slice a1 n1 c1,.slice a2 n2 c2,.int .i64 A.room]):=hyq (Z7.out.row _)
       refine hK.out _ _ (below_row hH g70.out _) (fun hH => ?_)
       obtain ⟨vq,hv9⟩:=nmq (v5.setRow g7 #[.slice a1 n1 c1,.slice a2 n2 c2,.int .i64 A.room])
       rw [← hv9] at Z7 Z8 OA PA OB PB hH ⊢
       clear hv9
       (try simp only [Act.put])
       refine rd1 7 (fun K hK => ?_)
       ·refine wp_store_if (by rfl) 27 (.tmp 8) (.tmp 27) rfl g8 27 #[.slice none 0 0,.slice none 0 0,.int .i64 0] #[.slice a3 n3 c3,.slice a4 n4 c4,.int .i64 B.room] rfl rfl Z8.out (info27 _ _ _) rfl (darr_one _ _ _ _ _ _ _) ?_
        have OA:=hyq (own_row' (cs':=#[.slice a3 n3 c3,.slice a4 n4 c4,.int .i64 B.room]) OA.out Z8.out (by decide))
        have PA:=hyq (own_row' (cs':=#[.slice a3 n3 c3,.slice a4 n4 c4,.int .i64 B.room]) PA.out Z8.out (by decide))
        have OB:=hyq (own_row' (cs':=#[.slice a3 n3 c3,.slice a4 n4 c4,.int .i64 B.room]) OB.out Z8.out (by decide))
        have PB:=hyq (own_row' (cs':=#[.slice a3 n3 c3,.slice a4 n4 c4,.int .i64 B.room]) PB.out Z8.out (by decide))
        have Z7:=hyq (Z7.out.far_row HNE.out #[.slice a3 n3 c3,.slice a4 n4 c4,.int .i64 B.room])
        have Z8 : Hid (Box (vq.setRow g8 #[.slice a3 n3 c3,.slice a4 n4 c4,.int .i64 B.room]) g8 27 #[.slice a3 n3 c3,.slice a4 n4 c4,.int .i64 B.room]):=hyq (Z8.out.row _)
        refine hK.out _ _ (below_row hH g80.out _) (fun hH => ?_)
        (try simp only [Act.put])
        refine wpAnyH_done (by kernel_rfl) ?_ _
        first | refine hK2 _ _ (Met.intro (hJ _ _ ?_)) | refine Met.intro (hJ _ _ ?_)
        (repeat apply Exists.intro)
        refine ⟨?_,rfl⟩
        exact ⟨_,_,_,_,_,_,_,_,_,_,_,_,_,_,rfl,rfl,Z7,Z8,hyq ⟨OwnI.rd OA.out,OwnO.rd PA.out⟩,hyq ⟨OwnI.rd OB.out,OwnO.rd PB.out⟩,hyq hH⟩
    ·go_simp
     have hba : Below v4.heap.size v4 (v4.alloc (.cells #[.slice none 0 0,.slice none 0 0,.int .i64 0] 27)):=below_new _ _
     have Z8 : Hid (Box (v4.alloc (.cells #[.slice none 0 0,.slice none 0 0,.int .i64 0] 27)) v4.heap.size 27 #[.slice none 0 0,.slice none 0 0,.int .i64 0]):=hyq box_new
     have g80 : Hid (w3.heap.size ≤ v4.heap.size):=hyq hH.size
     have HNE0 : Hid (g7 < v4.heap.size):=hyq Z7.out.lt
     have OA:=hyq (OwnI.on OA.out hba)
     have PA:=hyq (OwnO.on PA.out hba)
     have Z7:=hyq (Z7.out.on hba)
     obtain ⟨v5,hv9⟩:=nmq ((v4.alloc (.cells #[.slice none 0 0,.slice none 0 0,.int .i64 0] 27)))
     refine hK.out _ _ (bch hH hba) (fun hH => ?_)
     clear hba
     rw [← hv9] at Z8 hH OA PA Z7 ⊢
     clear hv9
     obtain ⟨g8,hg9⟩:=nmq (v4.heap.size)
     rw [← hg9] at Z8 g80 HNE0 ⊢
     clear hg9
     have HNE : Hid (g7 ≠ g8):=hyq (by have:=HNE0.out; omega)
     try go_frame
     refine rd1 3 (fun K hK => ?_)
     ·go_simp
      refine (own8_any y _ _ v5 (HY3.out.on hH)).mono ?_
      rintro e v3 ⟨iv9,wv9,he,hI,hW,hba⟩
      rw [← HBB.out] at he hI hW
      subst he
      obtain ⟨a3,n3,c3,rfl⟩:=own_any3 hI
      obtain ⟨a4,n4,c4,rfl⟩:=own_any3 hW
      have OA:=hyq (OwnI.on OA.out hba)
      have PA:=hyq (OwnO.on PA.out hba)
      have Z7:=hyq (Z7.out.on hba)
      have Z8:=hyq (Z8.out.on hba)
      have OB : Hid (OwnI v3 w3.heap.size (.slice a3 n3 c3) B.safe):=hyq (own_base hI hH.size)
      have PB : Hid (OwnO v3 w3.heap.size (.slice a4 n4 c4) B.wait):=hyq (own_base hW hH.size)
      refine hK.out _ _ (bch hH hba) (fun hH => ?_)
      clear hI hW hba
      try go_frame
      refine rd1 6 (fun K hK => ?_)
      ·refine wp_store_if (by rfl) 27 (.tmp 7) (.tmp 25) rfl g7 27 #[.slice none 0 0,.slice none 0 0,.int .i64 0] #[.slice a1 n1 c1,.slice a2 n2 c2,.int .i64 A.room] rfl rfl Z7.out (info27 _ _ _) rfl (darr_one _ _ _ _ _ _ _) ?_
       have OA:=hyq (own_row' (cs':=#[.slice a1 n1 c1,.slice a2 n2 c2,.int .i64 A.room]) OA.out Z7.out (by decide))
       have PA:=hyq (own_row' (cs':=#[.slice a1 n1 c1,.slice a2 n2 c2,.int .i64 A.room]) PA.out Z7.out (by decide))
       have OB:=hyq (own_row' (cs':=#[.slice a1 n1 c1,.slice a2 n2 c2,.int .i64 A.room]) OB.out Z7.out (by decide))
       have PB:=hyq (own_row' (cs':=#[.slice a1 n1 c1,.slice a2 n2 c2,.int .i64 A.room]) PB.out Z7.out (by decide))
       have Z8:=hyq (Z8.out.far_row (Ne.symm HNE.out) #[.slice a1 n1 c1,.slice a2 n2 c2,.int .i64 A.room])
       have Z7 : Hid (Box (v3.setRow g7 #[.slice a1 n1 c1,.slice a2 n2 c2,.int .i64 A.room]) g7 27 #[.slice a1 n1 c1,.slice a2 n2 c2,.int .i64 A.room]):=hyq (Z7.out.row _)
       refine hK.out _ _ (below_row hH g70.out _) (fun hH => ?_)
       obtain ⟨vq,hv9⟩:=nmq (v3.setRow g7 #[.slice a1 n1 c1,.slice a2 n2 c2,.int .i64 A.room])
       rw [← hv9] at Z7 Z8 OA PA OB PB hH ⊢
       clear hv9
       (try simp only [Act.put])
       refine rd1 7 (fun K hK => ?_)
       ·refine wp_store_if (by rfl) 27 (.tmp 8) (.tmp 27) rfl g8 27 #[.slice none 0 0,.slice none 0 0,.int .i64 0] #[.slice a3 n3 c3,.slice a4 n4 c4,.int .i64 B.room] rfl rfl Z8.out (info27 _ _ _) rfl (darr_one _ _ _ _ _ _ _) ?_
        have OA:=hyq (own_row' (cs':=#[.slice a3 n3 c3,.slice a4 n4 c4,.int .i64 B.room]) OA.out Z8.out (by decide))
        have PA:=hyq (own_row' (cs':=#[.slice a3 n3 c3,.slice a4 n4 c4,.int .i64 B.room]) PA.out Z8.out (by decide))
        have OB:=hyq (own_row' (cs':=#[.slice a3 n3 c3,.slice a4 n4 c4,.int .i64 B.room]) OB.out Z8.out (by decide))
        have PB:=hyq (own_row' (cs':=#[.slice a3 n3 c3,.slice a4 n4 c4,.int .i64 B.room]) PB.out Z8.out (by decide))
        have Z7:=hyq (Z7.out.far_row HNE.out #[.slice a3 n3 c3,.slice a4 n4 c4,.int .i64 B.room])
        have Z8 : Hid (Box (vq.setRow g8 #[.slice a3 n3 c3,.slice a4 n4 c4,.int .i64 B.room]) g8 27 #[.slice a3 n3 c3,.slice a4 n4 c4,.int .i64 B.room]):=hyq (Z8.out.row _)
        refine hK.out _ _ (below_row hH g80.out _) (fun hH => ?_)
        (try simp only [Act.put])
        refine wpAnyH_done (by kernel_rfl) ?_ _
        first | refine hK2 _ _ (Met.intro (hJ _ _ ?_)) | refine Met.intro (hJ _ _ ?_)
        (repeat apply Exists.intro)
        refine ⟨?_,rfl⟩
        exact ⟨_,_,_,_,_,_,_,_,_,_,_,_,_,_,rfl,rfl,Z7,Z8,hyq ⟨OwnI.rd OA.out,OwnO.rd PA.out⟩,hyq ⟨OwnI.rd OB.out,OwnO.rd PB.out⟩,hyq hH⟩
   ·go_simp
    have hba : Below v1.heap.size v1 (v1.alloc (.cells #[.slice none 0 0,.slice none 0 0,.int .i64 0] 27)):=below_new _ _
    have Z8 : Hid (Box (v1.alloc (.cells #[.slice none 0 0,.slice none 0 0,.int .i64 0] 27)) v1.heap.size 27 #[.slice none 0 0,.slice none 0 0,.int .i64 0]):=hyq box_new
    have g80 : Hid (w3.heap.size ≤ v1.heap.size):=hyq hH.size
    have OA:=hyq (OwnI.on OA.out hba)
    have PA:=hyq (OwnO.on PA.out hba)
    obtain ⟨v5,hv9⟩:=nmq ((v1.alloc (.cells #[.slice none 0 0,.slice none 0 0,.int .i64 0] 27)))
    refine hK.out _ _ (bch hH hba) (fun hH => ?_)
    clear hba
    rw [← hv9] at Z8 hH OA PA ⊢
    clear hv9
    obtain ⟨g8,hg9⟩:=nmq (v1.heap.size)
    rw [← hg9] at Z8 g80 ⊢
    clear hg9
    try go_frame
    refine rd2 3 4 (fun K hK => ?_) (fun K hK => ?_)
    ·go_simp
     refine (own8_any y _ _ v5 (HY3.out.on hH)).mono ?_
     rintro e v3 ⟨iv9,wv9,he,hI,hW,hba⟩
     rw [← HBB.out] at he hI hW
     subst he
     obtain ⟨a3,n3,c3,rfl⟩:=own_any3 hI
     obtain ⟨a4,n4,c4,rfl⟩:=own_any3 hW
     have OA:=hyq (OwnI.on OA.out hba)
     have PA:=hyq (OwnO.on PA.out hba)
     have Z8:=hyq (Z8.out.on hba)
     have OB : Hid (OwnI v3 w3.heap.size (.slice a3 n3 c3) B.safe):=hyq (own_base hI hH.size)
     have PB : Hid (OwnO v3 w3.heap.size (.slice a4 n4 c4) B.wait):=hyq (own_base hW hH.size)
     refine hK.out _ _ (bch hH hba) (fun hH => ?_)
     clear hI hW hba
     try go_frame
     refine rd1 4 (fun K hK => ?_)
     ·go_simp
      have hba : Below v3.heap.size v3 (v3.alloc (.cells #[.slice none 0 0,.slice none 0 0,.int .i64 0] 27)):=below_new _ _
      have Z7 : Hid (Box (v3.alloc (.cells #[.slice none 0 0,.slice none 0 0,.int .i64 0] 27)) v3.heap.size 27 #[.slice none 0 0,.slice none 0 0,.int .i64 0]):=hyq box_new
      have g70 : Hid (w3.heap.size ≤ v3.heap.size):=hyq hH.size
      have HNE0 : Hid (g8 < v3.heap.size):=hyq Z8.out.lt
      have OA:=hyq (OwnI.on OA.out hba)
      have PA:=hyq (OwnO.on PA.out hba)
      have OB:=hyq (OwnI.on OB.out hba)
      have PB:=hyq (OwnO.on PB.out hba)
      have Z8:=hyq (Z8.out.on hba)
      obtain ⟨v4,hv9⟩:=nmq ((v3.alloc (.cells #[.slice none 0 0,.slice none 0 0,.int .i64 0] 27)))
      refine hK.out _ _ (bch hH hba) (fun hH => ?_)
      clear hba
      rw [← hv9] at Z7 hH OA PA OB PB Z8 ⊢
      clear hv9
      obtain ⟨g7,hg9⟩:=nmq (v3.heap.size)
      rw [← hg9] at Z7 g70 HNE0 ⊢
      clear hg9
      have HNE : Hid (g7 ≠ g8):=hyq (by have:=HNE0.out; omega)
      try go_frame
      refine rd1 6 (fun K hK => ?_)
      ·refine wp_store_if (by rfl) 27 (.tmp 7) (.tmp 25) rfl g7 27 #[.slice none 0 0,.slice none 0 0,.int .i64 0] #[.slice a1 n1 c1,.slice a2 n2 c2,.int .i64 A.room] rfl rfl Z7.out (info27 _ _ _) rfl (darr_one _ _ _ _ _ _ _) ?_
       have OA:=hyq (own_row' (cs':=#[.slice a1 n1 c1,.slice a2 n2 c2,.int .i64 A.room]) OA.out Z7.out (by decide))
       have PA:=hyq (own_row' (cs':=#[.slice a1 n1 c1,.slice a2 n2 c2,.int .i64 A.room]) PA.out Z7.out (by decide))
       have OB:=hyq (own_row' (cs':=#[.slice a1 n1 c1,.slice a2 n2 c2,.int .i64 A.room]) OB.out Z7.out (by decide))
       have PB:=hyq (own_row' (cs':=#[.slice a1 n1 c1,.slice a2 n2 c2,.int .i64 A.room]) PB.out Z7.out (by decide))
       have Z8:=hyq (Z8.out.far_row (Ne.symm HNE.out) #[.slice a1 n1 c1,.slice a2 n2 c2,.int .i64 A.room])
       have Z7 : Hid (Box (v4.setRow g7 #[.slice a1 n1 c1,.slice a2 n2 c2,.int .i64 A.room]) g7 27 #[.slice a1 n1 c1,.slice a2 n2 c2,.int .i64 A.room]):=hyq (Z7.out.row _)
       refine hK.out _ _ (below_row hH g70.out _) (fun hH => ?_)
       obtain ⟨vq,hv9⟩:=nmq (v4.setRow g7 #[.slice a1 n1 c1,.slice a2 n2 c2,.int .i64 A.room])
       rw [← hv9] at Z7 Z8 OA PA OB PB hH ⊢
       clear hv9
       (try simp only [Act.put])
       refine rd1 7 (fun K hK => ?_)
       ·refine wp_store_if (by rfl) 27 (.tmp 8) (.tmp 27) rfl g8 27 #[.slice none 0 0,.slice none 0 0,.int .i64 0] #[.slice a3 n3 c3,.slice a4 n4 c4,.int .i64 B.room] rfl rfl Z8.out (info27 _ _ _) rfl (darr_one _ _ _ _ _ _ _) ?_
        have OA:=hyq (own_row' (cs':=#[.slice a3 n3 c3,.slice a4 n4 c4,.int .i64 B.room]) OA.out Z8.out (by decide))
        have PA:=hyq (own_row' (cs':=#[.slice a3 n3 c3,.slice a4 n4 c4,.int .i64 B.room]) PA.out Z8.out (by decide))
        have OB:=hyq (own_row' (cs':=#[.slice a3 n3 c3,.slice a4 n4 c4,.int .i64 B.room]) OB.out Z8.out (by decide))
        have PB:=hyq (own_row' (cs':=#[.slice a3 n3 c3,.slice a4 n4 c4,.int .i64 B.room]) PB.out Z8.out (by decide))
        have Z7:=hyq (Z7.out.far_row HNE.out #[.slice a3 n3 c3,.slice a4 n4 c4,.int .i64 B.room])
        have Z8 : Hid (Box (vq.setRow g8 #[.slice a3 n3 c3,.slice a4 n4 c4,.int .i64 B.room]) g8 27 #[.slice a3 n3 c3,.slice a4 n4 c4,.int .i64 B.room]):=hyq (Z8.out.row _)
        refine hK.out _ _ (below_row hH g80.out _) (fun hH => ?_)
        (try simp only [Act.put])
        refine wpAnyH_done (by kernel_rfl) ?_ _
        first | refine hK2 _ _ (Met.intro (hJ _ _ ?_)) | refine Met.intro (hJ _ _ ?_)
        (repeat apply Exists.intro)
        refine ⟨?_,rfl⟩
        exact ⟨_,_,_,_,_,_,_,_,_,_,_,_,_,_,rfl,rfl,Z7,Z8,hyq ⟨OwnI.rd OA.out,OwnO.rd PA.out⟩,hyq ⟨OwnI.rd OB.out,OwnO.rd PB.out⟩,hyq hH⟩
    ·go_simp
     have hba : Below v5.heap.size v5 (v5.alloc (.cells #[.slice none 0 0,.slice none 0 0,.int .i64 0] 27)):=below_new _ _
     have Z7 : Hid (Box (v5.alloc (.cells #[.slice none 0 0,.slice none 0 0,.int .i64 0] 27)) v5.heap.size 27 #[.slice none 0 0,.slice none 0 0,.int .i64 0]):=hyq box_new
     have g70 : Hid (w3.heap.size ≤ v5.heap.size):=hyq hH.size
     have HNE0 : Hid (g8 < v5.heap.size):=hyq Z8.out.lt
     have OA:=hyq (OwnI.on OA.out hba)
     have PA:=hyq (OwnO.on PA.out hba)
     have Z8:=hyq (Z8.out.on hba)
     obtain ⟨v4,hv9⟩:=nmq ((v5.alloc (.cells #[.slice none 0 0,.slice none 0 0,.int .i64 0] 27)))
     refine hK.out _ _ (bch hH hba) (fun hH => ?_)
     clear hba
     rw [← hv9] at Z7 hH OA PA Z8 ⊢
     clear hv9
     obtain ⟨g7,hg9⟩:=nmq (v5.heap.size)
     rw [← hg9] at Z7 g70 HNE0 ⊢
     clear hg9
     have HNE : Hid (g7 ≠ g8):=hyq (by have:=HNE0.out; omega)
     try go_frame
     refine rd1 3 (fun K hK => ?_)
     ·go_simp
      refine (own8_any y _ _ v4 (HY3.out.on hH)).mono ?_
      rintro e v3 ⟨iv9,wv9,he,hI,hW,hba⟩
      rw [← HBB.out] at he hI hW
      subst he
      obtain ⟨a3,n3,c3,rfl⟩:=own_any3 hI
      obtain ⟨a4,n4,c4,rfl⟩:=own_any3 hW
      have OA:=hyq (OwnI.on OA.out hba)
      have PA:=hyq (OwnO.on PA.out hba)
      have Z7:=hyq (Z7.out.on hba)
      have Z8:=hyq (Z8.out.on hba)
      have OB : Hid (OwnI v3 w3.heap.size (.slice a3 n3 c3) B.safe):=hyq (own_base hI hH.size)
      have PB : Hid (OwnO v3 w3.heap.size (.slice a4 n4 c4) B.wait):=hyq (own_base hW hH.size)
      refine hK.out _ _ (bch hH hba) (fun hH => ?_)
      clear hI hW hba
      try go_frame
      refine rd1 6 (fun K hK => ?_)
      ·refine wp_store_if (by rfl) 27 (.tmp 7) (.tmp 25) rfl g7 27 #[.slice none 0 0,.slice none 0 0,.int .i64 0] #[.slice a1 n1 c1,.slice a2 n2 c2,.int .i64 A.room] rfl rfl Z7.out (info27 _ _ _) rfl (darr_one _ _ _ _ _ _ _) ?_
       have OA:=hyq (own_row' (cs':=#[.slice a1 n1 c1,.slice a2 n2 c2,.int .i64 A.room]) OA.out Z7.out (by decide))
       have PA:=hyq (own_row' (cs':=#[.slice a1 n1 c1,.slice a2 n2 c2,.int .i64 A.room]) PA.out Z7.out (by decide))
       have OB:=hyq (own_row' (cs':=#[.slice a1 n1 c1,.slice a2 n2 c2,.int .i64 A.room]) OB.out Z7.out (by decide))
       have PB:=hyq (own_row' (cs':=#[.slice a1 n1 c1,.slice a2 n2 c2,.int .i64 A.room]) PB.out Z7.out (by decide))
       have Z8:=hyq (Z8.out.far_row (Ne.symm HNE.out) #[.slice a1 n1 c1,.slice a2 n2 c2,.int .i64 A.room])
       have Z7 : Hid (Box (v3.setRow g7 #[.slice a1 n1 c1,.slice a2 n2 c2,.int .i64 A.room]) g7 27 #[.slice a1 n1 c1,.slice a2 n2 c2,.int .i64 A.room]):=hyq (Z7.out.row _)
       refine hK.out _ _ (below_row hH g70.out _) (fun hH => ?_)
       obtain ⟨vq,hv9⟩:=nmq (v3.setRow g7 #[.slice a1 n1 c1,.slice a2 n2 c2,.int .i64 A.room])
       rw [← hv9] at Z7 Z8 OA PA OB PB hH ⊢
       clear hv9
       (try simp only [Act.put])
       refine rd1 7 (fun K hK => ?_)
       ·refine wp_store_if (by rfl) 27 (.tmp 8) (.tmp 27) rfl g8 27 #[.slice none 0 0,.slice none 0 0,.int .i64 0] #[.slice a3 n3 c3,.slice a4 n4 c4,.int .i64 B.room] rfl rfl Z8.out (info27 _ _ _) rfl (darr_one _ _ _ _ _ _ _) ?_
        have OA:=hyq (own_row' (cs':=#[.slice a3 n3 c3,.slice a4 n4 c4,.int .i64 B.room]) OA.out Z8.out (by decide))
        have PA:=hyq (own_row' (cs':=#[.slice a3 n3 c3,.slice a4 n4 c4,.int .i64 B.room]) PA.out Z8.out (by decide))
        have OB:=hyq (own_row' (cs':=#[.slice a3 n3 c3,.slice a4 n4 c4,.int .i64 B.room]) OB.out Z8.out (by decide))
        have PB:=hyq (own_row' (cs':=#[.slice a3 n3 c3,.slice a4 n4 c4,.int .i64 B.room]) PB.out Z8.out (by decide))
        have Z7:=hyq (Z7.out.far_row HNE.out #[.slice a3 n3 c3,.slice a4 n4 c4,.int .i64 B.room])
        have Z8 : Hid (Box (vq.setRow g8 #[.slice a3 n3 c3,.slice a4 n4 c4,.int .i64 B.room]) g8 27 #[.slice a3 n3 c3,.slice a4 n4 c4,.int .i64 B.room]):=hyq (Z8.out.row _)
        refine hK.out _ _ (below_row hH g80.out _) (fun hH => ?_)
        (try simp only [Act.put])
        refine wpAnyH_done (by kernel_rfl) ?_ _
        first | refine hK2 _ _ (Met.intro (hJ _ _ ?_)) | refine Met.intro (hJ _ _ ?_)
        (repeat apply Exists.intro)
        refine ⟨?_,rfl⟩
        exact ⟨_,_,_,_,_,_,_,_,_,_,_,_,_,_,rfl,rfl,Z7,Z8,hyq ⟨OwnI.rd OA.out,OwnO.rd PA.out⟩,hyq ⟨OwnI.rd OB.out,OwnO.rd PB.out⟩,hyq hH⟩
  ·go_simp
   have hba : Below v0.heap.size v0 (v0.alloc (.cells #[.slice none 0 0,.slice none 0 0,.int .i64 0] 27)):=below_new _ _
   have Z7 : Hid (Box (v0.alloc (.cells #[.slice none 0 0,.slice none 0 0,.int .i64 0] 27)) v0.heap.size 27 #[.slice none 0 0,.slice none 0 0,.int .i64 0]):=hyq box_new
   have g70 : Hid (w3.heap.size ≤ v0.heap.size):=hyq hH.size
   obtain ⟨v4,hv9⟩:=nmq ((v0.alloc (.cells #[.slice none 0 0,.slice none 0 0,.int .i64 0] 27)))
   refine hK.out _ _ (bch hH hba) (fun hH => ?_)
   clear hba
   rw [← hv9] at Z7 hH ⊢
   clear hv9
   obtain ⟨g7,hg9⟩:=nmq (v0.heap.size)
   rw [← hg9] at Z7 g70 ⊢
   clear hg9
   try go_frame
   refine rd2 1 5 (fun K hK => ?_) (fun K hK => ?_)
   ·go_simp
    refine (own8_any x _ _ v4 (HX3.out.on hH)).mono ?_
    rintro e v1 ⟨iv9,wv9,he,hI,hW,hba⟩
    rw [← HAA.out] at he hI hW
    subst he
    obtain ⟨a1,n1,c1,rfl⟩:=own_any3 hI
    obtain ⟨a2,n2,c2,rfl⟩:=own_any3 hW
    have Z7:=hyq (Z7.out.on hba)
    have OA : Hid (OwnI v1 w3.heap.size (.slice a1 n1 c1) A.safe):=hyq (own_base hI hH.size)
    have PA : Hid (OwnO v1 w3.heap.size (.slice a2 n2 c2) A.wait):=hyq (own_base hW hH.size)
    refine hK.out _ _ (bch hH hba) (fun hH => ?_)
    clear hI hW hba
    try go_frame
    refine rd2 3 5 (fun K hK => ?_) (fun K hK => ?_)
    ·go_simp
     refine (own8_any y _ _ v1 (HY3.out.on hH)).mono ?_
     rintro e v3 ⟨iv9,wv9,he,hI,hW,hba⟩
     rw [← HBB.out] at he hI hW
     subst he
     obtain ⟨a3,n3,c3,rfl⟩:=own_any3 hI
     obtain ⟨a4,n4,c4,rfl⟩:=own_any3 hW
     have OA:=hyq (OwnI.on OA.out hba)
     have PA:=hyq (OwnO.on PA.out hba)
     have Z7:=hyq (Z7.out.on hba)
     have OB : Hid (OwnI v3 w3.heap.size (.slice a3 n3 c3) B.safe):=hyq (own_base hI hH.size)
     have PB : Hid (OwnO v3 w3.heap.size (.slice a4 n4 c4) B.wait):=hyq (own_base hW hH.size)
     refine hK.out _ _ (bch hH hba) (fun hH => ?_)
     clear hI hW hba
     try go_frame
     refine rd1 5 (fun K hK => ?_)
     ·go_simp
      have hba : Below v3.heap.size v3 (v3.alloc (.cells #[.slice none 0 0,.slice none 0 0,.int .i64 0] 27)):=below_new _ _
      have Z8 : Hid (Box (v3.alloc (.cells #[.slice none 0 0,.slice none 0 0,.int .i64 0] 27)) v3.heap.size 27 #[.slice none 0 0,.slice none 0 0,.int .i64 0]):=hyq box_new
      have g80 : Hid (w3.heap.size ≤ v3.heap.size):=hyq hH.size
      have HNE0 : Hid (g7 < v3.heap.size):=hyq Z7.out.lt
      have OA:=hyq (OwnI.on OA.out hba)
      have PA:=hyq (OwnO.on PA.out hba)
      have OB:=hyq (OwnI.on OB.out hba)
      have PB:=hyq (OwnO.on PB.out hba)
      have Z7:=hyq (Z7.out.on hba)
      obtain ⟨v5,hv9⟩:=nmq ((v3.alloc (.cells #[.slice none 0 0,.slice none 0 0,.int .i64 0] 27)))
      refine hK.out _ _ (bch hH hba) (fun hH => ?_)
      clear hba
      rw [← hv9] at Z8 hH OA PA OB PB Z7 ⊢
      clear hv9
      obtain ⟨g8,hg9⟩:=nmq (v3.heap.size)
      rw [← hg9] at Z8 g80 HNE0 ⊢
      clear hg9
      have HNE : Hid (g7 ≠ g8):=hyq (by have:=HNE0.out; omega)
      try go_frame
      refine rd1 6 (fun K hK => ?_)
      ·refine wp_store_if (by rfl) 27 (.tmp 7) (.tmp 25) rfl g7 27 #[.slice none 0 0,.slice none 0 0,.int .i64 0] #[.slice a1 n1 c1,.slice a2 n2 c2,.int .i64 A.room] rfl rfl Z7.out (info27 _ _ _) rfl (darr_one _ _ _ _ _ _ _) ?_
       have OA:=hyq (own_row' (cs':=#[.slice a1 n1 c1,.slice a2 n2 c2,.int .i64 A.room]) OA.out Z7.out (by decide))
       have PA:=hyq (own_row' (cs':=#[.slice a1 n1 c1,.slice a2 n2 c2,.int .i64 A.room]) PA.out Z7.out (by decide))
       have OB:=hyq (own_row' (cs':=#[.slice a1 n1 c1,.slice a2 n2 c2,.int .i64 A.room]) OB.out Z7.out (by decide))
       have PB:=hyq (own_row' (cs':=#[.slice a1 n1 c1,.slice a2 n2 c2,.int .i64 A.room]) PB.out Z7.out (by decide))
       have Z8:=hyq (Z8.out.far_row (Ne.symm HNE.out) #[.slice a1 n1 c1,.slice a2 n2 c2,.int .i64 A.room])
       have Z7 : Hid (Box (v5.setRow g7 #[.slice a1 n1 c1,.slice a2 n2 c2,.int .i64 A.room]) g7 27 #[.slice a1 n1 c1,.slice a2 n2 c2,.int .i64 A.room]):=hyq (Z7.out.row _)
       refine hK.out _ _ (below_row hH g70.out _) (fun hH => ?_)
       obtain ⟨vq,hv9⟩:=nmq (v5.setRow g7 #[.slice a1 n1 c1,.slice a2 n2 c2,.int .i64 A.room])
       rw [← hv9] at Z7 Z8 OA PA OB PB hH ⊢
       clear hv9
       (try simp only [Act.put])
       refine rd1 7 (fun K hK => ?_)
       ·refine wp_store_if (by rfl) 27 (.tmp 8) (.tmp 27) rfl g8 27 #[.slice none 0 0,.slice none 0 0,.int .i64 0] #[.slice a3 n3 c3,.slice a4 n4 c4,.int .i64 B.room] rfl rfl Z8.out (info27 _ _ _) rfl (darr_one _ _ _ _ _ _ _) ?_
        have OA:=hyq (own_row' (cs':=#[.slice a3 n3 c3,.slice a4 n4 c4,.int .i64 B.room]) OA.out Z8.out (by decide))
        have PA:=hyq (own_row' (cs':=#[.slice a3 n3 c3,.slice a4 n4 c4,.int .i64 B.room]) PA.out Z8.out (by decide))
        have OB:=hyq (own_row' (cs':=#[.slice a3 n3 c3,.slice a4 n4 c4,.int .i64 B.room]) OB.out Z8.out (by decide))
        have PB:=hyq (own_row' (cs':=#[.slice a3 n3 c3,.slice a4 n4 c4,.int .i64 B.room]) PB.out Z8.out (by decide))
        have Z7:=hyq (Z7.out.far_row HNE.out #[.slice a3 n3 c3,.slice a4 n4 c4,.int .i64 B.room])
        have Z8 : Hid (Box (vq.setRow g8 #[.slice a3 n3 c3,.slice a4 n4 c4,.int .i64 B.room]) g8 27 #[.slice a3 n3 c3,.slice a4 n4 c4,.int .i64 B.room]):=hyq (Z8.out.row _)
        refine hK.out _ _ (below_row hH g80.out _) (fun hH => ?_)
        (try simp only [Act.put])
        refine wpAnyH_done (by kernel_rfl) ?_ _
        first | refine hK2 _ _ (Met.intro (hJ _ _ ?_)) | refine Met.intro (hJ _ _ ?_)
        (repeat apply Exists.intro)
        refine ⟨?_,rfl⟩
        exact ⟨_,_,_,_,_,_,_,_,_,_,_,_,_,_,rfl,rfl,Z7,Z8,hyq ⟨OwnI.rd OA.out,OwnO.rd PA.out⟩,hyq ⟨OwnI.rd OB.out,OwnO.rd PB.out⟩,hyq hH⟩
    ·go_simp
     have hba : Below v1.heap.size v1 (v1.alloc (.cells #[.slice none 0 0,.slice none 0 0,.int .i64 0] 27)):=below_new _ _
     have Z8 : Hid (Box (v1.alloc (.cells #[.slice none 0 0,.slice none 0 0,.int .i64 0] 27)) v1.heap.size 27 #[.slice none 0 0,.slice none 0 0,.int .i64 0]):=hyq box_new
     have g80 : Hid (w3.heap.size ≤ v1.heap.size):=hyq hH.size
     have HNE0 : Hid (g7 < v1.heap.size):=hyq Z7.out.lt
     have OA:=hyq (OwnI.on OA.out hba)
     have PA:=hyq (OwnO.on PA.out hba)
     have Z7:=hyq (Z7.out.on hba)
     obtain ⟨v5,hv9⟩:=nmq ((v1.alloc (.cells #[.slice none 0 0,.slice none 0 0,.int .i64 0] 27)))
     refine hK.out _ _ (bch hH hba) (fun hH => ?_)
     clear hba
     rw [← hv9] at Z8 hH OA PA Z7 ⊢
     clear hv9
     obtain ⟨g8,hg9⟩:=nmq (v1.heap.size)
     rw [← hg9] at Z8 g80 HNE0 ⊢
     clear hg9
     have HNE : Hid (g7 ≠ g8):=hyq (by have:=HNE0.out; omega)
     try go_frame
     refine rd1 3 (fun K hK => ?_)
     ·go_simp
      refine (own8_any y _ _ v5 (HY3.out.on hH)).mono ?_
      rintro e v3 ⟨iv9,wv9,he,hI,hW,hba⟩
      rw [← HBB.out] at he hI hW
      subst he
      obtain ⟨a3,n3,c3,rfl⟩:=own_any3 hI
      obtain ⟨a4,n4,c4,rfl⟩:=own_any3 hW
      have OA:=hyq (OwnI.on OA.out hba)
      have PA:=hyq (OwnO.on PA.out hba)
      have Z7:=hyq (Z7.out.on hba)
      have Z8:=hyq (Z8.out.on hba)
      have OB : Hid (OwnI v3 w3.heap.size (.slice a3 n3 c3) B.safe):=hyq (own_base hI hH.size)
      have PB : Hid (OwnO v3 w3.heap.size (.slice a4 n4 c4) B.wait):=hyq (own_base hW hH.size)
      refine hK.out _ _ (bch hH hba) (fun hH => ?_)
      clear hI hW hba
      try go_frame
      refine rd1 6 (fun K hK => ?_)
      ·refine wp_store_if (by rfl) 27 (.tmp 7) (.tmp 25) rfl g7 27 #[.slice none 0 0,.slice none 0 0,.int .i64 0] #[.slice a1 n1 c1,.slice a2 n2 c2,.int .i64 A.room] rfl rfl Z7.out (info27 _ _ _) rfl (darr_one _ _ _ _ _ _ _) ?_
       have OA:=hyq (own_row' (cs':=#[.slice a1 n1 c1,.slice a2 n2 c2,.int .i64 A.room]) OA.out Z7.out (by decide))
       have PA:=hyq (own_row' (cs':=#[.slice a1 n1 c1,.slice a2 n2 c2,.int .i64 A.room]) PA.out Z7.out (by decide))
       have OB:=hyq (own_row' (cs':=#[.slice a1 n1 c1,.slice a2 n2 c2,.int .i64 A.room]) OB.out Z7.out (by decide))
       have PB:=hyq (own_row' (cs':=#[.slice a1 n1 c1,.slice a2 n2 c2,.int .i64 A.room]) PB.out Z7.out (by decide))
       have Z8:=hyq (Z8.out.far_row (Ne.symm HNE.out) #[.slice a1 n1 c1,.slice a2 n2 c2,.int .i64 A.room])
       have Z7 : Hid (Box (v3.setRow g7 #[.slice a1 n1 c1,.slice a2 n2 c2,.int .i64 A.room]) g7 27 #[.slice a1 n1 c1,.slice a2 n2 c2,.int .i64 A.room]):=hyq (Z7.out.row _)
       refine hK.out _ _ (below_row hH g70.out _) (fun hH => ?_)
       obtain ⟨vq,hv9⟩:=nmq (v3.setRow g7 #[.slice a1 n1 c1,.slice a2 n2 c2,.int .i64 A.room])
       rw [← hv9] at Z7 Z8 OA PA OB PB hH ⊢
       clear hv9
       (try simp only [Act.put])
       refine rd1 7 (fun K hK => ?_)
       ·refine wp_store_if (by rfl) 27 (.tmp 8) (.tmp 27) rfl g8 27 #[.slice none 0 0,.slice none 0 0,.int .i64 0] #[.slice a3 n3 c3,.slice a4 n4 c4,.int .i64 B.room] rfl rfl Z8.out (info27 _ _ _) rfl (darr_one _ _ _ _ _ _ _) ?_
        have OA:=hyq (own_row' (cs':=#[.slice a3 n3 c3,.slice a4 n4 c4,.int .i64 B.room]) OA.out Z8.out (by decide))
        have PA:=hyq (own_row' (cs':=#[.slice a3 n3 c3,.slice a4 n4 c4,.int .i64 B.room]) PA.out Z8.out (by decide))
        have OB:=hyq (own_row' (cs':=#[.slice a3 n3 c3,.slice a4 n4 c4,.int .i64 B.room]) OB.out Z8.out (by decide))
        have PB:=hyq (own_row' (cs':=#[.slice a3 n3 c3,.slice a4 n4 c4,.int .i64 B.room]) PB.out Z8.out (by decide))
        have Z7:=hyq (Z7.out.far_row HNE.out #[.slice a3 n3 c3,.slice a4 n4 c4,.int .i64 B.room])
        have Z8 : Hid (Box (vq.setRow g8 #[.slice a3 n3 c3,.slice a4 n4 c4,.int .i64 B.room]) g8 27 #[.slice a3 n3 c3,.slice a4 n4 c4,.int .i64 B.room]):=hyq (Z8.out.row _)
        refine hK.out _ _ (below_row hH g80.out _) (fun hH => ?_)
        (try simp only [Act.put])
        refine wpAnyH_done (by kernel_rfl) ?_ _
        first | refine hK2 _ _ (Met.intro (hJ _ _ ?_)) | refine Met.intro (hJ _ _ ?_)
        (repeat apply Exists.intro)
        refine ⟨?_,rfl⟩
        exact ⟨_,_,_,_,_,_,_,_,_,_,_,_,_,_,rfl,rfl,Z7,Z8,hyq ⟨OwnI.rd OA.out,OwnO.rd PA.out⟩,hyq ⟨OwnI.rd OB.out,OwnO.rd PB.out⟩,hyq hH⟩
   ·go_simp
    have hba : Below v4.heap.size v4 (v4.alloc (.cells #[.slice none 0 0,.slice none 0 0,.int .i64 0] 27)):=below_new _ _
    have Z8 : Hid (Box (v4.alloc (.cells #[.slice none 0 0,.slice none 0 0,.int .i64 0] 27)) v4.heap.size 27 #[.slice none 0 0,.slice none 0 0,.int .i64 0]):=hyq box_new
    have g80 : Hid (w3.heap.size ≤ v4.heap.size):=hyq hH.size
    have HNE0 : Hid (g7 < v4.heap.size):=hyq Z7.out.lt
    have Z7:=hyq (Z7.out.on hba)
    obtain ⟨v5,hv9⟩:=nmq ((v4.alloc (.cells #[.slice none 0 0,.slice none 0 0,.int .i64 0] 27)))
    refine hK.out _ _ (bch hH hba) (fun hH => ?_)
    clear hba
    rw [← hv9] at Z8 hH Z7 ⊢
    clear hv9
    obtain ⟨g8,hg9⟩:=nmq (v4.heap.size)
    rw [← hg9] at Z8 g80 HNE0 ⊢
    clear hg9
    have HNE : Hid (g7 ≠ g8):=hyq (by have:=HNE0.out; omega)
    try go_frame
    refine rd1 1 (fun K hK => ?_)
    ·go_simp
     refine (own8_any x _ _ v5 (HX3.out.on hH)).mono ?_
     rintro e v1 ⟨iv9,wv9,he,hI,hW,hba⟩
     rw [← HAA.out] at he hI hW
     subst he
     obtain ⟨a1,n1,c1,rfl⟩:=own_any3 hI
     obtain ⟨a2,n2,c2,rfl⟩:=own_any3 hW
     have Z7:=hyq (Z7.out.on hba)
     have Z8:=hyq (Z8.out.on hba)
     have OA : Hid (OwnI v1 w3.heap.size (.slice a1 n1 c1) A.safe):=hyq (own_base hI hH.size)
     have PA : Hid (OwnO v1 w3.heap.size (.slice a2 n2 c2) A.wait):=hyq (own_base hW hH.size)
     refine hK.out _ _ (bch hH hba) (fun hH => ?_)
     clear hI hW hba
     try go_frame
     refine rd1 3 (fun K hK => ?_)
     ·go_simp
      refine (own8_any y _ _ v1 (HY3.out.on hH)).mono ?_
      rintro e v3 ⟨iv9,wv9,he,hI,hW,hba⟩
      rw [← HBB.out] at he hI hW
      subst he
      obtain ⟨a3,n3,c3,rfl⟩:=own_any3 hI
      obtain ⟨a4,n4,c4,rfl⟩:=own_any3 hW
      have OA:=hyq (OwnI.on OA.out hba)
      have PA:=hyq (OwnO.on PA.out hba)
      have Z7:=hyq (Z7.out.on hba)
      have Z8:=hyq (Z8.out.on hba)
      have OB : Hid (OwnI v3 w3.heap.size (.slice a3 n3 c3) B.safe):=hyq (own_base hI hH.size)
      have PB : Hid (OwnO v3 w3.heap.size (.slice a4 n4 c4) B.wait):=hyq (own_base hW hH.size)
      refine hK.out _ _ (bch hH hba) (fun hH => ?_)
      clear hI hW hba
      try go_frame
      refine rd1 6 (fun K hK => ?_)
      ·refine wp_store_if (by rfl) 27 (.tmp 7) (.tmp 25) rfl g7 27 #[.slice none 0 0,.slice none 0 0,.int .i64 0] #[.slice a1 n1 c1,.slice a2 n2 c2,.int .i64 A.room] rfl rfl Z7.out (info27 _ _ _) rfl (darr_one _ _ _ _ _ _ _) ?_
       have OA:=hyq (own_row' (cs':=#[.slice a1 n1 c1,.slice a2 n2 c2,.int .i64 A.room]) OA.out Z7.out (by decide))
       have PA:=hyq (own_row' (cs':=#[.slice a1 n1 c1,.slice a2 n2 c2,.int .i64 A.room]) PA.out Z7.out (by decide))
       have OB:=hyq (own_row' (cs':=#[.slice a1 n1 c1,.slice a2 n2 c2,.int .i64 A.room]) OB.out Z7.out (by decide))
       have PB:=hyq (own_row' (cs':=#[.slice a1 n1 c1,.slice a2 n2 c2,.int .i64 A.room]) PB.out Z7.out (by decide))
       have Z8:=hyq (Z8.out.far_row (Ne.symm HNE.out) #[.slice a1 n1 c1,.slice a2 n2 c2,.int .i64 A.room])
       have Z7 : Hid (Box (v3.setRow g7 #[.slice a1 n1 c1,.slice a2 n2 c2,.int .i64 A.room]) g7 27 #[.slice a1 n1 c1,.slice a2 n2 c2,.int .i64 A.room]):=hyq (Z7.out.row _)
       refine hK.out _ _ (below_row hH g70.out _) (fun hH => ?_)
       obtain ⟨vq,hv9⟩:=nmq (v3.setRow g7 #[.slice a1 n1 c1,.slice a2 n2 c2,.int .i64 A.room])
       rw [← hv9] at Z7 Z8 OA PA OB PB hH ⊢
       clear hv9
       (try simp only [Act.put])
       refine rd1 7 (fun K hK => ?_)
       ·refine wp_store_if (by rfl) 27 (.tmp 8) (.tmp 27) rfl g8 27 #[.slice none 0 0,.slice none 0 0,.int .i64 0] #[.slice a3 n3 c3,.slice a4 n4 c4,.int .i64 B.room] rfl rfl Z8.out (info27 _ _ _) rfl (darr_one _ _ _ _ _ _ _) ?_
        have OA:=hyq (own_row' (cs':=#[.slice a3 n3 c3,.slice a4 n4 c4,.int .i64 B.room]) OA.out Z8.out (by decide))
        have PA:=hyq (own_row' (cs':=#[.slice a3 n3 c3,.slice a4 n4 c4,.int .i64 B.room]) PA.out Z8.out (by decide))
        have OB:=hyq (own_row' (cs':=#[.slice a3 n3 c3,.slice a4 n4 c4,.int .i64 B.room]) OB.out Z8.out (by decide))
        have PB:=hyq (own_row' (cs':=#[.slice a3 n3 c3,.slice a4 n4 c4,.int .i64 B.room]) PB.out Z8.out (by decide))
        have Z7:=hyq (Z7.out.far_row HNE.out #[.slice a3 n3 c3,.slice a4 n4 c4,.int .i64 B.room])
        have Z8 : Hid (Box (vq.setRow g8 #[.slice a3 n3 c3,.slice a4 n4 c4,.int .i64 B.room]) g8 27 #[.slice a3 n3 c3,.slice a4 n4 c4,.int .i64 B.room]):=hyq (Z8.out.row _)
        refine hK.out _ _ (below_row hH g80.out _) (fun hH => ?_)
        (try simp only [Act.put])
        refine wpAnyH_done (by kernel_rfl) ?_ _
        first | refine hK2 _ _ (Met.intro (hJ _ _ ?_)) | refine Met.intro (hJ _ _ ?_)
        (repeat apply Exists.intro)
        refine ⟨?_,rfl⟩
        exact ⟨_,_,_,_,_,_,_,_,_,_,_,_,_,_,rfl,rfl,Z7,Z8,hyq ⟨OwnI.rd OA.out,OwnO.rd PA.out⟩,hyq ⟨OwnI.rd OB.out,OwnO.rd PB.out⟩,hyq hH⟩
  ·go_simp
   have hba : Below v0.heap.size v0 (v0.alloc (.cells #[.slice none 0 0,.slice none 0 0,.int .i64 0] 27)):=below_new _ _
   have Z8 : Hid (Box (v0.alloc (.cells #[.slice none 0 0,.slice none 0 0,.int .i64 0] 27)) v0.heap.size 27 #[.slice none 0 0,.slice none 0 0,.int .i64 0]):=hyq box_new
   have g80 : Hid (w3.heap.size ≤ v0.heap.size):=hyq hH.size
   obtain ⟨v5,hv9⟩:=nmq ((v0.alloc (.cells #[.slice none 0 0,.slice none 0 0,.int .i64 0] 27)))
   refine hK.out _ _ (bch hH hba) (fun hH => ?_)
   clear hba
   rw [← hv9] at Z8 hH ⊢
   clear hv9
   obtain ⟨g8,hg9⟩:=nmq (v0.heap.size)
   rw [← hg9] at Z8 g80 ⊢
   clear hg9
   try go_frame
   refine rd2 1 4 (fun K hK => ?_) (fun K hK => ?_)
   ·go_simp
    refine (own8_any x _ _ v5 (HX3.out.on hH)).mono ?_
    rintro e v1 ⟨iv9,wv9,he,hI,hW,hba⟩
    rw [← HAA.out] at he hI hW
    subst he
    obtain ⟨a1,n1,c1,rfl⟩:=own_any3 hI
    obtain ⟨a2,n2,c2,rfl⟩:=own_any3 hW
    have Z8:=hyq (Z8.out.on hba)
    have OA : Hid (OwnI v1 w3.heap.size (.slice a1 n1 c1) A.safe):=hyq (own_base hI hH.size)
    have PA : Hid (OwnO v1 w3.heap.size (.slice a2 n2 c2) A.wait):=hyq (own_base hW hH.size)
    refine hK.out _ _ (bch hH hba) (fun hH => ?_)
    clear hI hW hba
    try go_frame
    refine rd2 3 4 (fun K hK => ?_) (fun K hK => ?_)
    ·go_simp
     refine (own8_any y _ _ v1 (HY3.out.on hH)).mono ?_
     rintro e v3 ⟨iv9,wv9,he,hI,hW,hba⟩
     rw [← HBB.out] at he hI hW
     subst he
     obtain ⟨a3,n3,c3,rfl⟩:=own_any3 hI
     obtain ⟨a4,n4,c4,rfl⟩:=own_any3 hW
     have OA:=hyq (OwnI.on OA.out hba)
     have PA:=hyq (OwnO.on PA.out hba)
     have Z8:=hyq (Z8.out.on hba)
     have OB : Hid (OwnI v3 w3.heap.size (.slice a3 n3 c3) B.safe):=hyq (own_base hI hH.size)
     have PB : Hid (OwnO v3 w3.heap.size (.slice a4 n4 c4) B.wait):=hyq (own_base hW hH.size)
     refine hK.out _ _ (bch hH hba) (fun hH => ?_)
     clear hI hW hba
     try go_frame
     refine rd1 4 (fun K hK => ?_)
     ·go_simp
      have hba : Below v3.heap.size v3 (v3.alloc (.cells #[.slice none 0 0,.slice none 0 0,.int .i64 0] 27)):=below_new _ _
      have Z7 : Hid (Box (v3.alloc (.cells #[.slice none 0 0,.slice none 0 0,.int .i64 0] 27)) v3.heap.size 27 #[.slice none 0 0,.slice none 0 0,.int .i64 0]):=hyq box_new
      have g70 : Hid (w3.heap.size ≤ v3.heap.size):=hyq hH.size
      have HNE0 : Hid (g8 < v3.heap.size):=hyq Z8.out.lt
      have OA:=hyq (OwnI.on OA.out hba)
      have PA:=hyq (OwnO.on PA.out hba)
      have OB:=hyq (OwnI.on OB.out hba)
      have PB:=hyq (OwnO.on PB.out hba)
      have Z8:=hyq (Z8.out.on hba)
      obtain ⟨v4,hv9⟩:=nmq ((v3.alloc (.cells #[.slice none 0 0,.slice none 0 0,.int .i64 0] 27)))
      refine hK.out _ _ (bch hH hba) (fun hH => ?_)
      clear hba
      rw [← hv9] at Z7 hH OA PA OB PB Z8 ⊢
      clear hv9
      obtain ⟨g7,hg9⟩:=nmq (v3.heap.size)
      rw [← hg9] at Z7 g70 HNE0 ⊢
      clear hg9
      have HNE : Hid (g7 ≠ g8):=hyq (by have:=HNE0.out; omega)
      try go_frame
      refine rd1 6 (fun K hK => ?_)
      ·refine wp_store_if (by rfl) 27 (.tmp 7) (.tmp 25) rfl g7 27 #[.slice none 0 0,.slice none 0 0,.int .i64 0] #[.slice a1 n1 c1,.slice a2 n2 c2,.int .i64 A.room] rfl rfl Z7.out (info27 _ _ _) rfl (darr_one _ _ _ _ _ _ _) ?_
       have OA:=hyq (own_row' (cs':=#[.slice a1 n1 c1,.slice a2 n2 c2,.int .i64 A.room]) OA.out Z7.out (by decide))
       have PA:=hyq (own_row' (cs':=#[.slice a1 n1 c1,.slice a2 n2 c2,.int .i64 A.room]) PA.out Z7.out (by decide))
       have OB:=hyq (own_row' (cs':=#[.slice a1 n1 c1,.slice a2 n2 c2,.int .i64 A.room]) OB.out Z7.out (by decide))
       have PB:=hyq (own_row' (cs':=#[.slice a1 n1 c1,.slice a2 n2 c2,.int .i64 A.room]) PB.out Z7.out (by decide))
       have Z8:=hyq (Z8.out.far_row (Ne.symm HNE.out) #[.slice a1 n1 c1,.slice a2 n2 c2,.int .i64 A.room])
       have Z7 : Hid (Box (v4.setRow g7 #[.slice a1 n1 c1,.slice a2 n2 c2,.int .i64 A.room]) g7 27 #[.slice a1 n1 c1,.slice a2 n2 c2,.int .i64 A.room]):=hyq (Z7.out.row _)
       refine hK.out _ _ (below_row hH g70.out _) (fun hH => ?_)
       obtain ⟨vq,hv9⟩:=nmq (v4.setRow g7 #[.slice a1 n1 c1,.slice a2 n2 c2,.int .i64 A.room])
       rw [← hv9] at Z7 Z8 OA PA OB PB hH ⊢
       clear hv9
       (try simp only [Act.put])
       refine rd1 7 (fun K hK => ?_)
       ·refine wp_store_if (by rfl) 27 (.tmp 8) (.tmp 27) rfl g8 27 #[.slice none 0 0,.slice none 0 0,.int .i64 0] #[.slice a3 n3 c3,.slice a4 n4 c4,.int .i64 B.room] rfl rfl Z8.out (info27 _ _ _) rfl (darr_one _ _ _ _ _ _ _) ?_
        have OA:=hyq (own_row' (cs':=#[.slice a3 n3 c3,.slice a4 n4 c4,.int .i64 B.room]) OA.out Z8.out (by decide))
        have PA:=hyq (own_row' (cs':=#[.slice a3 n3 c3,.slice a4 n4 c4,.int .i64 B.room]) PA.out Z8.out (by decide))
        have OB:=hyq (own_row' (cs':=#[.slice a3 n3 c3,.slice a4 n4 c4,.int .i64 B.room]) OB.out Z8.out (by decide))
        have PB:=hyq (own_row' (cs':=#[.slice a3 n3 c3,.slice a4 n4 c4,.int .i64 B.room]) PB.out Z8.out (by decide))
        have Z7:=hyq (Z7.out.far_row HNE.out #[.slice a3 n3 c3,.slice a4 n4 c4,.int .i64 B.room])
        have Z8 : Hid (Box (vq.setRow g8 #[.slice a3 n3 c3,.slice a4 n4 c4,.int .i64 B.room]) g8 27 #[.slice a3 n3 c3,.slice a4 n4 c4,.int .i64 B.room]):=hyq (Z8.out.row _)
        refine hK.out _ _ (below_row hH g80.out _) (fun hH => ?_)
        (try simp only [Act.put])
        refine wpAnyH_done (by kernel_rfl) ?_ _
        first | refine hK2 _ _ (Met.intro (hJ _ _ ?_)) | refine Met.intro (hJ _ _ ?_)
        (repeat apply Exists.intro)
        refine ⟨?_,rfl⟩
        exact ⟨_,_,_,_,_,_,_,_,_,_,_,_,_,_,rfl,rfl,Z7,Z8,hyq ⟨OwnI.rd OA.out,OwnO.rd PA.out⟩,hyq ⟨OwnI.rd OB.out,OwnO.rd PB.out⟩,hyq hH⟩
    ·go_simp
     have hba : Below v1.heap.size v1 (v1.alloc (.cells #[.slice none 0 0,.slice none 0 0,.int .i64 0] 27)):=below_new _ _
     have Z7 : Hid (Box (v1.alloc (.cells #[.slice none 0 0,.slice none 0 0,.int .i64 0] 27)) v1.heap.size 27 #[.slice none 0 0,.slice none 0 0,.int .i64 0]):=hyq box_new
     have g70 : Hid (w3.heap.size ≤ v1.heap.size):=hyq hH.size
     have HNE0 : Hid (g8 < v1.heap.size):=hyq Z8.out.lt
     have OA:=hyq (OwnI.on OA.out hba)
     have PA:=hyq (OwnO.on PA.out hba)
     have Z8:=hyq (Z8.out.on hba)
     obtain ⟨v4,hv9⟩:=nmq ((v1.alloc (.cells #[.slice none 0 0,.slice none 0 0,.int .i64 0] 27)))
     refine hK.out _ _ (bch hH hba) (fun hH => ?_)
     clear hba
     rw [← hv9] at Z7 hH OA PA Z8 ⊢
     clear hv9
     obtain ⟨g7,hg9⟩:=nmq (v1.heap.size)
     rw [← hg9] at Z7 g70 HNE0 ⊢
     clear hg9
     have HNE : Hid (g7 ≠ g8):=hyq (by have:=HNE0.out; omega)
     try go_frame
     refine rd1 3 (fun K hK => ?_)
     ·go_simp
      refine (own8_any y _ _ v4 (HY3.out.on hH)).mono ?_
      rintro e v3 ⟨iv9,wv9,he,hI,hW,hba⟩
      rw [← HBB.out] at he hI hW
      subst he
      obtain ⟨a3,n3,c3,rfl⟩:=own_any3 hI
      obtain ⟨a4,n4,c4,rfl⟩:=own_any3 hW
      have OA:=hyq (OwnI.on OA.out hba)
      have PA:=hyq (OwnO.on PA.out hba)
      have Z7:=hyq (Z7.out.on hba)
      have Z8:=hyq (Z8.out.on hba)
      have OB : Hid (OwnI v3 w3.heap.size (.slice a3 n3 c3) B.safe):=hyq (own_base hI hH.size)
      have PB : Hid (OwnO v3 w3.heap.size (.slice a4 n4 c4) B.wait):=hyq (own_base hW hH.size)
      refine hK.out _ _ (bch hH hba) (fun hH => ?_)
      clear hI hW hba
      try go_frame
      refine rd1 6 (fun K hK => ?_)
      ·refine wp_store_if (by rfl) 27 (.tmp 7) (.tmp 25) rfl g7 27 #[.slice none 0 0,.slice none 0 0,.int .i64 0] #[.slice a1 n1 c1,.slice a2 n2 c2,.int .i64 A.room] rfl rfl Z7.out (info27 _ _ _) rfl (darr_one _ _ _ _ _ _ _) ?_
       have OA:=hyq (own_row' (cs':=#[.slice a1 n1 c1,.slice a2 n2 c2,.int .i64 A.room]) OA.out Z7.out (by decide))
       have PA:=hyq (own_row' (cs':=#[.slice a1 n1 c1,.slice a2 n2 c2,.int .i64 A.room]) PA.out Z7.out (by decide))
       have OB:=hyq (own_row' (cs':=#[.slice a1 n1 c1,.slice a2 n2 c2,.int .i64 A.room]) OB.out Z7.out (by decide))
       have PB:=hyq (own_row' (cs':=#[.slice a1 n1 c1,.slice a2 n2 c2,.int .i64 A.room]) PB.out Z7.out (by decide))
       have Z8:=hyq (Z8.out.far_row (Ne.symm HNE.out) #[.slice a1 n1 c1,.slice a2 n2 c2,.int .i64 A.room])
       have Z7 : Hid (Box (v3.setRow g7 #[.slice a1 n1 c1,.slice a2 n2 c2,.int .i64 A.room]) g7 27 #[.slice a1 n1 c1,.slice a2 n2 c2,.int .i64 A.room]):=hyq (Z7.out.row _)
       refine hK.out _ _ (below_row hH g70.out _) (fun hH => ?_)
       obtain ⟨vq,hv9⟩:=nmq (v3.setRow g7 #[.slice a1 n1 c1,.slice a2 n2 c2,.int .i64 A.room])
       rw [← hv9] at Z7 Z8 OA PA OB PB hH ⊢
       clear hv9
       (try simp only [Act.put])
       refine rd1 7 (fun K hK => ?_)
       ·refine wp_store_if (by rfl) 27 (.tmp 8) (.tmp 27) rfl g8 27 #[.slice none 0 0,.slice none 0 0,.int .i64 0] #[.slice a3 n3 c3,.slice a4 n4 c4,.int .i64 B.room] rfl rfl Z8.out (info27 _ _ _) rfl (darr_one _ _ _ _ _ _ _) ?_
        have OA:=hyq (own_row' (cs':=#[.slice a3 n3 c3,.slice a4 n4 c4,.int .i64 B.room]) OA.out Z8.out (by decide))
        have PA:=hyq (own_row' (cs':=#[.slice a3 n3 c3,.slice a4 n4 c4,.int .i64 B.room]) PA.out Z8.out (by decide))
        have OB:=hyq (own_row' (cs':=#[.slice a3 n3 c3,.slice a4 n4 c4,.int .i64 B.room]) OB.out Z8.out (by decide))
        have PB:=hyq (own_row' (cs':=#[.slice a3 n3 c3,.slice a4 n4 c4,.int .i64 B.room]) PB.out Z8.out (by decide))
        have Z7:=hyq (Z7.out.far_row HNE.out #[.slice a3 n3 c3,.slice a4 n4 c4,.int .i64 B.room])
        have Z8 : Hid (Box (vq.setRow g8 #[.slice a3 n3 c3,.slice a4 n4 c4,.int .i64 B.room]) g8 27 #[.slice a3 n3 c3,.slice a4 n4 c4,.int .i64 B.room]):=hyq (Z8.out.row _)
        refine hK.out _ _ (below_row hH g80.out _) (fun hH => ?_)
        (try simp only [Act.put])
        refine wpAnyH_done (by kernel_rfl) ?_ _
        first | refine hK2 _ _ (Met.intro (hJ _ _ ?_)) | refine Met.intro (hJ _ _ ?_)
        (repeat apply Exists.intro)
        refine ⟨?_,rfl⟩
        exact ⟨_,_,_,_,_,_,_,_,_,_,_,_,_,_,rfl,rfl,Z7,Z8,hyq ⟨OwnI.rd OA.out,OwnO.rd PA.out⟩,hyq ⟨OwnI.rd OB.out,OwnO.rd PB.out⟩,hyq hH⟩
   ·go_simp
    have hba : Below v5.heap.size v5 (v5.alloc (.cells #[.slice none 0 0,.slice none 0 0,.int .i64 0] 27)):=below_new _ _
    have Z7 : Hid (Box (v5.alloc (.cells #[.slice none 0 0,.slice none 0 0,.int .i64 0] 27)) v5.heap.size 27 #[.slice none 0 0,.slice none 0 0,.int .i64 0]):=hyq box_new
    have g70 : Hid (w3.heap.size ≤ v5.heap.size):=hyq hH.size
    have HNE0 : Hid (g8 < v5.heap.size):=hyq Z8.out.lt
    have Z8:=hyq (Z8.out.on hba)
    obtain ⟨v4,hv9⟩:=nmq ((v5.alloc (.cells #[.slice none 0 0,.slice none 0 0,.int .i64 0] 27)))
    refine hK.out _ _ (bch hH hba) (fun hH => ?_)
    clear hba
    rw [← hv9] at Z7 hH Z8 ⊢
    clear hv9
    obtain ⟨g7,hg9⟩:=nmq (v5.heap.size)
    rw [← hg9] at Z7 g70 HNE0 ⊢
    clear hg9
    have HNE : Hid (g7 ≠ g8):=hyq (by have:=HNE0.out; omega)
    try go_frame
    refine rd1 1 (fun K hK => ?_)
    ·go_simp
     refine (own8_any x _ _ v4 (HX3.out.on hH)).mono ?_
     rintro e v1 ⟨iv9,wv9,he,hI,hW,hba⟩
     rw [← HAA.out] at he hI hW
     subst he
     obtain ⟨a1,n1,c1,rfl⟩:=own_any3 hI
     obtain ⟨a2,n2,c2,rfl⟩:=own_any3 hW
     have Z7:=hyq (Z7.out.on hba)
     have Z8:=hyq (Z8.out.on hba)
     have OA : Hid (OwnI v1 w3.heap.size (.slice a1 n1 c1) A.safe):=hyq (own_base hI hH.size)
     have PA : Hid (OwnO v1 w3.heap.size (.slice a2 n2 c2) A.wait):=hyq (own_base hW hH.size)
     refine hK.out _ _ (bch hH hba) (fun hH => ?_)
     clear hI hW hba
     try go_frame
     refine rd1 3 (fun K hK => ?_)
     ·go_simp
      refine (own8_any y _ _ v1 (HY3.out.on hH)).mono ?_
      rintro e v3 ⟨iv9,wv9,he,hI,hW,hba⟩
      rw [← HBB.out] at he hI hW
      subst he
      obtain ⟨a3,n3,c3,rfl⟩:=own_any3 hI
      obtain ⟨a4,n4,c4,rfl⟩:=own_any3 hW
      have OA:=hyq (OwnI.on OA.out hba)
      have PA:=hyq (OwnO.on PA.out hba)
      have Z7:=hyq (Z7.out.on hba)
      have Z8:=hyq (Z8.out.on hba)
      have OB : Hid (OwnI v3 w3.heap.size (.slice a3 n3 c3) B.safe):=hyq (own_base hI hH.size)
      have PB : Hid (OwnO v3 w3.heap.size (.slice a4 n4 c4) B.wait):=hyq (own_base hW hH.size)
      refine hK.out _ _ (bch hH hba) (fun hH => ?_)
      clear hI hW hba
      try go_frame
      refine rd1 6 (fun K hK => ?_)
      ·refine wp_store_if (by rfl) 27 (.tmp 7) (.tmp 25) rfl g7 27 #[.slice none 0 0,.slice none 0 0,.int .i64 0] #[.slice a1 n1 c1,.slice a2 n2 c2,.int .i64 A.room] rfl rfl Z7.out (info27 _ _ _) rfl (darr_one _ _ _ _ _ _ _) ?_
       have OA:=hyq (own_row' (cs':=#[.slice a1 n1 c1,.slice a2 n2 c2,.int .i64 A.room]) OA.out Z7.out (by decide))
       have PA:=hyq (own_row' (cs':=#[.slice a1 n1 c1,.slice a2 n2 c2,.int .i64 A.room]) PA.out Z7.out (by decide))
       have OB:=hyq (own_row' (cs':=#[.slice a1 n1 c1,.slice a2 n2 c2,.int .i64 A.room]) OB.out Z7.out (by decide))
       have PB:=hyq (own_row' (cs':=#[.slice a1 n1 c1,.slice a2 n2 c2,.int .i64 A.room]) PB.out Z7.out (by decide))
       have Z8:=hyq (Z8.out.far_row (Ne.symm HNE.out) #[.slice a1 n1 c1,.slice a2 n2 c2,.int .i64 A.room])
       have Z7 : Hid (Box (v3.setRow g7 #[.slice a1 n1 c1,.slice a2 n2 c2,.int .i64 A.room]) g7 27 #[.slice a1 n1 c1,.slice a2 n2 c2,.int .i64 A.room]):=hyq (Z7.out.row _)
       refine hK.out _ _ (below_row hH g70.out _) (fun hH => ?_)
       obtain ⟨vq,hv9⟩:=nmq (v3.setRow g7 #[.slice a1 n1 c1,.slice a2 n2 c2,.int .i64 A.room])
       rw [← hv9] at Z7 Z8 OA PA OB PB hH ⊢
       clear hv9
       (try simp only [Act.put])
       refine rd1 7 (fun K hK => ?_)
       ·refine wp_store_if (by rfl) 27 (.tmp 8) (.tmp 27) rfl g8 27 #[.slice none 0 0,.slice none 0 0,.int .i64 0] #[.slice a3 n3 c3,.slice a4 n4 c4,.int .i64 B.room] rfl rfl Z8.out (info27 _ _ _) rfl (darr_one _ _ _ _ _ _ _) ?_
        have OA:=hyq (own_row' (cs':=#[.slice a3 n3 c3,.slice a4 n4 c4,.int .i64 B.room]) OA.out Z8.out (by decide))
        have PA:=hyq (own_row' (cs':=#[.slice a3 n3 c3,.slice a4 n4 c4,.int .i64 B.room]) PA.out Z8.out (by decide))
        have OB:=hyq (own_row' (cs':=#[.slice a3 n3 c3,.slice a4 n4 c4,.int .i64 B.room]) OB.out Z8.out (by decide))
        have PB:=hyq (own_row' (cs':=#[.slice a3 n3 c3,.slice a4 n4 c4,.int .i64 B.room]) PB.out Z8.out (by decide))
        have Z7:=hyq (Z7.out.far_row HNE.out #[.slice a3 n3 c3,.slice a4 n4 c4,.int .i64 B.room])
        have Z8 : Hid (Box (vq.setRow g8 #[.slice a3 n3 c3,.slice a4 n4 c4,.int .i64 B.room]) g8 27 #[.slice a3 n3 c3,.slice a4 n4 c4,.int .i64 B.room]):=hyq (Z8.out.row _)
        refine hK.out _ _ (below_row hH g80.out _) (fun hH => ?_)
        (try simp only [Act.put])
        refine wpAnyH_done (by kernel_rfl) ?_ _
        first | refine hK2 _ _ (Met.intro (hJ _ _ ?_)) | refine Met.intro (hJ _ _ ?_)
        (repeat apply Exists.intro)
        refine ⟨?_,rfl⟩
        exact ⟨_,_,_,_,_,_,_,_,_,_,_,_,_,_,rfl,rfl,Z7,Z8,hyq ⟨OwnI.rd OA.out,OwnO.rd PA.out⟩,hyq ⟨OwnI.rd OB.out,OwnO.rd PB.out⟩,hyq hH⟩
 case rest =>
  obtain ⟨g7,g8,a1,n1,c1,a2,n2,c2,a3,n3,c3,a4,n4,c4,rfl,rfl,Z7,Z8,RA,RB,BC⟩:=hcut
  obtain ⟨w4,hw4⟩:=nmq (wc)
  rw [← hw4] at Z7 Z8 RA RB BC ⊢
  have HB:=hyq (bch B3.out BC.out)
  have XX:=hyq (X1.out.on BC.out)
  clear hw4 X1 X2 HX3 HY3 B3 B2 BC hw3
  have p0:=Z7.out.cell (k:=0) rfl
  have p1:=Z7.out.cell (k:=1) rfl
  have p2:=Z7.out.cell (k:=2) rfl
  have q0:=Z8.out.cell (k:=0) rfl
  have q1:=Z8.out.cell (k:=1) rfl
  have q2:=Z8.out.cell (k:=2) rfl
  go_wp2_with fail
  clear p0 p1 p2 q0 q1 q2
  go_loopw [31] (fun i W => (i = .int .i64 0 ∨ i = .int .i64 1 ∨ i = .int .i64 2) ∧ Hid (Below w4.heap.size w4 W)) (fun i _ => 2 - (Lib.intOf i).toNat)
  case atStart => exact ⟨.inl rfl,hyq (Below.refl _ _)⟩
  case round =>
   obtain ⟨hi,HD⟩:=hrel
   obtain ⟨wq,hwq⟩:=nmq (wr)
   rw [← hwq] at HD ⊢
   clear hwq
   rcases hi with rfl | rfl | rfl
   ·obtain ⟨rb,hrb⟩:=nmq ((nowM A).isSome)
    have HRB:=hyq hrb
    clear hrb
    have RW : Hid (RdD wq (.slice a1 n1 c1) (.slice a2 n2 c2) A):=hyq (RA.out.on HD.out)
    have HBq:=hyq (bch HB.out HD.out)
    obtain ⟨VT,hVT⟩:=nmq ((wq.alloc (.cells #[.slice none 0 0,.slice none 0 0,.int .i64 0] 27)).setRow wq.heap.size #[.slice a1 n1 c1,.slice a2 n2 c2,.int .i64 A.room])
    obtain ⟨bT,hbT⟩:=nmq (wq.heap.size)
    have hq : Below wq.heap.size wq VT:=by rw [hVT]; exact below_row (below_new _ _) (Nat.le_refl _) _
    have XT : Hid (Box VT bT 27 #[.slice a1 n1 c1,.slice a2 n2 c2,.int .i64 A.room]):=hyq (by rw [hVT,hbT]; exact box_new.row _)
    have HVT:=hyq hVT
    have HWT:=hyq hbT
    have HQ:=hyq hq
    clear hVT hbT hq
    have hix:=fun w => (index30 (.slice a1 n1 c1) (.slice a2 n2 c2) (.int .i64 A.room) (.slice a3 n3 c3) (.slice a4 n4 c4) (.int .i64 B.room) w).1
    have p0 : VT.cell? ⟨bT,0,none⟩ = some (.slice a1 n1 c1):=XT.out.cell (k:=0) rfl
    have p1 : VT.cell? ⟨bT,1,none⟩ = some (.slice a2 n2 c2):=XT.out.cell (k:=1) rfl
    have p2 : VT.cell? ⟨bT,2,none⟩ = some (.int .i64 A.room):=XT.out.cell (k:=2) rfl
    go_wp2_with (first | (refine wpList_store_row rfl 27 (.tmp 10) (.tmp 33) rfl wq.heap.size #[.slice a1 n1 c1,.slice a2 n2 c2,.int .i64 A.room] rfl rfl 27 #[.slice none 0 0,.slice none 0 0,.int .i64 0] box_new (info27 _ _ _) rfl (darr_one _ _ _ _ _ _ _) ?_; rw [← HVT.out,← HWT.out]) | fail)
    clear p0 p1 p2 hix
    refine (rright8_any A _ _ VT (RW.out.on HQ.out) SA.out TA.out rb HRB.out).mono ?_
    rintro e w5 ⟨rfl,hb⟩
    have XT:=hyq (XT.out.on hb)
    have HQ:=hyq (bch HQ.out hb)
    clear hb
    have p0 : w5.cell? ⟨bT,0,none⟩ = some (.slice a1 n1 c1):=XT.out.cell (k:=0) rfl
    have p1 : w5.cell? ⟨bT,1,none⟩ = some (.slice a2 n2 c2):=XT.out.cell (k:=1) rfl
    have p2 : w5.cell? ⟨bT,2,none⟩ = some (.int .i64 A.room):=XT.out.cell (k:=2) rfl
    go_wp2_with fail
    clear p0 p1 p2
    refine (nowU A _ _ w5 (RW.out.on HQ.out) ZA.out (HT.out.on (bch HBq.out HQ.out)) (if rb = true then 0 else 180) (by rw [HRB.out])).mono ?_
    rintro e w6 ⟨na,nn,nc,rfl,hI,hb⟩
    have XT:=hyq (XT.out.on hb)
    have HQ:=hyq (bch HQ.out hb)
    obtain ⟨VN,hVN⟩:=nmq ((w6.alloc (.cells #[.slice none 0 0] 24)).setRow w6.heap.size #[.slice na nn nc])
    obtain ⟨bN,hbN⟩:=nmq (w6.heap.size)
    have hq : Below w6.heap.size w6 VN:=by rw [hVN]; exact below_row (below_new _ _) (Nat.le_refl _) _
    have XN : Hid (Box VN bN 24 #[.slice na nn nc]):=hyq (by rw [hVN,hbN]; exact box_new.row _)
    have RN : Hid (RdI VN (.slice na nn nc) (nowT A)):=hyq (hI.on hq)
    have XT:=hyq (XT.out.on hq)
    have HQ:=hyq (bch HQ.out hq)
    have HVN:=hyq hVN
    have HWN:=hyq hbN
    clear hVN hbN hq hI hb
    obtain ⟨VW,hVW⟩:=nmq (VN.alloc (.cells #[.slice none 0 0] 24))
    obtain ⟨bW,hbW⟩:=nmq (VN.heap.size)
    have hq : Below VN.heap.size VN VW:=by rw [hVW]; exact below_new _ _
    have XW : Hid (Box VW bW 24 #[.slice none 0 0]):=hyq (by rw [hVW,hbW]; exact box_new)
    have HTW : Hid (bT ≠ bW):=hyq (by rw [hbW]; exact Nat.ne_of_lt XT.out.lt)
    have HNW : Hid (bN ≠ bW):=hyq (by rw [hbW]; exact Nat.ne_of_lt XN.out.lt)
    have HGW : Hid (wq.heap.size ≤ bW):=hyq (by rw [hbW]; exact HQ.out.size)
    have XT:=hyq (XT.out.on hq)
    have XN:=hyq (XN.out.on hq)
    have RN:=hyq (RN.out.on hq)
    have HQ:=hyq (bch HQ.out hq)
    clear hq
    cases rb with
    | true =>
     rw [if_pos rfl]
     go_upto_region 10 with (first | (refine wpList_store_row rfl 24 (.tmp 12) (.tmp 39) rfl w6.heap.size #[.slice na nn nc] rfl rfl 24 #[.slice none 0 0] box_new (info24 _) rfl (slice_one _ _ _) ?_; rw [← HVN.out,← HWN.out]) | fail)
     rw [← hVW,← hbW]
     clear hVW hbW
     have p0 : VW.cell? ⟨bT,0,none⟩ = some (.slice a1 n1 c1):=XT.out.cell (k:=0) rfl
     have p1 : VW.cell? ⟨bT,1,none⟩ = some (.slice a2 n2 c2):=XT.out.cell (k:=1) rfl
     have p2 : VW.cell? ⟨bT,2,none⟩ = some (.int .i64 A.room):=XT.out.cell (k:=2) rfl
     go_wp2_with fail
     clear p0 p1 p2
     refine (rnowU A _ _ VW (RW.out.on HQ.out) TA.out HRB.out.symm).mono ?_
     rintro e w7 ⟨ma,mn,mc,rfl,hI,hb⟩
     have XW0:=hyq (XW.out.on hb)
     obtain ⟨VM,hVM⟩:=nmq (w7.setRow bW #[.slice ma mn mc])
     have HVM:=hyq hVM
     have XT : Hid (Box VM bT 27 #[.slice a1 n1 c1,.slice a2 n2 c2,.int .i64 A.room]):=hyq (by rw [hVM]; exact (XT.out.on hb).far_row HTW.out _)
     have XN : Hid (Box VM bN 24 #[.slice na nn nc]):=hyq (by rw [hVM]; exact (XN.out.on hb).far_row HNW.out _)
     have XW : Hid (Box VM bW 24 #[.slice ma mn mc]):=hyq (by rw [hVM]; exact XW0.out.row _)
     have RN : Hid (RdI VM (.slice na nn nc) (nowT A)):=hyq (by rw [hVM]; exact rd_row (RN.out.on hb) XW0.out)
     have RM : Hid (RdI VM (.slice ma mn mc) (nowT A)):=hyq (by rw [hVM]; exact rd_row hI XW0.out)
     have HQ : Hid (Below wq.heap.size wq VM):=hyq (by rw [hVM]; exact below_row (bch HQ.out hb) HGW.out _)
     clear hVM hI hb
     have p0 : VM.cell? ⟨bT,0,none⟩ = some (.slice a1 n1 c1):=XT.out.cell (k:=0) rfl
     have p1 : VM.cell? ⟨bT,1,none⟩ = some (.slice a2 n2 c2):=XT.out.cell (k:=1) rfl
     have p2 : VM.cell? ⟨bT,2,none⟩ = some (.int .i64 A.room):=XT.out.cell (k:=2) rfl
     go_wp2_with (first | (refine wpList_store_row rfl 24 (.tmp 14) (.tmp 45) rfl bW #[.slice ma mn mc] rfl rfl 24 #[.slice none 0 0] XW0.out (info24 _) rfl (slice_one _ _ _) ?_; rw [← HVM.out]) | fail)
     clear p0 p1 p2
     refine (checkU A _ _ VM (RW.out.on HQ.out) ZA.out (HT.out.on (bch HBq.out HQ.out)) 0 (by rw [← HRB.out]; rfl)).mono ?_
     rintro e w8 ⟨rfl,hb⟩
     have p0:=(XN.out.on hb).cell (k:=0) rfl
     have p1:=(XW.out.on hb).cell (k:=0) rfl
     have RN:=hyq (RN.out.on hb)
     have RM:=hyq (RM.out.on hb)
     have HQ:=hyq (bch HQ.out hb)
     clear hb
     go_wp2_with fail
     clear p0 p1
     refine (rsame6_any _ _ _ _ w8 RN.out RM.out).mono ?_
     rintro e w9 ⟨he,hb⟩
     rw [yes_self] at he
     subst he
     have HQ:=hyq (bch HQ.out hb)
     clear hb
     go_wp2_with fail
     go_roundw
     case rel => exact ⟨.inr (.inl rfl),hyq (bch HD.out HQ.out)⟩
     case measure => simp [Lib.intOf]
    | false =>
     rw [if_neg (by decide)]
     go_upto_region 10 with (first | (refine wpList_store_row rfl 24 (.tmp 12) (.tmp 39) rfl w6.heap.size #[.slice na nn nc] rfl rfl 24 #[.slice none 0 0] box_new (info24 _) rfl (slice_one _ _ _) ?_; rw [← HVN.out,← HWN.out]) | fail)
     rw [← hVW,← hbW]
     clear hVW hbW
     have p0 : VW.cell? ⟨bT,0,none⟩ = some (.slice a1 n1 c1):=XT.out.cell (k:=0) rfl
     have p1 : VW.cell? ⟨bT,1,none⟩ = some (.slice a2 n2 c2):=XT.out.cell (k:=1) rfl
     have p2 : VW.cell? ⟨bT,2,none⟩ = some (.int .i64 A.room):=XT.out.cell (k:=2) rfl
     go_wp2_with fail
     clear p0 p1 p2
     refine (checkU A _ _ VW (RW.out.on HQ.out) ZA.out (HT.out.on (bch HBq.out HQ.out)) 180 (by rw [← HRB.out]; rfl)).mono ?_
     rintro e w8 ⟨rfl,hb⟩
     have p0:=(XN.out.on hb).cell (k:=0) rfl
     have p1:=(XW.out.on hb).cell (k:=0) rfl
     have RN:=hyq (RN.out.on hb)
     have HQ:=hyq (bch HQ.out hb)
     clear hb
     rw [nowT_no HRB.out.symm] at RN
     go_wp2_with fail
     clear p0 p1
     refine (rsame6_any _ _ _ _ w8 RN.out (RdI.nil _)).mono ?_
     rintro e w9 ⟨he,hb⟩
     rw [yes_self] at he
     subst he
     have HQ:=hyq (bch HQ.out hb)
     clear hb
     go_wp2_with fail
     go_roundw
     case rel => exact ⟨.inr (.inl rfl),hyq (bch HD.out HQ.out)⟩
     case measure => simp [Lib.intOf]
   ·obtain ⟨rb,hrb⟩:=nmq ((nowM B).isSome)
    have HRB:=hyq hrb
    clear hrb
    have RW : Hid (RdD wq (.slice a3 n3 c3) (.slice a4 n4 c4) B):=hyq (RB.out.on HD.out)
    have HBq:=hyq (bch HB.out HD.out)
    obtain ⟨VT,hVT⟩:=nmq ((wq.alloc (.cells #[.slice none 0 0,.slice none 0 0,.int .i64 0] 27)).setRow wq.heap.size #[.slice a3 n3 c3,.slice a4 n4 c4,.int .i64 B.room])
    obtain ⟨bT,hbT⟩:=nmq (wq.heap.size)
    have hq : Below wq.heap.size wq VT:=by rw [hVT]; exact below_row (below_new _ _) (Nat.le_refl _) _
    have XT : Hid (Box VT bT 27 #[.slice a3 n3 c3,.slice a4 n4 c4,.int .i64 B.room]):=hyq (by rw [hVT,hbT]; exact box_new.row _)
    have HVT:=hyq hVT
    have HWT:=hyq hbT
    have HQ:=hyq hq
    clear hVT hbT hq
    have hix:=fun w => (index30 (.slice a1 n1 c1) (.slice a2 n2 c2) (.int .i64 A.room) (.slice a3 n3 c3) (.slice a4 n4 c4) (.int .i64 B.room) w).2
    have p0 : VT.cell? ⟨bT,0,none⟩ = some (.slice a3 n3 c3):=XT.out.cell (k:=0) rfl
    have p1 : VT.cell? ⟨bT,1,none⟩ = some (.slice a4 n4 c4):=XT.out.cell (k:=1) rfl
    have p2 : VT.cell? ⟨bT,2,none⟩ = some (.int .i64 B.room):=XT.out.cell (k:=2) rfl
    go_wp2_with (first | (refine wpList_store_row rfl 27 (.tmp 10) (.tmp 33) rfl wq.heap.size #[.slice a3 n3 c3,.slice a4 n4 c4,.int .i64 B.room] rfl rfl 27 #[.slice none 0 0,.slice none 0 0,.int .i64 0] box_new (info27 _ _ _) rfl (darr_one _ _ _ _ _ _ _) ?_; rw [← HVT.out,← HWT.out]) | fail)
    clear p0 p1 p2 hix
    refine (rright8_any B _ _ VT (RW.out.on HQ.out) SB.out TB.out rb HRB.out).mono ?_
    rintro e w5 ⟨rfl,hb⟩
    have XT:=hyq (XT.out.on hb)
    have HQ:=hyq (bch HQ.out hb)
    clear hb
    have p0 : w5.cell? ⟨bT,0,none⟩ = some (.slice a3 n3 c3):=XT.out.cell (k:=0) rfl
    have p1 : w5.cell? ⟨bT,1,none⟩ = some (.slice a4 n4 c4):=XT.out.cell (k:=1) rfl
    have p2 : w5.cell? ⟨bT,2,none⟩ = some (.int .i64 B.room):=XT.out.cell (k:=2) rfl
    go_wp2_with fail
    clear p0 p1 p2
    refine (nowU B _ _ w5 (RW.out.on HQ.out) ZB.out (HT.out.on (bch HBq.out HQ.out)) (if rb = true then 0 else 180) (by rw [HRB.out])).mono ?_
    rintro e w6 ⟨na,nn,nc,rfl,hI,hb⟩
    have XT:=hyq (XT.out.on hb)
    have HQ:=hyq (bch HQ.out hb)
    obtain ⟨VN,hVN⟩:=nmq ((w6.alloc (.cells #[.slice none 0 0] 24)).setRow w6.heap.size #[.slice na nn nc])
    obtain ⟨bN,hbN⟩:=nmq (w6.heap.size)
    have hq : Below w6.heap.size w6 VN:=by rw [hVN]; exact below_row (below_new _ _) (Nat.le_refl _) _
    have XN : Hid (Box VN bN 24 #[.slice na nn nc]):=hyq (by rw [hVN,hbN]; exact box_new.row _)
    have RN : Hid (RdI VN (.slice na nn nc) (nowT B)):=hyq (hI.on hq)
    have XT:=hyq (XT.out.on hq)
    have HQ:=hyq (bch HQ.out hq)
    have HVN:=hyq hVN
    have HWN:=hyq hbN
    clear hVN hbN hq hI hb
    obtain ⟨VW,hVW⟩:=nmq (VN.alloc (.cells #[.slice none 0 0] 24))
    obtain ⟨bW,hbW⟩:=nmq (VN.heap.size)
    have hq : Below VN.heap.size VN VW:=by rw [hVW]; exact below_new _ _
    have XW : Hid (Box VW bW 24 #[.slice none 0 0]):=hyq (by rw [hVW,hbW]; exact box_new)
    have HTW : Hid (bT ≠ bW):=hyq (by rw [hbW]; exact Nat.ne_of_lt XT.out.lt)
    have HNW : Hid (bN ≠ bW):=hyq (by rw [hbW]; exact Nat.ne_of_lt XN.out.lt)
    have HGW : Hid (wq.heap.size ≤ bW):=hyq (by rw [hbW]; exact HQ.out.size)
    have XT:=hyq (XT.out.on hq)
    have XN:=hyq (XN.out.on hq)
    have RN:=hyq (RN.out.on hq)
    have HQ:=hyq (bch HQ.out hq)
    clear hq
    cases rb with
    | true =>
     rw [if_pos rfl]
     go_upto_region 10 with (first | (refine wpList_store_row rfl 24 (.tmp 12) (.tmp 39) rfl w6.heap.size #[.slice na nn nc] rfl rfl 24 #[.slice none 0 0] box_new (info24 _) rfl (slice_one _ _ _) ?_; rw [← HVN.out,← HWN.out]) | fail)
     rw [← hVW,← hbW]
     clear hVW hbW
     have p0 : VW.cell? ⟨bT,0,none⟩ = some (.slice a3 n3 c3):=XT.out.cell (k:=0) rfl
     have p1 : VW.cell? ⟨bT,1,none⟩ = some (.slice a4 n4 c4):=XT.out.cell (k:=1) rfl
     have p2 : VW.cell? ⟨bT,2,none⟩ = some (.int .i64 B.room):=XT.out.cell (k:=2) rfl
     go_wp2_with fail
     clear p0 p1 p2
     refine (rnowU B _ _ VW (RW.out.on HQ.out) TB.out HRB.out.symm).mono ?_
     rintro e w7 ⟨ma,mn,mc,rfl,hI,hb⟩
     have XW0:=hyq (XW.out.on hb)
     obtain ⟨VM,hVM⟩:=nmq (w7.setRow bW #[.slice ma mn mc])
     have HVM:=hyq hVM
     have XT : Hid (Box VM bT 27 #[.slice a3 n3 c3,.slice a4 n4 c4,.int .i64 B.room]):=hyq (by rw [hVM]; exact (XT.out.on hb).far_row HTW.out _)
     have XN : Hid (Box VM bN 24 #[.slice na nn nc]):=hyq (by rw [hVM]; exact (XN.out.on hb).far_row HNW.out _)
     have XW : Hid (Box VM bW 24 #[.slice ma mn mc]):=hyq (by rw [hVM]; exact XW0.out.row _)
     have RN : Hid (RdI VM (.slice na nn nc) (nowT B)):=hyq (by rw [hVM]; exact rd_row (RN.out.on hb) XW0.out)
     have RM : Hid (RdI VM (.slice ma mn mc) (nowT B)):=hyq (by rw [hVM]; exact rd_row hI XW0.out)
     have HQ : Hid (Below wq.heap.size wq VM):=hyq (by rw [hVM]; exact below_row (bch HQ.out hb) HGW.out _)
     clear hVM hI hb
     have p0 : VM.cell? ⟨bT,0,none⟩ = some (.slice a3 n3 c3):=XT.out.cell (k:=0) rfl
     have p1 : VM.cell? ⟨bT,1,none⟩ = some (.slice a4 n4 c4):=XT.out.cell (k:=1) rfl
     have p2 : VM.cell? ⟨bT,2,none⟩ = some (.int .i64 B.room):=XT.out.cell (k:=2) rfl
     go_wp2_with (first | (refine wpList_store_row rfl 24 (.tmp 14) (.tmp 45) rfl bW #[.slice ma mn mc] rfl rfl 24 #[.slice none 0 0] XW0.out (info24 _) rfl (slice_one _ _ _) ?_; rw [← HVM.out]) | fail)
     clear p0 p1 p2
     refine (checkU B _ _ VM (RW.out.on HQ.out) ZB.out (HT.out.on (bch HBq.out HQ.out)) 0 (by rw [← HRB.out]; rfl)).mono ?_
     rintro e w8 ⟨rfl,hb⟩
     have p0:=(XN.out.on hb).cell (k:=0) rfl
     have p1:=(XW.out.on hb).cell (k:=0) rfl
     have RN:=hyq (RN.out.on hb)
     have RM:=hyq (RM.out.on hb)
     have HQ:=hyq (bch HQ.out hb)
     clear hb
     go_wp2_with fail
     clear p0 p1
     refine (rsame6_any _ _ _ _ w8 RN.out RM.out).mono ?_
     rintro e w9 ⟨he,hb⟩
     rw [yes_self] at he
     subst he
     have HQ:=hyq (bch HQ.out hb)
     clear hb
     go_wp2_with fail
     go_roundw
     case rel => exact ⟨.inr (.inr rfl),hyq (bch HD.out HQ.out)⟩
     case measure => simp [Lib.intOf]
    | false =>
     rw [if_neg (by decide)]
     go_upto_region 10 with (first | (refine wpList_store_row rfl 24 (.tmp 12) (.tmp 39) rfl w6.heap.size #[.slice na nn nc] rfl rfl 24 #[.slice none 0 0] box_new (info24 _) rfl (slice_one _ _ _) ?_; rw [← HVN.out,← HWN.out]) | fail)
     rw [← hVW,← hbW]
     clear hVW hbW
     have p0 : VW.cell? ⟨bT,0,none⟩ = some (.slice a3 n3 c3):=XT.out.cell (k:=0) rfl
     have p1 : VW.cell? ⟨bT,1,none⟩ = some (.slice a4 n4 c4):=XT.out.cell (k:=1) rfl
     have p2 : VW.cell? ⟨bT,2,none⟩ = some (.int .i64 B.room):=XT.out.cell (k:=2) rfl
     go_wp2_with fail
     clear p0 p1 p2
     refine (checkU B _ _ VW (RW.out.on HQ.out) ZB.out (HT.out.on (bch HBq.out HQ.out)) 180 (by rw [← HRB.out]; rfl)).mono ?_
     rintro e w8 ⟨rfl,hb⟩
     have p0:=(XN.out.on hb).cell (k:=0) rfl
     have p1:=(XW.out.on hb).cell (k:=0) rfl
     have RN:=hyq (RN.out.on hb)
     have HQ:=hyq (bch HQ.out hb)
     clear hb
     rw [nowT_no HRB.out.symm] at RN
     go_wp2_with fail
     clear p0 p1
     refine (rsame6_any _ _ _ _ w8 RN.out (RdI.nil _)).mono ?_
     rintro e w9 ⟨he,hb⟩
     rw [yes_self] at he
     subst he
     have HQ:=hyq (bch HQ.out hb)
     clear hb
     go_wp2_with fail
     go_roundw
     case rel => exact ⟨.inr (.inr rfl),hyq (bch HD.out HQ.out)⟩
     case measure => simp [Lib.intOf]
   ·have XX:=hyq (XX.out.on HD.out)
    have Z7:=hyq (Z7.out.on HD.out)
    have Z8:=hyq (Z8.out.on HD.out)
    have RA:=hyq (RA.out.on HD.out)
    have RB:=hyq (RB.out.on HD.out)
    have HB:=hyq (bch HB.out HD.out)
    clear HD
    have RX:=hyq (HX.out.on HB.out)
    have RL:=hyq (HL.out.on HB.out)
    have HTq:=hyq (HT.out.on HB.out)
    have p0:=Z7.out.cell (k:=0) rfl
    go_wp2_with fail
    clear p0
    obtain ⟨N,hN⟩:=nmq (newM A.safe)
    have HN2:=hyq hN
    have hnw : N.1.wait = []:=by rw [hN]; exact new_wait _
    refine (new_is A.safe _ wq RA.out.items (fun i h => Nat.le_trans (SA.out i h) (by decide)) HTq.out).mono ?_
    rintro e w17 ⟨iv9,wv9,he,hI,hW,hb⟩
    rw [← hN] at he hI hW
    subst he
    rw [hnw] at hW
    clear hN
    obtain ⟨a5,n5,c5,rfl⟩:=own_any3 hI
    obtain ⟨a6,c6,rfl,h6⟩:=rdO_none (OwnO.rd hW)
    have HO6:=hyq h6
    have HNW:=hyq hnw
    clear h6 hnw
    obtain ⟨VP,hVP⟩:=nmq ((w17.alloc (.cells #[.slice none 0 0,.slice none 0 0,.int .i64 0] 27)).setRow w17.heap.size #[.slice a5 n5 c5,.slice a6 0 c6,.int .i64 N.1.room])
    obtain ⟨bP,hbP⟩:=nmq (w17.heap.size)
    have hq : Below w17.heap.size w17 VP:=by rw [hVP]; exact below_row (below_new _ _) (Nat.le_refl _) _
    have XP : Hid (Box VP bP 27 #[.slice a5 n5 c5,.slice a6 0 c6,.int .i64 N.1.room]):=hyq (by rw [hVP,hbP]; exact box_new.row _)
    have OP : Hid (OwnI VP wq.heap.size (.slice a5 n5 c5) N.1.safe):=hyq (OwnI.on hI hq)
    have HQ:=hyq (bch hb hq)
    have HVP:=hyq hVP
    have HWP:=hyq hbP
    clear hVP hbP hq hI hW hb
    obtain ⟨VR,hVR⟩:=nmq ((VP.alloc (.cells #[.slice none 0 0,.slice none 0 0,.int .i64 0] 27)).setRow VP.heap.size #[.slice none 0 0,.slice none 0 0,.int .i64 0])
    obtain ⟨bR,hbR⟩:=nmq (VP.heap.size)
    have hq : Below VP.heap.size VP VR:=by rw [hVR]; exact below_row (below_new _ _) (Nat.le_refl _) _
    have XR : Hid (Box VR bR 27 #[.slice none 0 0,.slice none 0 0,.int .i64 0]):=hyq (by rw [hVR,hbR]; exact box_new.row _)
    have HPR : Hid (bP ≠ bR):=hyq (by rw [hbR]; exact Nat.ne_of_lt XP.out.lt)
    have HGR : Hid (wq.heap.size ≤ bR):=hyq (by rw [hbR]; exact HQ.out.size)
    have XP:=hyq (XP.out.on hq)
    have OP:=hyq (OwnI.on OP.out hq)
    have HQ:=hyq (bch HQ.out hq)
    have HVR:=hyq hVR
    have HWR:=hyq hbR
    clear hVR hbR hq
    have p0:=(Z7.out.on HQ.out).cell (k:=0) rfl
    have k27:=b27
    go_wp2_with (first | (refine wpList_store_row rfl 27 (.tmp 16) (.tmp 67) rfl w17.heap.size #[.slice a5 n5 c5,.slice a6 0 c6,.int .i64 N.1.room] rfl rfl 27 #[.slice none 0 0,.slice none 0 0,.int .i64 0] box_new (info27 _ _ _) rfl (darr_one _ _ _ _ _ _ _) ?_; rw [← HVP.out,← HWP.out]) | (refine wpList_store_row rfl 27 (.tmp 18) (.tmp 69) rfl VP.heap.size #[.slice none 0 0,.slice none 0 0,.int .i64 0] rfl rfl 27 #[.slice none 0 0,.slice none 0 0,.int .i64 0] box_new (info27 _ _ _) rfl (darr_one _ _ _ _ _ _ _) ?_; rw [← HVR.out,← HWR.out]) | fail)
    clear p0 k27
    refine (rtree_any A.safe _ VR (RA.out.items.on HQ.out) SA.out).mono ?_
    rintro e w18 ⟨rfl,hb⟩
    have XP:=hyq (XP.out.on hb)
    have XR:=hyq (XR.out.on hb)
    have OP:=hyq (OwnI.on OP.out hb)
    have HQ:=hyq (bch HQ.out hb)
    clear hb
    obtain ⟨vb,hvb⟩:=nmq (validT A.safe)
    have HVB:=hyq hvb
    rw [← hvb]
    clear hvb
    cases vb with
    | true =>
     have hN : N = (freshM A.safe,0):=by rw [HN2.out]; exact new_yes HVB.out.symm
     have HN3 : Hid (N.1 = freshM A.safe ∧ N.2 = 0):=hyq (by rw [hN]; exact ⟨rfl,rfl⟩)
     rw [show N.2 = 0 from HN3.out.2]
     clear hN
     have p0:=(XX.out.on HQ.out).cell (k:=0) rfl
     go_wp2_with fail
     clear p0
     refine (few8_any x.safe _ w18 (RX.out.items.on HQ.out)).mono ?_
     rintro e w19 ⟨iv8,rfl,hI,hb⟩
     rw [HAS.out] at hI
     obtain ⟨a7,n7,c7,rfl⟩:=own_any3 hI
     have XR0:=hyq (XR.out.on hb)
     obtain ⟨VS,hVS⟩:=nmq (w19.setRow bR #[.slice a7 n7 c7,.slice none 0 0,.int .i64 (-1)])
     have HVS:=hyq hVS
     have XP : Hid (Box VS bP 27 #[.slice a5 n5 c5,.slice a6 0 c6,.int .i64 N.1.room]):=hyq (by rw [hVS]; exact (XP.out.on hb).far_row HPR.out _)
     have XR : Hid (Box VS bR 27 #[.slice a7 n7 c7,.slice none 0 0,.int .i64 (-1)]):=hyq (by rw [hVS]; exact XR0.out.row _)
     have OP : Hid (OwnI VS wq.heap.size (.slice a5 n5 c5) N.1.safe):=hyq (by rw [hVS]; exact own_row' (OwnI.on OP.out hb) XR0.out (by decide))
     have OF : Hid (OwnI VS w18.heap.size (.slice a7 n7 c7) A.safe):=hyq (by rw [hVS]; exact own_row' hI XR0.out (by decide))
     have HQ : Hid (Below wq.heap.size wq VS):=hyq (by rw [hVS]; exact below_row (bch HQ.out hb) HGR.out _)
     clear hVS hI hb
     have RP : Hid (RdD VS (.slice a5 n5 c5) (.slice a6 0 c6) N.1):=hyq ⟨OwnI.rd OP.out,by rw [HNW.out]; exact HO6.out _⟩
     have RF : Hid (RdD VS (.slice a7 n7 c7) (.slice none 0 0) (freshM A.safe)):=hyq ⟨OwnI.rd OF.out,RdO.nil _⟩
     have p0:=XP.out.cell (k:=0) rfl
     have p1:=XP.out.cell (k:=1) rfl
     have p2:=XP.out.cell (k:=2) rfl
     have q0:=XR.out.cell (k:=0) rfl
     have q1:=XR.out.cell (k:=1) rfl
     have q2:=XR.out.cell (k:=2) rfl
     have k27:=built27f a7 n7 c7 (-1)
     go_wp2_with (first | (refine wpList_store_row rfl 27 (.tmp 18) (.tmp 76) rfl bR #[.slice a7 n7 c7,.slice none 0 0,.int .i64 (-1)] rfl rfl 27 #[.slice none 0 0,.slice none 0 0,.int .i64 0] XR0.out (info27 _ _ _) rfl (darr_one _ _ _ _ _ _ _) ?_; rw [← HVS.out]) | fail)
     clear p0 p1 p2 q0 q1 q2 k27
     refine (rsame8_any N.1 (freshM A.safe) _ _ _ _ VS RP.out RF.out true ⟨fun _ => HN3.out.1,fun _ => rfl⟩).mono ?_
     rintro e w20 ⟨rfl,hb⟩
     have XP:=hyq (XP.out.on hb)
     have OP:=hyq (OwnI.on OP.out hb)
     have HQ:=hyq (bch HQ.out hb)
     clear hb RP RF OF
     have p0:=XP.out.cell (k:=0) rfl
     have p1:=XP.out.cell (k:=1) rfl
     have p2:=XP.out.cell (k:=2) rfl
     go_wp2_with fail
     clear p0 p1 p2
     refine (spoil_is N.1.safe _ a6 c6 wq.heap.size _ w20 OP.out HQ.out.size).mono ?_
     rintro e wS ⟨rfl,hb⟩
     have HQ:=hyq (HQ.out.trans hb)
     clear hb XP OP XR HPR HGR
     go_wp2_with fail
     go_loopw [90] (fun i W => ∃ k : Nat,k ≤ n ∧ i = .int .i64 k ∧ Hid (Below wq.heap.size wq W)) (fun i _ => n - (Lib.intOf i).toNat)
     case atStart => exact ⟨0,Nat.zero_le _,rfl,HQ⟩
     case round =>
      obtain ⟨k,hk,rfl,HQ⟩:=hrel
      obtain ⟨wj,hwj⟩:=nmq (wr)
      rw [← hwj] at HQ ⊢
      clear hwj
      by_cases hlt : k < n
      ·obtain ⟨o,hko⟩ : ∃ o,ops[k]? = some o:=⟨_,List.getElem?_eq_getElem (by rw [← HN.out]; exact hlt)⟩
       have hRq : RdO wj (.slice al n cl) ops:=RdO.on RL.out HQ.out
       obtain ⟨a',c',e,_,_,hc⟩:=hRq.open
       rw [← HN.out] at e
       cases e
       obtain ⟨g,oo,rfl,hg,hc⟩:=hc (by rw [← HN.out]; omega)
       obtain ⟨q0,q1,q2,q3⟩:=hc k o hko
       obtain ⟨VO,hVO⟩:=nmq ((wj.alloc (.cells #[.int .i64 0,.string ⟨#[]⟩,.string ⟨#[]⟩,.string ⟨#[]⟩] 46)).setRow wj.heap.size #[.int .i64 o.kind,.string ⟨o.path.toArray⟩,.string ⟨o.to.toArray⟩,.string ⟨o.data.toArray⟩])
       obtain ⟨bO,hbO⟩:=nmq (wj.heap.size)
       have hq : Below wj.heap.size wj VO:=by rw [hVO]; exact below_row (below_new _ _) (Nat.le_refl _) _
       have XO : Hid (Box VO bO 46 #[.int .i64 o.kind,.string ⟨o.path.toArray⟩,.string ⟨o.to.toArray⟩,.string ⟨o.data.toArray⟩]):=hyq (by rw [hVO,hbO]; exact box_new.row _)
       have HQ:=hyq (bch HQ.out hq)
       have HVO:=hyq hVO
       have HWO:=hyq hbO
       obtain ⟨nb,hnb⟩ : ∃ b,needsB o = b:=⟨_,rfl⟩
       have HNE : Hid (∀ W,Calls Tryz.prog 19 #[.agg #[.int .i64 o.kind,.string ⟨o.path.toArray⟩,.string ⟨o.to.toArray⟩,.string ⟨o.data.toArray⟩]] W (EqR nb W)):=hyq (fun W => needs_is o nb hnb W)
       have HNR : Hid (∀ W,Calls Tryz.prog 20 #[.agg #[.int .i64 o.kind,.string ⟨o.path.toArray⟩,.string ⟨o.to.toArray⟩,.string ⟨o.data.toArray⟩]] W (EqR nb W)):=hyq (fun W => rneeds_is o nb hnb W)
       have tn : (nb != nb) = false:=by simp
       have td : (nb == nb) = true:=by simp
       have j1 : (k : Int) < (n : Int):=by omega
       have j2 : (0 : Int) ≤ (k : Int):=by omega
       have j4 : IntKind.i64.wrap ((k : Int) + 1) = (k : Int) + 1:=IntWalk.i64_in _ (by omega)
       clear hko hRq hc hg hq hVO hbO hnb
       go_upto_region 27 with (first | (refine wpList_store_row rfl 46 (.tmp 21) (.tmp 94) rfl wj.heap.size #[.int .i64 o.kind,.string ⟨o.path.toArray⟩,.string ⟨o.to.toArray⟩,.string ⟨o.data.toArray⟩] rfl rfl 46 #[.int .i64 0,.string ⟨#[]⟩,.string ⟨#[]⟩,.string ⟨#[]⟩] box_new info46a rfl (by simp [Value.oneCell']) ?_; rw [← HVO.out,← HWO.out]) | fail)
       clear q0 q1 q2 q3
       obtain ⟨v0,hv0⟩:=nmq (World.drew VO)
       refine wp_region_held_drew (S:=fun w' => Below VO.heap.size VO w') (by kernel_rfl) (Below.refl _ _).drew (fun hH => ?_)
       rw [← hv0] at hH ⊢
       clear hv0
       by_cases hk10 : k < 10
       ·have t10 : decide ((k : Int) < 10) = true:=decide_eq_true (by omega)
        clear hk10
        refine tk 0 hH ?_; try go_frame
        refine tk 1 hH ?_; try go_frame
        refine tk 2 hH ?_; try go_frame
        refine tkf 3 rfl (fun w hSw => by have p0:=(XO.out.on hSw).cell (k:=0) rfl; have p1:=(XO.out.on hSw).cell (k:=1) rfl; have p2:=(XO.out.on hSw).cell (k:=2) rfl; have p3:=(XO.out.on hSw).cell (k:=3) rfl; go_simp; try with_reducible rfl) hH ?_; try go_frame
        refine tkf 5 rfl (fun w hSw => by have p0:=(XO.out.on hSw).cell (k:=0) rfl; have p1:=(XO.out.on hSw).cell (k:=1) rfl; have p2:=(XO.out.on hSw).cell (k:=2) rfl; have p3:=(XO.out.on hSw).cell (k:=3) rfl; go_simp; try with_reducible rfl) hH ?_; try go_frame
        refine rd1 4 (fun K hK => ?_)
        ·go_simp
         refine (HNE.out _).mono ?_
         rintro e v101 ⟨rfl,hba⟩
         refine hK.out _ _ (bch hH hba) (fun hH => ?_)
         clear hba
         try go_frame
         refine rd1 6 (fun K hK => ?_)
         ·go_simp
          refine (HNR.out _).mono ?_
          rintro e v102 ⟨rfl,hba⟩
          refine hK.out _ _ (bch hH hba) (fun hH => ?_)
          clear hba
          try go_frame
          refine tk 7 hH ?_; try go_frame
          refine tk 8 hH ?_; try go_frame
          refine wpAnyH_done (by kernel_rfl) ?_ _
          have HQ:=hyq (bch HQ.out hH)
          clear hH
          go_wp2_with fail
          go_roundw
          case rel => exact ⟨k + 1,hlt,by go_num,HQ⟩
          case measure => simp [Lib.intOf]; omega
       ·have t10 : decide ((k : Int) < 10) = false:=decide_eq_false (by omega)
        clear hk10
        refine tk 0 hH ?_; try go_frame
        refine tk 1 hH ?_; try go_frame
        refine tk 2 hH ?_; try go_frame
        refine tku 3 hH ?_; try go_frame
        refine tku 4 hH ?_; try go_frame
        refine tku 5 hH ?_; try go_frame
        refine tku 6 hH ?_; try go_frame
        refine tku 7 hH ?_; try go_frame
        refine tk 8 hH ?_; try go_frame
        refine wpAnyH_done (by kernel_rfl) ?_ _
        have HQ:=hyq (bch HQ.out hH)
        clear hH
        go_wp2_with fail
        go_roundw
        case rel => exact ⟨k + 1,hlt,by go_num,HQ⟩
        case measure => simp [Lib.intOf]; omega
      ·have j1 : ¬ ((k : Int) < (n : Int)):=by omega
       have XX:=hyq (XX.out.on HQ.out)
       have Z7:=hyq (Z7.out.on HQ.out)
       have Z8:=hyq (Z8.out.on HQ.out)
       have RA:=hyq (RA.out.on HQ.out)
       have RB:=hyq (RB.out.on HQ.out)
       have RX:=hyq (RX.out.on HQ.out)
       have HB:=hyq (bch HB.out HQ.out)
       clear RL HQ
       obtain ⟨dd,hdd⟩ : ∃ z : Bool,z = true ↔ A = B:=⟨open Classical in decide (A = B),by simp⟩
       have HDD:=hyq hdd
       clear hdd
       have td : (dd == dd) = true:=by simp
       go_upto_region 30 with fail
       obtain ⟨v0,hv0⟩:=nmq (World.drew wj)
       refine wp_region_held_drew (S:=fun w' => Below wj.heap.size wj w') (by kernel_rfl) (Below.refl _ _).drew (fun hH => ?_)
       rw [← hv0] at hH ⊢
       clear hv0
       refine tkf 0 rfl (fun w hSw => by have p0:=(Z7.out.on hSw).cell (k:=0) rfl; have p1:=(Z7.out.on hSw).cell (k:=1) rfl; have p2:=(Z7.out.on hSw).cell (k:=2) rfl; go_simp; try with_reducible rfl) hH ?_; try go_frame
       refine tkf 1 rfl (fun w hSw => by have p0:=(XX.out.on hSw).cell (k:=0) rfl; have p1:=(XX.out.on hSw).cell (k:=1) rfl; have p2:=(XX.out.on hSw).cell (k:=2) rfl; go_simp; try with_reducible rfl) hH ?_; try go_frame
       refine rd1 2 (fun K hK => ?_)
       ·go_simp
        refine (own8_any x _ _ v0 (RX.out.on hH)).mono ?_
        rintro e v101 ⟨iv9,wv9,he,hI,hW,hba⟩
        rw [← HAA.out] at he hI hW
        subst he
        obtain ⟨a9,n9,c9,rfl⟩:=own_any3 hI
        obtain ⟨b9,m9,d9,rfl⟩:=own_any3 hW
        have R9 : Hid (RdD v101 (.slice a9 n9 c9) (.slice b9 m9 d9) A):=hyq ⟨OwnI.rd hI,OwnO.rd hW⟩
        refine hK.out _ _ (bch hH hba) (fun hH => ?_)
        clear hI hW hba
        try go_frame
        refine rd1 3 (fun K hK => ?_)
        ·go_simp
         refine (rsame8_any A A _ _ _ _ v101 (RA.out.on hH) R9.out true ⟨fun _ => rfl,fun _ => rfl⟩).mono ?_
         rintro e v102 ⟨rfl,hba⟩
         refine hK.out _ _ (bch hH hba) (fun hH => ?_)
         clear hba
         try go_frame
         refine tk 4 hH ?_; try go_frame
         refine tkf 5 rfl (fun w hSw => by have p0:=(Z7.out.on hSw).cell (k:=0) rfl; have p1:=(Z7.out.on hSw).cell (k:=1) rfl; have p2:=(Z7.out.on hSw).cell (k:=2) rfl; go_simp; try with_reducible rfl) hH ?_; try go_frame
         refine tkf 6 rfl (fun w hSw => by have p0:=(Z8.out.on hSw).cell (k:=0) rfl; have p1:=(Z8.out.on hSw).cell (k:=1) rfl; have p2:=(Z8.out.on hSw).cell (k:=2) rfl; go_simp; try with_reducible rfl) hH ?_; try go_frame
         refine tkf 8 rfl (fun w hSw => by have p0:=(Z7.out.on hSw).cell (k:=0) rfl; have p1:=(Z7.out.on hSw).cell (k:=1) rfl; have p2:=(Z7.out.on hSw).cell (k:=2) rfl; go_simp; try with_reducible rfl) hH ?_; try go_frame
         refine tkf 9 rfl (fun w hSw => by have p0:=(Z8.out.on hSw).cell (k:=0) rfl; have p1:=(Z8.out.on hSw).cell (k:=1) rfl; have p2:=(Z8.out.on hSw).cell (k:=2) rfl; go_simp; try with_reducible rfl) hH ?_; try go_frame
         refine rd1 7 (fun K hK => ?_)
         ·go_simp
          refine (sameD_any A B _ _ _ _ v102 (RA.out.on hH) (RB.out.on hH) dd HDD.out).mono ?_
          rintro e v103 ⟨rfl,hba⟩
          refine hK.out _ _ (bch hH hba) (fun hH => ?_)
          clear hba
          try go_frame
          refine rd1 10 (fun K hK => ?_)
          ·go_simp
           refine (rsame8_any A B _ _ _ _ v103 (RA.out.on hH) (RB.out.on hH) dd HDD.out).mono ?_
           rintro e v104 ⟨rfl,hba⟩
           refine hK.out _ _ (bch hH hba) (fun hH => ?_)
           clear hba
           try go_frame
           refine tk 11 hH ?_; try go_frame
           refine tk 12 hH ?_; try go_frame
           refine tk 13 hH ?_; try go_frame
           refine tkf 14 rfl (fun w hSw => by have p0:=(Z7.out.on hSw).cell (k:=0) rfl; have p1:=(Z7.out.on hSw).cell (k:=1) rfl; have p2:=(Z7.out.on hSw).cell (k:=2) rfl; go_simp; try with_reducible rfl) hH ?_; try go_frame
           refine tkf 15 rfl (fun w hSw => by have p0:=(XX.out.on hSw).cell (k:=0) rfl; have p1:=(XX.out.on hSw).cell (k:=1) rfl; have p2:=(XX.out.on hSw).cell (k:=2) rfl; go_simp; try with_reducible rfl) hH ?_; try go_frame
           refine rd1 16 (fun K hK => ?_)
           ·go_simp
            refine (own8_any x _ _ v104 (RX.out.on hH)).mono ?_
            rintro e v105 ⟨iv9,wv9,he,hI,hW,hba⟩
            rw [← HAA.out] at he hI hW
            subst he
            obtain ⟨a9,n9,c9,rfl⟩:=own_any3 hI
            obtain ⟨b9,m9,d9,rfl⟩:=own_any3 hW
            have R9 : Hid (RdD v105 (.slice a9 n9 c9) (.slice b9 m9 d9) A):=hyq ⟨OwnI.rd hI,OwnO.rd hW⟩
            refine hK.out _ _ (bch hH hba) (fun hH => ?_)
            clear hI hW hba
            try go_frame
            refine rd1 17 (fun K hK => ?_)
            ·go_simp
             refine (sameD_any A A _ _ _ _ v105 (RA.out.on hH) R9.out true ⟨fun _ => rfl,fun _ => rfl⟩).mono ?_
             rintro e v106 ⟨rfl,hba⟩
             refine hK.out _ _ (bch hH hba) (fun hH => ?_)
             clear hba
             try go_frame
             refine tk 18 hH ?_; try go_frame
             refine tk 19 hH ?_; try go_frame
             refine wpAnyH_done (by kernel_rfl) ?_ _
             have HD:=hyq hH
             clear hH
             go_wp2_with fail
             go_ret
             exact ⟨rfl,bch HB.out HD.out⟩
    | false =>
     have hN : N = (⟨[],[],0⟩,160):=by rw [HN2.out]; exact new_no HVB.out.symm
     have HN3 : Hid (N.1 = ⟨[],[],0⟩ ∧ N.2 = 160):=hyq (by rw [hN]; exact ⟨rfl,rfl⟩)
     rw [show N.2 = 160 from HN3.out.2]
     clear hN
     have RP : Hid (RdD w18 (.slice a5 n5 c5) (.slice a6 0 c6) N.1):=hyq ⟨OwnI.rd OP.out,by rw [HNW.out]; exact HO6.out _⟩
     have RF : Hid (RdD w18 (.slice none 0 0) (.slice none 0 0) ⟨[],[],0⟩):=hyq ⟨RdI.nil _,RdO.nil _⟩
     have p0:=XP.out.cell (k:=0) rfl
     have p1:=XP.out.cell (k:=1) rfl
     have p2:=XP.out.cell (k:=2) rfl
     have q0:=XR.out.cell (k:=0) rfl
     have q1:=XR.out.cell (k:=1) rfl
     have q2:=XR.out.cell (k:=2) rfl
     go_wp2_with fail
     clear p0 p1 p2 q0 q1 q2
     refine (rsame8_any N.1 ⟨[],[],0⟩ _ _ _ _ w18 RP.out RF.out true ⟨fun _ => HN3.out.1,fun _ => rfl⟩).mono ?_
     rintro e w20 ⟨rfl,hb⟩
     have XP:=hyq (XP.out.on hb)
     have OP:=hyq (OwnI.on OP.out hb)
     have HQ:=hyq (bch HQ.out hb)
     clear hb RP RF
     have p0:=XP.out.cell (k:=0) rfl
     have p1:=XP.out.cell (k:=1) rfl
     have p2:=XP.out.cell (k:=2) rfl
     go_wp2_with fail
     clear p0 p1 p2
     refine (spoil_is N.1.safe _ a6 c6 wq.heap.size _ w20 OP.out HQ.out.size).mono ?_
     rintro e wS ⟨rfl,hb⟩
     have HQ:=hyq (HQ.out.trans hb)
     clear hb XP OP XR HPR HGR
     go_wp2_with fail
     go_loopw [90] (fun i W => ∃ k : Nat,k ≤ n ∧ i = .int .i64 k ∧ Hid (Below wq.heap.size wq W)) (fun i _ => n - (Lib.intOf i).toNat)
     case atStart => exact ⟨0,Nat.zero_le _,rfl,HQ⟩
     case round =>
      obtain ⟨k,hk,rfl,HQ⟩:=hrel
      obtain ⟨wj,hwj⟩:=nmq (wr)
      rw [← hwj] at HQ ⊢
      clear hwj
      by_cases hlt : k < n
      ·obtain ⟨o,hko⟩ : ∃ o,ops[k]? = some o:=⟨_,List.getElem?_eq_getElem (by rw [← HN.out]; exact hlt)⟩
       have hRq : RdO wj (.slice al n cl) ops:=RdO.on RL.out HQ.out
       obtain ⟨a',c',e,_,_,hc⟩:=hRq.open
       rw [← HN.out] at e
       cases e
       obtain ⟨g,oo,rfl,hg,hc⟩:=hc (by rw [← HN.out]; omega)
       obtain ⟨q0,q1,q2,q3⟩:=hc k o hko
       obtain ⟨VO,hVO⟩:=nmq ((wj.alloc (.cells #[.int .i64 0,.string ⟨#[]⟩,.string ⟨#[]⟩,.string ⟨#[]⟩] 46)).setRow wj.heap.size #[.int .i64 o.kind,.string ⟨o.path.toArray⟩,.string ⟨o.to.toArray⟩,.string ⟨o.data.toArray⟩])
       obtain ⟨bO,hbO⟩:=nmq (wj.heap.size)
       have hq : Below wj.heap.size wj VO:=by rw [hVO]; exact below_row (below_new _ _) (Nat.le_refl _) _
       have XO : Hid (Box VO bO 46 #[.int .i64 o.kind,.string ⟨o.path.toArray⟩,.string ⟨o.to.toArray⟩,.string ⟨o.data.toArray⟩]):=hyq (by rw [hVO,hbO]; exact box_new.row _)
       have HQ:=hyq (bch HQ.out hq)
       have HVO:=hyq hVO
       have HWO:=hyq hbO
       obtain ⟨nb,hnb⟩ : ∃ b,needsB o = b:=⟨_,rfl⟩
       have HNE : Hid (∀ W,Calls Tryz.prog 19 #[.agg #[.int .i64 o.kind,.string ⟨o.path.toArray⟩,.string ⟨o.to.toArray⟩,.string ⟨o.data.toArray⟩]] W (EqR nb W)):=hyq (fun W => needs_is o nb hnb W)
       have HNR : Hid (∀ W,Calls Tryz.prog 20 #[.agg #[.int .i64 o.kind,.string ⟨o.path.toArray⟩,.string ⟨o.to.toArray⟩,.string ⟨o.data.toArray⟩]] W (EqR nb W)):=hyq (fun W => rneeds_is o nb hnb W)
       have tn : (nb != nb) = false:=by simp
       have td : (nb == nb) = true:=by simp
       have j1 : (k : Int) < (n : Int):=by omega
       have j2 : (0 : Int) ≤ (k : Int):=by omega
       have j4 : IntKind.i64.wrap ((k : Int) + 1) = (k : Int) + 1:=IntWalk.i64_in _ (by omega)
       clear hko hRq hc hg hq hVO hbO hnb
       go_upto_region 27 with (first | (refine wpList_store_row rfl 46 (.tmp 21) (.tmp 94) rfl wj.heap.size #[.int .i64 o.kind,.string ⟨o.path.toArray⟩,.string ⟨o.to.toArray⟩,.string ⟨o.data.toArray⟩] rfl rfl 46 #[.int .i64 0,.string ⟨#[]⟩,.string ⟨#[]⟩,.string ⟨#[]⟩] box_new info46a rfl (by simp [Value.oneCell']) ?_; rw [← HVO.out,← HWO.out]) | fail)
       clear q0 q1 q2 q3
       obtain ⟨v0,hv0⟩:=nmq (World.drew VO)
       refine wp_region_held_drew (S:=fun w' => Below VO.heap.size VO w') (by kernel_rfl) (Below.refl _ _).drew (fun hH => ?_)
       rw [← hv0] at hH ⊢
       clear hv0
       by_cases hk10 : k < 10
       ·have t10 : decide ((k : Int) < 10) = true:=decide_eq_true (by omega)
        clear hk10
        refine tk 0 hH ?_; try go_frame
        refine tk 1 hH ?_; try go_frame
        refine tk 2 hH ?_; try go_frame
        refine tkf 3 rfl (fun w hSw => by have p0:=(XO.out.on hSw).cell (k:=0) rfl; have p1:=(XO.out.on hSw).cell (k:=1) rfl; have p2:=(XO.out.on hSw).cell (k:=2) rfl; have p3:=(XO.out.on hSw).cell (k:=3) rfl; go_simp; try with_reducible rfl) hH ?_; try go_frame
        refine tkf 5 rfl (fun w hSw => by have p0:=(XO.out.on hSw).cell (k:=0) rfl; have p1:=(XO.out.on hSw).cell (k:=1) rfl; have p2:=(XO.out.on hSw).cell (k:=2) rfl; have p3:=(XO.out.on hSw).cell (k:=3) rfl; go_simp; try with_reducible rfl) hH ?_; try go_frame
        refine rd1 4 (fun K hK => ?_)
        ·go_simp
         refine (HNE.out _).mono ?_
         rintro e v101 ⟨rfl,hba⟩
         refine hK.out _ _ (bch hH hba) (fun hH => ?_)
         clear hba
         try go_frame
         refine rd1 6 (fun K hK => ?_)
         ·go_simp
          refine (HNR.out _).mono ?_
          rintro e v102 ⟨rfl,hba⟩
          refine hK.out _ _ (bch hH hba) (fun hH => ?_)
          clear hba
          try go_frame
          refine tk 7 hH ?_; try go_frame
          refine tk 8 hH ?_; try go_frame
          refine wpAnyH_done (by kernel_rfl) ?_ _
          have HQ:=hyq (bch HQ.out hH)
          clear hH
          go_wp2_with fail
          go_roundw
          case rel => exact ⟨k + 1,hlt,by go_num,HQ⟩
          case measure => simp [Lib.intOf]; omega
       ·have t10 : decide ((k : Int) < 10) = false:=decide_eq_false (by omega)
        clear hk10
        refine tk 0 hH ?_; try go_frame
        refine tk 1 hH ?_; try go_frame
        refine tk 2 hH ?_; try go_frame
        refine tku 3 hH ?_; try go_frame
        refine tku 4 hH ?_; try go_frame
        refine tku 5 hH ?_; try go_frame
        refine tku 6 hH ?_; try go_frame
        refine tku 7 hH ?_; try go_frame
        refine tk 8 hH ?_; try go_frame
        refine wpAnyH_done (by kernel_rfl) ?_ _
        have HQ:=hyq (bch HQ.out hH)
        clear hH
        go_wp2_with fail
        go_roundw
        case rel => exact ⟨k + 1,hlt,by go_num,HQ⟩
        case measure => simp [Lib.intOf]; omega
      ·have j1 : ¬ ((k : Int) < (n : Int)):=by omega
       have XX:=hyq (XX.out.on HQ.out)
       have Z7:=hyq (Z7.out.on HQ.out)
       have Z8:=hyq (Z8.out.on HQ.out)
       have RA:=hyq (RA.out.on HQ.out)
       have RB:=hyq (RB.out.on HQ.out)
       have RX:=hyq (RX.out.on HQ.out)
       have HB:=hyq (bch HB.out HQ.out)
       clear RL HQ
       obtain ⟨dd,hdd⟩ : ∃ z : Bool,z = true ↔ A = B:=⟨open Classical in decide (A = B),by simp⟩
       have HDD:=hyq hdd
       clear hdd
       have td : (dd == dd) = true:=by simp
       go_upto_region 30 with fail
       obtain ⟨v0,hv0⟩:=nmq (World.drew wj)
       refine wp_region_held_drew (S:=fun w' => Below wj.heap.size wj w') (by kernel_rfl) (Below.refl _ _).drew (fun hH => ?_)
       rw [← hv0] at hH ⊢
       clear hv0
       refine tkf 0 rfl (fun w hSw => by have p0:=(Z7.out.on hSw).cell (k:=0) rfl; have p1:=(Z7.out.on hSw).cell (k:=1) rfl; have p2:=(Z7.out.on hSw).cell (k:=2) rfl; go_simp; try with_reducible rfl) hH ?_; try go_frame
       refine tkf 1 rfl (fun w hSw => by have p0:=(XX.out.on hSw).cell (k:=0) rfl; have p1:=(XX.out.on hSw).cell (k:=1) rfl; have p2:=(XX.out.on hSw).cell (k:=2) rfl; go_simp; try with_reducible rfl) hH ?_; try go_frame
       refine rd1 2 (fun K hK => ?_)
       ·go_simp
        refine (own8_any x _ _ v0 (RX.out.on hH)).mono ?_
        rintro e v101 ⟨iv9,wv9,he,hI,hW,hba⟩
        rw [← HAA.out] at he hI hW
        subst he
        obtain ⟨a9,n9,c9,rfl⟩:=own_any3 hI
        obtain ⟨b9,m9,d9,rfl⟩:=own_any3 hW
        have R9 : Hid (RdD v101 (.slice a9 n9 c9) (.slice b9 m9 d9) A):=hyq ⟨OwnI.rd hI,OwnO.rd hW⟩
        refine hK.out _ _ (bch hH hba) (fun hH => ?_)
        clear hI hW hba
        try go_frame
        refine rd1 3 (fun K hK => ?_)
        ·go_simp
         refine (rsame8_any A A _ _ _ _ v101 (RA.out.on hH) R9.out true ⟨fun _ => rfl,fun _ => rfl⟩).mono ?_
         rintro e v102 ⟨rfl,hba⟩
         refine hK.out _ _ (bch hH hba) (fun hH => ?_)
         clear hba
         try go_frame
         refine tk 4 hH ?_; try go_frame
         refine tkf 5 rfl (fun w hSw => by have p0:=(Z7.out.on hSw).cell (k:=0) rfl; have p1:=(Z7.out.on hSw).cell (k:=1) rfl; have p2:=(Z7.out.on hSw).cell (k:=2) rfl; go_simp; try with_reducible rfl) hH ?_; try go_frame
         refine tkf 6 rfl (fun w hSw => by have p0:=(Z8.out.on hSw).cell (k:=0) rfl; have p1:=(Z8.out.on hSw).cell (k:=1) rfl; have p2:=(Z8.out.on hSw).cell (k:=2) rfl; go_simp; try with_reducible rfl) hH ?_; try go_frame
         refine tkf 8 rfl (fun w hSw => by have p0:=(Z7.out.on hSw).cell (k:=0) rfl; have p1:=(Z7.out.on hSw).cell (k:=1) rfl; have p2:=(Z7.out.on hSw).cell (k:=2) rfl; go_simp; try with_reducible rfl) hH ?_; try go_frame
         refine tkf 9 rfl (fun w hSw => by have p0:=(Z8.out.on hSw).cell (k:=0) rfl; have p1:=(Z8.out.on hSw).cell (k:=1) rfl; have p2:=(Z8.out.on hSw).cell (k:=2) rfl; go_simp; try with_reducible rfl) hH ?_; try go_frame
         refine rd1 7 (fun K hK => ?_)
         ·go_simp
          refine (sameD_any A B _ _ _ _ v102 (RA.out.on hH) (RB.out.on hH) dd HDD.out).mono ?_
          rintro e v103 ⟨rfl,hba⟩
          refine hK.out _ _ (bch hH hba) (fun hH => ?_)
          clear hba
          try go_frame
          refine rd1 10 (fun K hK => ?_)
          ·go_simp
           refine (rsame8_any A B _ _ _ _ v103 (RA.out.on hH) (RB.out.on hH) dd HDD.out).mono ?_
           rintro e v104 ⟨rfl,hba⟩
           refine hK.out _ _ (bch hH hba) (fun hH => ?_)
           clear hba
           try go_frame
           refine tk 11 hH ?_; try go_frame
           refine tk 12 hH ?_; try go_frame
           refine tk 13 hH ?_; try go_frame
           refine tkf 14 rfl (fun w hSw => by have p0:=(Z7.out.on hSw).cell (k:=0) rfl; have p1:=(Z7.out.on hSw).cell (k:=1) rfl; have p2:=(Z7.out.on hSw).cell (k:=2) rfl; go_simp; try with_reducible rfl) hH ?_; try go_frame
           refine tkf 15 rfl (fun w hSw => by have p0:=(XX.out.on hSw).cell (k:=0) rfl; have p1:=(XX.out.on hSw).cell (k:=1) rfl; have p2:=(XX.out.on hSw).cell (k:=2) rfl; go_simp; try with_reducible rfl) hH ?_; try go_frame
           refine rd1 16 (fun K hK => ?_)
           ·go_simp
            refine (own8_any x _ _ v104 (RX.out.on hH)).mono ?_
            rintro e v105 ⟨iv9,wv9,he,hI,hW,hba⟩
            rw [← HAA.out] at he hI hW
            subst he
            obtain ⟨a9,n9,c9,rfl⟩:=own_any3 hI
            obtain ⟨b9,m9,d9,rfl⟩:=own_any3 hW
            have R9 : Hid (RdD v105 (.slice a9 n9 c9) (.slice b9 m9 d9) A):=hyq ⟨OwnI.rd hI,OwnO.rd hW⟩
            refine hK.out _ _ (bch hH hba) (fun hH => ?_)
            clear hI hW hba
            try go_frame
            refine rd1 17 (fun K hK => ?_)
            ·go_simp
             refine (sameD_any A A _ _ _ _ v105 (RA.out.on hH) R9.out true ⟨fun _ => rfl,fun _ => rfl⟩).mono ?_
             rintro e v106 ⟨rfl,hba⟩
             refine hK.out _ _ (bch hH hba) (fun hH => ?_)
             clear hba
             try go_frame
             refine tk 18 hH ?_; try go_frame
             refine tk 19 hH ?_; try go_frame
             refine wpAnyH_done (by kernel_rfl) ?_ _
             have HD:=hyq hH
             clear hH
             go_wp2_with fail
             go_ret
             exact ⟨rfl,bch HB.out HD.out⟩
end Go.Proofs.YtigopecainocgaaGreatDoor
