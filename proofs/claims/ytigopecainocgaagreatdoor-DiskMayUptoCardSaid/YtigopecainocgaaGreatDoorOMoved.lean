/- Proved here: moved of package tree. -/
import Derived.Test.YtigopecainocgaaGreatDoorTK
import Derived.Test.YtigopecainocgaaGreatDoorOMov0
set_option maxRecDepth 100000
set_option maxHeartbeats 32000000
namespace Go.Proofs.YtigopecainocgaaGreatDoor
open Go.RowKit Go.Shelf
attribute [local go_sem] Oper.semAt_some
theorem region_cutw {P : Program} {ops : Array Oper} {id n : Nat} {a : Act} {w : World} {Q : Exit → Act → World → Prop} (C : Act → World → Prop) (h1 : (Code.region id ops true).wpIn Fence.wide n P (Plainly C) a w) (h2 : ∀ a' w',C a' w' → Q .normal a' w') : (Code.region id ops true).wpIn Fence.wide n P Q a w:=by
 refine Code.wpIn_mono ?_ h1
 intro e a' w' he
 cases e with
 | normal => exact h2 a' w' he
 | _ => exact he.elim
def MovedR (l : List It) (frm tgt : Str) (x : It) (w : World) (e : Ending) (w' : World) : Prop :=
 Below w.heap.size w w' ∧ ((fitsM l frm tgt = true ∧ ∃ v',e = .returned (.tuple #[v',.int .i64 0]) ∧ OwnI w' w.heap.size v' (movedM l frm tgt x)) ∨ (fitsM l frm tgt = false ∧ e = .returned (.tuple #[.slice none 0 0,.int .i64 110])))
theorem moved_any (B b : Nat) (v : Value) (l : List It) (frm tgt : Str) (x : It) (w : World) (hG : Gr w B b v l) (h : TreeOk l) (hvf : validB frm = true) (hvt : validB tgt = true) (hx : getI l frm = some x) (hT : Tabs w) :
  Calls Tryz.prog 90 #[.pointer (some ⟨b,0,none⟩),.string ⟨frm.toArray⟩,.string ⟨tgt.toArray⟩] w (MovedR l frm tgt x w):=by
 refine (callsIn_wide (n:=5)).1 ?_
 have hfl : frm.length ≤ 140737488355328:=Nat.le_trans (valid_len _ hvf) (by decide)
 have htl : tgt.length ≤ 140737488355328:=Nat.le_trans (valid_len _ hvt) (by decide)
 obtain ⟨wA,hwA⟩:=nmq (((w.alloc (.cells #[.string ⟨frm.toArray⟩] 9)).alloc (.cells #[.slice none 0 0] 22)).alloc (.cells #[.int .i64 0] 32))
 obtain ⟨b4,hb4⟩:=nmq (w.heap.size)
 have XA4 : Box wA b4 9 #[.string ⟨frm.toArray⟩]:=by rw [hwA,hb4]; exact (box_new.alloc _).alloc _
 have XA6 : Box wA (b4 + 1) 22 #[.slice none 0 0]:=by rw [hwA,hb4,show w.heap.size + 1 = (w.alloc (.cells #[.string ⟨frm.toArray⟩] 9)).heap.size from by simp]; exact box_new.alloc _
 have XA7 : Box wA (b4 + 1 + 1) 32 #[.int .i64 0]:=by rw [hwA,hb4,show w.heap.size + 1 + 1 = ((w.alloc (.cells #[.string ⟨frm.toArray⟩] 9)).alloc (.cells #[.slice none 0 0] 22)).heap.size from by simp]; exact box_new
 have HBA : Hid (Below w.heap.size w wA):=hyq (by rw [hwA]; exact bch (bch (below_new _ _) (below_new _ _)) (below_new _ _))
 obtain ⟨v0,hv0⟩:=nmq (World.drew wA)
 obtain ⟨vs,hvs⟩:=nmq (World.drew wA)
 have HBV : Hid (Below wA.heap.size wA vs):=hyq (by rw [hvs]; exact (Below.refl _ _).drew)
 have HG : Hid (Gr vs B b v l):=hyq ((hG.on HBA.out).on HBV.out)
 have HT : Hid (Tabs vs):=hyq ((hT.on HBA.out).on HBV.out)
 have X4 : Hid (Box vs b4 9 #[.string ⟨frm.toArray⟩]):=hyq (XA4.on HBV.out)
 have X6 : Hid (Box vs (b4 + 1) 22 #[.slice none 0 0]):=hyq (XA6.on HBV.out)
 have X7 : Hid (Box vs (b4 + 1 + 1) 32 #[.int .i64 0]):=hyq (XA7.on HBV.out)
 have HV2 : Hid (Below w.heap.size w vs):=hyq (bch HBA.out HBV.out)
 obtain ⟨a,n,c,rfl⟩:=own_any HG.out.own
 have XG : Hid (Box vs b 78 #[.slice a n c]):=hyq HG.out.box
 have HGET : Hid (∀ W,Below vs.heap.size vs W → Calls Tryz.prog 49 #[.slice a n c,.string ⟨frm.toArray⟩] W fun e w' => e = .returned (.tuple #[.agg x.arr,.bool true]) ∧ Below W.heap.size W w'):=hyq (fun W hW => by
  have:=tget_gen l (.slice a n c) frm W (srt_of h) h.many (HG.out.on hW).rd (tree_sz h) hfl (HT.out.on hW)
  rw [hx] at this
  exact this)
 have HNM : Hid (∀ W,Calls Tryz.prog 103 #[.string ⟨tgt.toArray⟩] W (NamesPost tgt W)):=hyq (fun W => by
  have:=names_yes ⟨tgt.toArray⟩ (by show tgt.toArray.size ≤ _; rw [List.size_toArray]; exact htl) hvt W
  exact this)
 have HOK:=hyq h
 have HX:=hyq hx
 have HWA:=hyq hwA
 have HB4:=hyq hb4
 clear hG h hx hT hwA hb4 XA4 XA6 XA7
 refine callsIn_of_wp_marks Tryz.func90 rfl trivial ?_ rfl
 simp only [Tryz.ntmps90,List.size_toArray,List.length_cons,List.length_nil,Nat.reduceAdd,Nat.reduceSub,Array.replicate_succ,Array.replicate_zero,List.push_toArray,List.append_toArray,List.nil_append,List.cons_append]
 gi_wp2_with (refine ⟨trivial,?_⟩; fail)
 rw [← HWA.out,← HB4.out]
 refine region_cutw (fun a' w' => ∃ b8,∃ u18 u19 u20 u21 u22 u23 u24 u25 u26 : Value,a' = { tmps:=#[.pointer (some ⟨b,0,none⟩),.string ⟨frm.toArray⟩,.string ⟨tgt.toArray⟩,undef,.pointer (some ⟨b4,0,none⟩),undef,.pointer (some ⟨b4 + 1,0,none⟩),.pointer (some ⟨b4 + 1 + 1,0,none⟩),.pointer (some ⟨b8,0,none⟩),.bool true,undef,undef,undef,undef,undef,undef,undef,undef,u18,u19,u20,u21,u22,u23,u24,u25,u26,undef,undef,undef,undef,undef,undef,undef,undef,undef,undef,undef,undef,undef,undef,undef,undef,undef,undef,undef,undef,undef,undef,undef,undef,undef,undef,undef,undef,undef,undef,undef,undef,undef,undef,undef,undef,undef,undef,undef,undef,undef],defers:=[] } ∧ Hid (Box w' b8 59 x.arr) ∧ Hid (Below vs.heap.size vs w') ∧ Hid (vs.heap.size ≤ b8)) ?_ ?_
 ·refine region_wide (S:=fun w' => Below vs.heap.size vs w') (by kernel_rfl) (by kernel_rfl) (by rw [hvs]; exact Below.refl _ _) (fun hH => ?_)
  rw [← hv0] at hH ⊢
  clear hv0 hvs
  refine tk 0 hH ?_; try go_frame
  refine tk 1 hH ?_; try go_frame
  refine tk 2 hH ?_; try go_frame
  refine tkf 3 rfl (fun w hSw => by have p0 : w.cell? ⟨b,0,none⟩ = some (.slice a n c):=(XG.out.on hSw).cell (k:=0) rfl; go_simp; try with_reducible rfl) hH ?_; try go_frame
  refine tkf 4 rfl (fun w hSw => by have p0 : w.cell? ⟨b4,0,none⟩ = some (.string ⟨frm.toArray⟩):=(X4.out.on hSw).cell (k:=0) rfl; go_simp; try with_reducible rfl) hH ?_; try go_frame
  refine rd2 5 9 (fun K hK => ?_) (fun K hK => ?_)
  ·go_simp
   refine (HGET.out _ hH).mono ?_
   rintro e v105 ⟨rfl,hba⟩
   refine hK.out _ _ (bch hH hba) (fun hH => ?_)
   clear hba
   try go_frame
   refine tk 6 hH ?_; try go_frame
   refine tk 7 hH ?_; try go_frame
   refine tk 8 hH ?_; try go_frame
   refine rd1 9 (fun K hK => ?_)
   ·go_simp
    have hba : Below v105.heap.size v105 (v105.alloc (.cells #[.string ⟨#[]⟩,.int .i64 0,.string ⟨#[]⟩] 59)):=below_new _ _
    have Z7 : Hid (Box (v105.alloc (.cells #[.string ⟨#[]⟩,.int .i64 0,.string ⟨#[]⟩] 59)) v105.heap.size 59 It.nil.arr):=hyq box_new
    have HB7 : Hid (vs.heap.size ≤ v105.heap.size):=hyq hH.size
    obtain ⟨v109,hv9⟩:=nmq ((v105.alloc (.cells #[.string ⟨#[]⟩,.int .i64 0,.string ⟨#[]⟩] 59)))
    refine hK.out _ _ (bch hH hba) (fun hH => ?_)
    clear hba
    rw [← hv9] at Z7 hH ⊢
    clear hv9
    obtain ⟨b8,hg9⟩:=nmq (v105.heap.size)
    rw [← hg9] at Z7 HB7 ⊢
    clear hg9
    try go_frame
    refine rd1 10 (fun K hK => ?_)
    ·refine wp_store_if (by rfl) 59 (.tmp 8) (.tmp 25) rfl b8 59 It.nil.arr x.arr rfl rfl Z7.out (info35 _) rfl (iarr_one _) ?_
     have Z8 : Hid (Box (v109.setRow b8 x.arr) b8 59 x.arr):=hyq (Z7.out.row _)
     refine hK.out _ _ (below_row hH HB7.out _) (fun hH => ?_)
     clear Z7
     (try simp only [Act.put])
     refine tk 11 hH ?_; try go_frame
     refine wpAnyH_done (by kernel_rfl) ?_ _
     simp only [Plainly]
     exact ⟨b8,_,_,_,_,_,_,_,_,_,rfl,Z8,hyq hH,HB7⟩
  ·go_simp
   have hba : Below v0.heap.size v0 (v0.alloc (.cells #[.string ⟨#[]⟩,.int .i64 0,.string ⟨#[]⟩] 59)):=below_new _ _
   have Z7 : Hid (Box (v0.alloc (.cells #[.string ⟨#[]⟩,.int .i64 0,.string ⟨#[]⟩] 59)) v0.heap.size 59 It.nil.arr):=hyq box_new
   have HB7 : Hid (vs.heap.size ≤ v0.heap.size):=hyq hH.size
   obtain ⟨v109,hv9⟩:=nmq ((v0.alloc (.cells #[.string ⟨#[]⟩,.int .i64 0,.string ⟨#[]⟩] 59)))
   refine hK.out _ _ (bch hH hba) (fun hH => ?_)
   clear hba
   rw [← hv9] at Z7 hH ⊢
   clear hv9
   obtain ⟨b8,hg9⟩:=nmq (v0.heap.size)
   rw [← hg9] at Z7 HB7 ⊢
   clear hg9
   try go_frame
   refine rd1 5 (fun K hK => ?_)
   ·go_simp
    refine (HGET.out _ hH).mono ?_
    rintro e v105 ⟨rfl,hba⟩
    have Z7:=hyq (Z7.out.on hba)
    refine hK.out _ _ (bch hH hba) (fun hH => ?_)
    clear hba
    try go_frame
    refine tk 6 hH ?_; try go_frame
    refine tk 7 hH ?_; try go_frame
    refine tk 8 hH ?_; try go_frame
    refine rd1 10 (fun K hK => ?_)
    ·refine wp_store_if (by rfl) 59 (.tmp 8) (.tmp 25) rfl b8 59 It.nil.arr x.arr rfl rfl Z7.out (info35 _) rfl (iarr_one _) ?_
     have Z8 : Hid (Box (v105.setRow b8 x.arr) b8 59 x.arr):=hyq (Z7.out.row _)
     refine hK.out _ _ (below_row hH HB7.out _) (fun hH => ?_)
     clear Z7
     (try simp only [Act.put])
     refine tk 11 hH ?_; try go_frame
     refine wpAnyH_done (by kernel_rfl) ?_ _
     simp only [Plainly]
     exact ⟨b8,_,_,_,_,_,_,_,_,_,rfl,Z8,hyq hH,HB7⟩
 ·rintro a' w2 ⟨b8,u18,u19,u20,u21,u22,u23,u24,u25,u26,rfl,Z8,HB,HB8⟩
  clear hv0 hvs HGET
  have c0 : w2.cell? ⟨b8,0,none⟩ = some (.string ⟨x.path.toArray⟩):=Z8.out.it.c0
  have c1 : w2.cell? ⟨b8,1,none⟩ = some (.int .i64 x.kind):=Z8.out.it.c1
  have c2 : w2.cell? ⟨b8,2,none⟩ = some (.string ⟨x.data.toArray⟩):=Z8.out.it.c2
  have f0:=frozen_of_row w2 b8 0 _ _ Z8.out
  obtain ⟨g0,hg0⟩:=nmq (w2.heap.size)
  obtain ⟨wB,hwB⟩:=nmq ((((w2.setCell ⟨b8,0,none⟩ (.string ⟨tgt.toArray⟩)).alloc (.cells #[.string ⟨tgt.toArray⟩,.int .i64 x.kind,.string ⟨x.data.toArray⟩] 59)).alloc (.cells #[.slice (some ⟨w2.heap.size,0,none⟩) 1 1] 22)))
  have hle2 : vs.heap.size ≤ w2.heap.size:=HB.out.size
  have Z9 : Hid (Box wB g0 59 (⟨tgt,x.kind,x.data⟩ : It).arr):=hyq (by
   rw [hwB,hg0,show w2.heap.size = (w2.setCell ⟨b8,0,none⟩ (.string ⟨tgt.toArray⟩)).heap.size from by simp]
   exact box_new.alloc _)
  have X10 : Hid (Box wB (g0 + 1) 22 #[.slice (some ⟨g0,0,none⟩) 1 1]):=hyq (by
   rw [hwB,hg0,show w2.heap.size + 1 = ((w2.setCell ⟨b8,0,none⟩ (.string ⟨tgt.toArray⟩)).alloc (.cells #[.string ⟨tgt.toArray⟩,.int .i64 x.kind,.string ⟨x.data.toArray⟩] 59)).heap.size from by simp]
   exact box_new)
  have HBB : Hid (Below vs.heap.size vs wB):=hyq (by
   rw [hwB]
   exact ((HB.out.setCell (p:=⟨b8,0,none⟩) HB8.out _).alloc (by simp; omega) _).alloc (by simp; omega) _)
  have HG0 : Hid (g0 = w2.heap.size):=hyq hg0
  have HLE : Hid (vs.heap.size ≤ g0):=hyq (by rw [hg0]; exact hle2)
  have HWB:=hyq hwB
  clear hg0 hwB hle2
  gi_wp2_with (refine ⟨trivial,?_⟩; gi_at_call 103; refine (callsIn_wide.2 (HNM.out _)).mono ?_; rintro e w7 ⟨vn,rfl,hown,hb⟩; rw [← HWB.out] at hb hown; obtain ⟨an,cn,rfl⟩:=own_len hown; have HON:=hyq hown; have HB7:=hyq hb; clear hown hb)
  obtain ⟨nn,hnn⟩:=nmq ((namesL tgt).length)
  rw [← HG0.out,← hnn]
  rw [← hnn] at HON
  obtain ⟨b11,hb11⟩:=nmq (w7.heap.size)
  obtain ⟨w8,hw8⟩:=nmq (w7.alloc (.cells #[.slice an nn cn] 69))
  have HB78 : Below w7.heap.size w7 w8:=by rw [hw8]; exact below_new _ _
  have X11 : Hid (Box w8 b11 69 #[.slice an nn cn]):=hyq (by rw [hw8,hb11]; exact box_new)
  have HBs : Hid (Below vs.heap.size vs w8):=hyq (bch HBB.out (bch HB7.out HB78))
  have HBB8 : Hid (Below wB.heap.size wB w8):=hyq (bch HB7.out HB78)
  have HON8 : Hid (w8.ownsRow wB.heap.size 9 1 (.slice an nn cn) nn ((namesL tgt).map encS)):=hyq (owns_below HON.out HB78)
  rw [← hb11,← hw8]
  have XG8 : Hid (Box w8 b 78 #[.slice a n c]):=hyq (XG.out.on HBs.out)
  have X48 : Hid (Box w8 b4 9 #[.string ⟨frm.toArray⟩]):=hyq (X4.out.on HBs.out)
  have HBE : Hid (∀ W,Calls Tryz.prog 104 #[.slice a n c,.string ⟨frm.toArray⟩] W fun e w' => e = .returned (.func (.func 120) #[] #[.pointer (some ⟨W.heap.size,0,none⟩),.pointer (some ⟨W.heap.size + 1,0,none⟩)]) ∧ (W.alloc (.cells #[.slice a n c] 22)).alloc (.cells #[.string ⟨frm.toArray⟩] 9) = w'):=hyq (fun W => ben_any a n c frm W)
  have HB11 : Hid (b11 = w7.heap.size):=hyq hb11
  have HNN:=hyq hnn
  clear c0 c1 c2 f0 hnn hb11 hw8 HB78 HON
  refine region_wide (S:=fun w' => Below w8.heap.size w8 w') (by kernel_rfl) (by kernel_rfl) (Below.refl _ _).drew (fun hH => ?_)
  obtain ⟨v8,hv8⟩:=nmq (World.drew w8)
  rw [← hv8] at hH ⊢
  have HV8:=hyq hv8
  clear hv8
  refine tk 0 hH ?_; try go_frame
  refine tk 1 hH ?_; try go_frame
  refine tk 2 hH ?_; try go_frame
  refine tkf 3 rfl (fun w hSw => by have p0 : w.cell? ⟨b,0,none⟩ = some (.slice a n c):=(XG8.out.on hSw).cell (k:=0) rfl; go_simp; try with_reducible rfl) hH ?_; try go_frame
  refine tkf 4 rfl (fun w hSw => by have p0 : w.cell? ⟨b4,0,none⟩ = some (.string ⟨frm.toArray⟩):=(X48.out.on hSw).cell (k:=0) rfl; go_simp; try with_reducible rfl) hH ?_; try go_frame
  refine rd1 5 (fun K hK => ?_)
  ·go_simp
   refine (HBE.out v8).mono ?_
   rintro e v15 ⟨rfl,hv15⟩
   have hba : Below v8.heap.size v8 v15:=by rw [← hv15]; exact bch (below_new _ _) (below_new _ _)
   have HV15:=hyq hv15
   clear hv15
   refine hK.out _ _ (bch hH hba) (fun hH => ?_)
   clear hba
   try go_frame
   refine wpAnyH_done (by kernel_rfl) ?_ _
   have HR15:=hyq hH
   clear hH
   simp only [Plainly]
   obtain ⟨b12,hb12⟩:=nmq (v8.heap.size)
   gi_wp2
   rw [← hb12]
   have hle3:=HLE.out
   have hsB : g0 + 1 < wB.heap.size:=X10.out.lt
   have hs8 : wB.heap.size ≤ w8.heap.size:=HBB8.out.size
   have hs12 : b12 ≤ w8.heap.size:=by rw [hb12,HV8.out]; exact Nat.le_refl _
   have hs12b : w8.heap.size ≤ b12:=by rw [hb12,HV8.out]; exact Nat.le_refl _
   have hs15 : v15.heap.size ≤ b12 + 2:=by rw [← HV15.out,hb12]; simp
   have hs15b : b12 + 2 ≤ v15.heap.size:=by rw [← HV15.out,hb12]; simp
   have hb11w : b11 < w8.heap.size:=X11.out.lt
   have hb11B : wB.heap.size ≤ b11:=by rw [HB11.out]; exact HB7.out.size
   have hb42 : b4 + 1 + 1 < vs.heap.size:=X7.out.lt
   have hsW : w.heap.size ≤ vs.heap.size:=HV2.out.size
   have hb4a : b4 ≤ w.heap.size:=Nat.le_of_eq HB4.out
   have hb4b : w.heap.size ≤ b4:=Nat.le_of_eq HB4.out.symm
   have HB15 : Hid (Below w8.heap.size w8 v15):=hyq HR15.out
   have HBw : Hid (Below w.heap.size w v15):=hyq (bch HV2.out (bch HBs.out HB15.out))
   have Y4 : Hid (Box v15 b4 9 #[.string ⟨frm.toArray⟩]):=hyq (X48.out.on HB15.out)
   have Y6 : Hid (Box v15 (b4 + 1) 22 #[.slice none 0 0]):=hyq ((X6.out.on HBs.out).on HB15.out)
   have Y7 : Hid (Box v15 (b4 + 1 + 1) 32 #[.int .i64 0]):=hyq ((X7.out.on HBs.out).on HB15.out)
   have Y10 : Hid (Box v15 (g0 + 1) 22 #[.slice (some ⟨g0,0,none⟩) 1 1]):=hyq ((X10.out.on HBB8.out).on HB15.out)
   have Y9 : Hid (Box v15 g0 59 (⟨tgt,x.kind,x.data⟩ : It).arr):=hyq ((Z9.out.on HBB8.out).on HB15.out)
   have Y11 : Hid (Box v15 b11 69 #[.slice an nn cn]):=hyq (X11.out.on HB15.out)
   have YG : Hid (Gr v15 B b (.slice a n c) l):=hyq ((HG.out.on HBs.out).on HB15.out)
   have YN : Hid (v15.ownsRow wB.heap.size 9 1 (.slice an nn cn) nn ((namesL tgt).map encS)):=hyq (owns_below HON8.out HB15.out)
   have X2 : Box v15 b12 22 #[.slice a n c]:=by rw [← HV15.out,hb12]; exact box_new.alloc _
   have X3 : Box v15 (b12 + 1) 9 #[.string ⟨frm.toArray⟩]:=by rw [← HV15.out,hb12,show v8.heap.size + 1 = (v8.alloc (.cells #[.slice a n c] 22)).heap.size from by simp]; exact box_new
   have hOG : ∀ k,(Value.slice a n c).ownBlock = some k → k < vs.heap.size:=fun k e => by
    rcases own_form HG.out.own with ⟨_,q⟩ | ⟨r,cc,_,_,hlt,q,_⟩
    ·rw [q] at e; cases e
    ·rw [q] at e; cases e; exact hlt
   have hON : ∀ k,(Value.slice an nn cn).ownBlock = some k → wB.heap.size ≤ k ∧ k < w8.heap.size:=fun k e => HON8.out.lt k e
   have hbB : b < vs.heap.size:=HG.out.box.lt
   clear hb12
   have h0 : mI v15 g0 (l:=l) frm tgt x [] v15:=⟨by simp,_,Y10.out,⟨flatI_len _,.inr ⟨g0,1,(⟨tgt,x.kind,x.data⟩ : It).arr,rfl,Nat.le_refl _,Y9.out,Nat.le_refl _,by decide,rfl,rfl⟩⟩,⟨rfl,rfl,rfl,Nat.le_refl _,fun _ _ _ _ => rfl,.inl rfl⟩⟩
   have HSS : Hid (∀ k,(k = b12 ∨ k = b12 + 1 ∨ (Value.slice a n c).ownBlock = some k) → k < v15.heap.size ∧ k ≠ g0 ∧ k ≠ g0 + 1):=hyq (fun k hk => by
    rcases hk with rfl | rfl | hk
    ·omega
    ·omega
    ·have:=hOG k hk; omega)
   refine wpIn_rangeFunc_ownH rfl (by omega) (gf:=120) (lb:=#[.pointer (some ⟨b12,0,none⟩),.pointer (some ⟨b12 + 1,0,none⟩)]) rfl trivial (enters_of Tryz.func120 (by kernel_rfl) rfl)
    (ben1_stops _ (by omega) b12 (b12 + 1) l (.slice a n c) frm v15 X2 X3 YG.out.rd (srt_of HOK.out) HOK.out.many (tree_sz HOK.out) hfl (fun k => k = b12 ∨ k = b12 + 1 ∨ (Value.slice a n c).ownBlock = some k) (fun k hk => (HSS.out k hk).1) (.inl rfl) (.inr (.inl rfl)) (fun g o n' c' e => .inr (.inr (by rw [e]; rfl)))) (fun h k => h.trans k)
    (fun W q o o' hq _ _ _ => lowk_put W q o' (fun hk => by have:=(HSS.out _ hk).1; omega)) (Below.refl _ _) (fun _ => rfl)
    (mI v15 g0 frm tgt x) (mX w b4 frm tgt) (mI_own v15 g0 frm tgt x) (mX_own w b4 frm tgt _ (by omega)) h0
    (fun y a' W => ∃ Bx,mA v15 g0 y.1 Bx W ∧ a' = { tmps:=#[.pointer (some ⟨b,0,none⟩),.string ⟨frm.toArray⟩,.string ⟨tgt.toArray⟩,undef,.pointer (some ⟨b4,0,none⟩),undef,.pointer (some ⟨b4 + 1,0,none⟩),.pointer (some ⟨b4 + 1 + 1,0,none⟩),.pointer (some ⟨b8,0,none⟩),.bool true,.pointer (some ⟨g0 + 1,0,none⟩),.pointer (some ⟨b11,0,none⟩),.int .i64 0,.pointer (some ⟨Bx,0,none⟩),undef,undef,undef,undef,u18,u19,u20,u21,u22,u23,u24,u25,u26,.string ⟨tgt.toArray⟩,.pointer (some ⟨b8,0,none⟩),.agg #[.string ⟨tgt.toArray⟩,.int .i64 x.kind,.string ⟨x.data.toArray⟩],.slice (some ⟨g0,0,none⟩) 1 1,.tuple #[.slice an nn cn,.int .i64 0],.string ⟨tgt.toArray⟩,.tuple #[.slice an nn cn,.int .i64 0],.slice an nn cn,.int .i64 0,.pointer (some ⟨b,0,none⟩),.pointer (some ⟨b,0,none⟩),.pointer (some ⟨b,0,none⟩),.slice a n c,.string ⟨frm.toArray⟩,.func (.func 120) #[] #[.pointer (some ⟨b12,0,none⟩),.pointer (some ⟨b12 + 1,0,none⟩)],.agg y.1.arr,undef,undef,undef,undef,undef,undef,undef,undef,undef,undef,undef,undef,undef,undef,undef,undef,undef,undef,undef,undef,undef,undef,undef,undef,undef],defers:=[] })
    ?own ?assign ?body ?done ?stop
   case own =>
    rintro y a' _ X Y row ⟨Bx,h1,h3⟩ hg hr
    exact ⟨Bx,mA_own (by omega) h1 hg hr,h3⟩
   case assign =>
    rintro q pre y X K ⟨h1,v10,hX,hO,hN⟩ hK
    have e1 : (.agg y.1.arr : Value) = .agg #[.string ⟨y.1.path.toArray⟩,.int .i64 y.1.kind,.string ⟨y.1.data.toArray⟩]:=rfl
    rw [e1]
    gi_wp2
    refine hK _ _ ((KeepsOthers.alloc _ _).from _) (fun k hk => Below.heap_alloc _ _ _ (by have:=(HSS.out k hk).1; have:=hN.size; omega)) ⟨h1,v10,hX.alloc _,hO.on (below_new _ _),hN.trans (Nxt.below (below_new _ _) _ _)⟩ ⟨X.heap.size,⟨hN.size,heap_alloc_new X _,fun v hv e => ?_⟩,rfl⟩
    have hv2:=(hX.alloc (.cells y.1.arr 59)).cell (k:=0) rfl
    obtain rfl:=Option.some.inj (hv2.symm.trans hv)
    exact own_apart hO e
   case body =>
    rintro q pre y a' W _ _ ⟨hall,v10,hX,hO,hN⟩ ⟨Bx,hA,rfl⟩ hlen
    obtain ⟨hyl,hyu,_⟩:=(below_mem (srt_of HOK.out) frm y.1).1 y.2
    have hyv:=(HOK.out.kid y.1 hyl).1.1
    have hypl : y.1.path.length ≤ 140737488355328:=Nat.le_trans (valid_len _ hyv) (by decide)
    have hVW:=hN.size
    have HMI : Hid (mI v15 g0 frm tgt x pre W):=hyq ⟨hall,v10,hX,hO,hN⟩
    obtain ⟨a1,n1,c1,rfl⟩:=own_any hO
    have keep15 : ∀ k,k < v15.heap.size → k ≠ g0 → k ≠ g0 + 1 → W.heap[k]? = v15.heap[k]?:=fun k h1 h2 h3 => hN.block k h1 h3 (fun e => h2 (by injection e with e; exact e.symm))
    have q4 : W.cell? ⟨b4,0,none⟩ = some (.string ⟨frm.toArray⟩):=(World.cell?_of_block (keep15 b4 (by omega) (by omega) (by omega))).trans (Y4.out.cell (k:=0) rfl)
    have W11 : Hid (Box W b11 69 #[.slice an nn cn]):=hyq ((keep15 b11 (by omega) (by omega) (by omega)).trans Y11.out)
    have WN : Hid (W.ownsRow wB.heap.size 9 1 (.slice an nn cn) nn ((namesL tgt).map encS)):=hyq (own9_far YN.out (fun k e => keep15 k (by have:=hON k e; omega) (by have:=hON k e; omega) (by have:=hON k e; omega)))
    have W6 : Hid (Box W (b4 + 1) 22 #[.slice none 0 0]):=hyq ((keep15 (b4 + 1) (by omega) (by omega) (by omega)).trans Y6.out)
    have W7 : Hid (Box W (b4 + 1 + 1) 32 #[.int .i64 0]):=hyq ((keep15 (b4 + 1 + 1) (by omega) (by omega) (by omega)).trans Y7.out)
    have WA:=hyq hA
    have WX:=hyq hX
    have WO:=hyq hO
    have WNX:=hyq hN
    have hBx1 : v15.heap.size ≤ Bx:=hA.1
    have hBx2 : Bx < W.heap.size:=hA.2.1.lt
    have hgx2 : g0 + 1 < W.heap.size:=hX.lt
    have hbW : Below w.heap.size w W:=⟨hN.os.trans HBw.out.os,hN.tape.trans HBw.out.tape,hN.output.trans HBw.out.output,Nat.le_trans HBw.out.size hN.size,fun k hk => (keep15 k (by omega) (by omega) (by omega)).trans (HBw.out.block k hk)⟩
    have HbW:=hyq hbW
    obtain ⟨t0,_,_⟩:=hA.2.1.it
    have hml : (mL frm tgt x pre).length ≤ 3000:=by
     have h1:=bel_le l frm
     have h2:=HOK.out.many
     simp [mL]
     omega
    have HML : Hid ((mL frm tgt x pre).length ≤ 3000):=hyq hml
    have HBN : Hid (∀ W',Calls Tryz.prog 105 #[.string ⟨y.1.path.toArray⟩,.string ⟨frm.toArray⟩] W' (BeneathYes y.1.path frm W')):=hyq (fun W' => beneath_yes ⟨y.1.path.toArray⟩ ⟨frm.toArray⟩ (by show y.1.path.toArray.size ≤ _; rw [List.size_toArray]; exact hypl) (by show frm.toArray.size ≤ _; rw [List.size_toArray]; exact hfl) hyu W')
    obtain ⟨R,hR⟩:=nmq ((namesL y.1.path).drop (namesL frm).length)
    have hRl : R.length ≤ 40:=by have:=(valid_names _ hyv).1; rw [hR,List.length_drop]; omega
    have htl40:=(valid_names _ hvt).1
    have HRR:=hyq hR
    have HRW : Hid (newN frm tgt y.1.path = namesL tgt ++ R):=hyq (by unfold newN; rw [hR])
    have HCAT : Hid (∀ W2 ab cb BB,W2.ownsRow wB.heap.size 9 1 (.slice an nn cn) nn ((namesL tgt).map encS) → W2.ownsRow BB 9 1 (.slice ab R.length cb) R.length (R.map encS) →
      Calls Tryz.prog 107 #[.slice (some ⟨W2.heap.size,0,none⟩) 2 2] (W2.alloc (.cells #[.slice an nn cn,.slice ab R.length cb] 69)) fun e w' => ∃ v' BC,e = .returned v' ∧ w'.ownsRow BC 9 1 v' (namesL tgt ++ R).length ((namesL tgt ++ R).map encS) ∧ Below W2.heap.size W2 w'):=hyq (fun W2 ab cb BB h1 h2 => by
     have e:=HNN.out
     rw [e] at h1 ⊢
     exact cat_two (namesL tgt) R an ab cn cb _ BB W2 h1 h2 (by omega))
    obtain ⟨L,hL⟩:=nmq (namesL tgt ++ R)
    have hLl : L.length ≤ 1000000:=by rw [hL,List.length_append]; omega
    rw [← hL] at HCAT HRW
    clear hall hX hO hN hA hR hyl hyu hyv hypl hbW hRl htl40 hml hL hOG hON hvf hvt keep15
    by_cases hp : partsB L = true
    ·have HOF : Hid (∀ BC v W4,W4.ownsRow BC 9 1 v L.length (L.map encS) → Calls Tryz.prog 106 #[v] W4 fun e w' => e = .returned (.tuple #[.string ⟨(joinL L).toArray⟩,.int .i64 0]) ∧ Below W4.heap.size W4 w'):=hyq (fun BC v W4 h1 => by
      refine (of_any L BC v W4 h1 hLl).mono fun e w' h2 => ?_
      unfold OfPost ofRes at h2
      rw [if_pos hp] at h2
      exact h2)
     have HP : Hid (partsB (newN frm tgt y.1.path) = true):=hyq (by rw [HRW.out]; exact hp)
     obtain ⟨i0,hi,hz0,hz1,hz2⟩:=info_parts info35z
     clear hp hLl
     gi_wp2_with (refine ⟨trivial,?_⟩; gi_at_call 105; refine (CallsIn.inRound q (callsIn_wide.2 (HBN.out _))).mono ?_; rintro e W2 ⟨vb,rfl,hown,hb⟩; rw [← HRR.out] at hown; obtain ⟨ab,cb,rfl⟩:=own_len hown; have HR2:=hyq hown; have HB2:=hyq hb; have HN2:=hyq (owns_below WN.out hb); have p11 : W2.cell? ⟨b11,0,none⟩ = some (.slice an nn cn):=(W11.out.on hb).cell (k:=0) rfl; clear hown hb)
     gi_wp2_with (refine ⟨trivial,?_⟩; gi_at_call 107; refine (CallsIn.inRound q (callsIn_wide.2 (HCAT.out W2 ab cb _ HN2.out HR2.out))).mono ?_; rintro e W4 ⟨v4,BC,rfl,hown4,hb4⟩; have HO4:=hyq hown4; have HB4':=hyq (bch HB2.out hb4); obtain ⟨a4,c4,rfl⟩:=own_len hown4; clear hown4 hb4)
     refine ⟨trivial,?_⟩
     refine (CallsIn.inRound q (callsIn_wide.2 (HOF.out BC _ W4 HO4.out))).mono ?_
     rintro e W5 ⟨rfl,hb5⟩
     have HB5:=hyq (bch HB4'.out hb5)
     clear hb5
     have ZB:=WA.out.2.1.on HB5.out
     have ZX:=WX.out.on HB5.out
     have f0:=frozen_of_row W5 Bx 0 _ _ ZB
     obtain ⟨s0,s1,s2⟩:=ZB.it
     have sx:=ZX.cell (k:=0) rfl
     have n1x : ¬ (g0 + 1 = Bx):=by omega
     have n2x : ¬ (Bx = g0 + 1):=by omega
     have hNEB : (Value.slice a1 n1 c1).ownBlock ≠ some Bx:=WA.out.2.2 _ (WX.out.cell (k:=0) rfl)
     have hNEG : (Value.slice a1 n1 c1).ownBlock ≠ some (g0 + 1):=fun e => by
      rcases WNX.out.row with h2 | h2
      ·have h3 : g0 + 1 = g0:=by rw [e] at h2; injection h2
       omega
      ·have:=h2 _ e; omega
     obtain ⟨Z,hZ⟩ : ∃ Z : It,Z = ⟨joinL L,y.1.kind,y.1.data⟩:=⟨_,rfl⟩
     have hZN : newI frm tgt y.1 = Z:=by rw [hZ]; unfold newI; rw [HRW.out]
     obtain ⟨W7e,hW7⟩:=nmq ((W5.setCell ⟨Bx,0,none⟩ (.string ⟨(joinL L).toArray⟩)).alloc (.cells #[.string ⟨(joinL L).toArray⟩,.int .i64 y.1.kind,.string ⟨y.1.data.toArray⟩] 59))
     have HOW : Hid (OwnI W7e g0 (.slice a1 n1 c1) (mL frm tgt x pre)):=hyq (by
      rw [hW7]
      exact ((WO.out.on HB5.out).far fun k hk => heap_setCell_other _ _ _ _ (fun h => hNEB (by rw [hk,h]))).on (below_new _ _))
     have HXE : Hid (Box W7e (g0 + 1) 22 #[.slice a1 n1 c1]):=hyq (by rw [hW7]; exact ((WX.out.on HB5.out).far (by show g0 + 1 ≠ Bx; omega) _).alloc _)
     have HZB : Hid (Box W7e W5.heap.size 59 Z.arr):=hyq (by
      rw [hW7,hZ,show W5.heap.size = (W5.setCell ⟨Bx,0,none⟩ (.string ⟨(joinL L).toArray⟩)).heap.size from by simp]
      exact box_new)
     have HNW : Hid (∀ (j : Nat) (u : Value),(flatI [Z])[j]? = some u → W7e.cell? ((⟨W5.heap.size,0,none⟩ : Addr).add j) = some u):=hyq (fun j u hu => by
      rw [add_to,Nat.zero_add]
      exact HZB.out.cell (by rw [← Array.getElem?_toList]; simpa [flatI,It.cells,It.arr] using hu))
     have HSZ7 : Hid (g0 ≤ W7e.heap.size):=hyq (by have:=HXE.out.lt; omega)
     have HFIN : Hid (∀ v' w',OwnI w' g0 v' (mL frm tgt x pre ++ [Z]) → W7e.grownBy w' (Value.slice a1 n1 c1).ownBlock → (v'.ownBlock = (Value.slice a1 n1 c1).ownBlock ∨ v'.ownBlock = some W7e.heap.size) →
       KeepsFrom v15.heap.size W (w'.setCell ⟨g0 + 1,0,none⟩ v') ∧ LowK (fun k => k = b12 ∨ k = b12 + 1 ∨ (Value.slice a n c).ownBlock = some k) W (w'.setCell ⟨g0 + 1,0,none⟩ v') ∧ mI v15 g0 frm tgt x (pre ++ [y]) (w'.setCell ⟨g0 + 1,0,none⟩ v')):=hyq (fun v' w' h1 h2 h3 => by
      rw [← hZN] at h1
      rw [hW7] at h2 h3
      exact mI_step HMI.out WX.out WO.out WNX.out WA.out (by omega) HB5.out _ HP.out h1 h2 h3 _ HSS.out)
     have HW7:=hyq hW7
     have HNG:=hyq hNEG
     clear ZB ZX hZ hZN hW7 hNEB hNEG
     gi_wp2_with (gi_at_builtin; rw [← HW7.out]; refine wpListIn_append_own_at _ rfl _ _ 22 rfl g0 59 i0 (.agg It.nil.arr) 3 40 Tryz.underlying22 hi hz0 hz1 hz2 rfl (by decide) _ _ _ rfl HOW.out ⟨W5.heap.size,0,none⟩ 1 1 (flatI [Z]) rfl rfl HNW.out (flatI_one _) (by have:=HML.out; unfold maxLen; omega) (by have:=HML.out; omega) HSZ7.out ?_; intro v' w' hown' hgrow _ hat; have HXw:=hyq (HXE.out.kept hgrow (fun e => HNG.out e.symm)); have hO' : OwnI w' g0 v' (mL frm tgt x pre ++ [Z]):=(by (unfold OwnI; rw [List.length_append,flatI_append]; exact hown')); have HM:=hyq (HFIN.out v' w' hO' hgrow hat); have xw:=HXw.out.cell (k:=0) rfl; have fw:=frozen_of_row w' (g0 + 1) 0 _ _ HXw.out; obtain ⟨aq,nq,cq,rfl⟩:=own_any hO'; clear hown' hgrow hat hO' s0 s1 s2 f0 sx p11; refine Hid.out ?_)
     refine hyq ?_
     gi_wp2
     exact ⟨HM.out.1,HM.out.2.1,HM.out.2.2⟩
    ·have HOF : Hid (∀ BC v W4,W4.ownsRow BC 9 1 v L.length (L.map encS) → Calls Tryz.prog 106 #[v] W4 fun e w' => e = .returned (.tuple #[.string ⟨#[]⟩,.int .i64 110]) ∧ Below W4.heap.size W4 w'):=hyq (fun BC v W4 h1 => by
      refine (of_any L BC v W4 h1 hLl).mono fun e w' h2 => ?_
      unfold OfPost ofRes at h2
      rw [if_neg hp] at h2
      exact h2)
     have HP : Hid (partsB (newN frm tgt y.1.path) = false):=hyq (by rw [HRW.out]; exact Bool.eq_false_iff.2 hp)
     clear hp hLl
     gi_wp2_with (refine ⟨trivial,?_⟩; gi_at_call 105; refine (CallsIn.inRound q (callsIn_wide.2 (HBN.out _))).mono ?_; rintro e W2 ⟨vb,rfl,hown,hb⟩; rw [← HRR.out] at hown; obtain ⟨ab,cb,rfl⟩:=own_len hown; have HR2:=hyq hown; have HB2:=hyq hb; have HN2:=hyq (owns_below WN.out hb); have p11 : W2.cell? ⟨b11,0,none⟩ = some (.slice an nn cn):=(W11.out.on hb).cell (k:=0) rfl; clear hown hb)
     gi_wp2_with (refine ⟨trivial,?_⟩; gi_at_call 107; refine (CallsIn.inRound q (callsIn_wide.2 (HCAT.out W2 ab cb _ HN2.out HR2.out))).mono ?_; rintro e W4 ⟨v4,BC,rfl,hown4,hb4⟩; have HO4:=hyq hown4; have HB4':=hyq (bch HB2.out hb4); obtain ⟨a4,c4,rfl⟩:=own_len hown4; clear hown4 hb4)
     refine ⟨trivial,?_⟩
     refine (CallsIn.inRound q (callsIn_wide.2 (HOF.out BC _ W4 HO4.out))).mono ?_
     rintro e W5 ⟨rfl,hb5⟩
     have HB5:=hyq (bch HB4'.out hb5)
     clear hb5
     have Z6:=W6.out.on HB5.out
     have Z7:=W7.out.on HB5.out
     have s6:=Z6.cell (k:=0) rfl
     have s7:=Z7.cell (k:=0) rfl
     have f6:=frozen_of_row W5 (b4 + 1) 0 _ _ Z6
     have f7:=frozen_of_row W5 (b4 + 1 + 1) 0 _ _ Z7
     have HZ6:=hyq Z6
     have HZ7:=hyq Z7
     clear Z6 Z7
     gi_wp2
     exact ⟨((kf_below HB5.out).trans ((KeepsOthers.setCell _ _ _).from _)).trans ((KeepsOthers.setCell _ _ _).from _),⟨rfl,y,by simp,HP.out⟩,(HZ6.out.set (k:=0) _).far (by show b4 + 1 ≠ b4 + 1 + 1; omega) _,(HZ7.out.far (by show b4 + 1 + 1 ≠ b4 + 1; omega) _).set (k:=0) _,
      ((bch HbW.out HB5.out).setCell (p:=⟨b4 + 1,0,none⟩) (by show w.heap.size ≤ b4 + 1; omega) _).setCell (p:=⟨b4 + 1 + 1,0,none⟩) (by show w.heap.size ≤ b4 + 1 + 1; omega) _⟩
   case done =>
    rintro D xs W hD rfl ⟨hall,v10,hX,hO,hN⟩ hK
    have keep15 : ∀ k,k < v15.heap.size → k ≠ g0 → k ≠ g0 + 1 → W.heap[k]? = v15.heap[k]?:=fun k h1 h2 h3 => hN.block k h1 h3 (fun e => h2 (by injection e with e; exact e.symm))
    have hVW:=hN.size
    have hbW : Below w.heap.size w W:=⟨hN.os.trans HBw.out.os,hN.tape.trans HBw.out.tape,hN.output.trans HBw.out.output,Nat.le_trans HBw.out.size hN.size,fun k hk => (keep15 k (by omega) (by omega) (by omega)).trans (HBw.out.block k hk)⟩
    have Z6 : Box W (b4 + 1) 22 #[.slice none 0 0]:=(keep15 (b4 + 1) (by omega) (by omega) (by omega)).trans Y6.out
    have Z7 : Box W (b4 + 1 + 1) 32 #[.int .i64 0]:=(keep15 (b4 + 1 + 1) (by omega) (by omega) (by omega)).trans Y7.out
    have hrow10 : ∀ k,v10.ownBlock = some k → k ≠ b4 + 1 ∧ k ≠ b4 + 1 + 1:=fun k e => by
     rcases hN.row with h2 | h2
     ·have h3 : k = g0:=by rw [e] at h2; injection h2
      omega
     ·have:=h2 _ e; omega
    have s6:=Z6.cell (k:=0) rfl
    have s7:=Z7.cell (k:=0) rfl
    have f6:=frozen_of_row W (b4 + 1) 0 _ _ Z6
    have f7:=frozen_of_row W (b4 + 1 + 1) 0 _ _ Z7
    have sx:=hX.cell (k:=0) rfl
    have hfit : fitsM l frm tgt = true:=by
     unfold fitsM
     rw [List.all_eq_true]
     intro z hz
     exact hall ⟨z,hz⟩ (List.mem_attach _ _)
    have hmv : mL frm tgt x (belowL l frm).attach = movedM l frm tgt x:=by
     unfold mL movedM
     congr 1
     rw [show (fun y : Ben l frm => newI frm tgt y.1) = newI frm tgt ∘ Subtype.val from rfl,← List.map_map,List.attach_map_subtype_val]
    obtain ⟨a1,n1,c1,rfl⟩:=own_any hO
    have hKs:=((KeepsOthers.setCell W ⟨b4 + 1,0,none⟩ (.slice a1 n1 c1)).trans (KeepsOthers.setCell _ ⟨b4 + 1 + 1,0,none⟩ (.int .i64 0)))
    have hK':=hKs.same D _ hK rfl
    have B6 : Box ((W.setCell ⟨b4 + 1,0,none⟩ (.slice a1 n1 c1)).setCell ⟨b4 + 1 + 1,0,none⟩ (.int .i64 0)) (b4 + 1) 22 #[.slice a1 n1 c1]:=(Z6.set (k:=0) _).far (by show b4 + 1 ≠ b4 + 1 + 1; omega) _
    have B7 : Box ((W.setCell ⟨b4 + 1,0,none⟩ (.slice a1 n1 c1)).setCell ⟨b4 + 1 + 1,0,none⟩ (.int .i64 0)) (b4 + 1 + 1) 32 #[.int .i64 0]:=(Z7.far (by show b4 + 1 + 1 ≠ b4 + 1; omega) _).set (k:=0) _
    have hO2 : OwnI ((W.setCell ⟨b4 + 1,0,none⟩ (.slice a1 n1 c1)).setCell ⟨b4 + 1 + 1,0,none⟩ (.int .i64 0)) g0 (.slice a1 n1 c1) (movedM l frm tgt x):=by
     rw [← hmv]
     exact hO.far fun k hk => (heap_setCell_other _ _ _ _ (hrow10 k hk).2).trans (heap_setCell_other _ _ _ _ (hrow10 k hk).1)
    have hbD:=(hbW.setCell (p:=⟨b4 + 1,0,none⟩) (by show w.heap.size ≤ b4 + 1; omega) (.slice a1 n1 c1)).setCell (p:=⟨b4 + 1 + 1,0,none⟩) (by show w.heap.size ≤ b4 + 1 + 1; omega) (.int .i64 0)
    have fin : ∀ W',W'.heap.size = ((W.setCell ⟨b4 + 1,0,none⟩ (.slice a1 n1 c1)).setCell ⟨b4 + 1 + 1,0,none⟩ (.int .i64 0)).heap.size → (∀ k,k ≠ D → W'.heap[k]? = ((W.setCell ⟨b4 + 1,0,none⟩ (.slice a1 n1 c1)).setCell ⟨b4 + 1 + 1,0,none⟩ (.int .i64 0)).heap[k]?) → Below w.heap.size w W' → MovedR l frm tgt x w (.returned (.tuple #[.slice a1 n1 c1,.int .i64 0])) W':=fun W' _ h2 h3 => by
     refine ⟨h3,.inl ⟨hfit,_,rfl,?_⟩⟩
     have hO3 : OwnI W' g0 (.slice a1 n1 c1) (movedM l frm tgt x):=hO2.far fun k hk => h2 k (fun e => by
      subst e
      rcases own_form hO2 with ⟨_,q⟩ | ⟨r,cc,_,_,_,q,cs,t,hcs⟩
      ·rw [q] at hk; cases hk
      ·rw [q] at hk; cases hk; rw [hcs] at hK'; cases hK')
     exact own_base hO3 (by omega)
    have FIN:=hyq fin
    have HB6:=hyq B6
    have HB7':=hyq B7
    have HKD:=hyq hK'
    have HBD:=hyq hbD
    clear fin B6 B7 hO2 hmv hfit hall hO hX hN keep15 hrow10 hKs hbD hbW Z6 Z7
    gi_wp2
    refine ⟨by simp,.inl ⟨_,_,rfl,run_takeDeferred HKD.out,?_⟩⟩
    have hc6:=cell_kept (HB6.out.cell (k:=0) rfl) (grownBy_putObj' _ D (.deferred none)) (fun r e => by cases e; exact ⟨_,HKD.out,rfl⟩)
    have hc7:=cell_kept (HB7'.out.cell (k:=0) rfl) (grownBy_putObj' _ D (.deferred none)) (fun r e => by cases e; exact ⟨_,HKD.out,rfl⟩)
    refine ⟨.tuple #[.slice a1 n1 c1,.int .i64 0],?_,?_⟩
    ·simp [results,Tryz.f90,go_sem,hc6,hc7]
    ·exact FIN.out _ (by simp) (fun k hk => World.putObj_heap_other hk) (HBD.out.trans (belowK_b (w:=w) (Nat.le_refl _) _ D _ _ (by omega) HKD.out rfl rfl))
   case stop =>
    rintro D cc pre W hD hpre ⟨⟨rfl,y,_,hbad⟩,h6,h7,hB⟩ hK
    have hfit : fitsM l frm tgt = false:=by
     rw [Bool.eq_false_iff]
     intro k
     unfold fitsM at k
     rw [List.all_eq_true] at k
     rw [k y.1 y.2] at hbad
     cases hbad
    have HF:=hyq hfit
    have hc60:=h6.cell
    have hc70:=h7.cell
    clear hbad hfit hpre
    gi_wp2
    refine ⟨by simp,.inl ⟨_,_,rfl,run_takeDeferred hK,?_⟩⟩
    have hc6:=cell_kept hc60 (grownBy_putObj' _ D (.deferred none)) (fun r e => by cases e; exact ⟨_,hK,rfl⟩)
    have hc7:=cell_kept hc70 (grownBy_putObj' _ D (.deferred none)) (fun r e => by cases e; exact ⟨_,hK,rfl⟩)
    refine ⟨.tuple #[.slice none 0 0,.int .i64 110],?_,?_⟩
    ·simp [results,Tryz.f90,go_sem,hc6,hc7]
    ·exact ⟨hB.trans (belowK_b (w:=w) (Nat.le_refl _) _ D _ _ (by omega) hK rfl rfl),.inr ⟨HF.out,rfl⟩⟩
end Go.Proofs.YtigopecainocgaaGreatDoor
