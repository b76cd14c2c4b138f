/- Proved here: behindEach of package disk: the closure over the disk, the operations, and where their run ends. -/
import Derived.Test.YtigopecainocgaaGreatDoorTK
import Derived.Test.YtigopecainocgaaGreatDoorDMA
set_option maxRecDepth 100000
set_option maxHeartbeats 32000000
namespace Go.Proofs.YtigopecainocgaaGreatDoor
open Go.RowKit Go.Shelf
theorem box_row_other {w : World} {g g' : Nat} {t t' : TypeId} {cs cs' : Array Value} (h : Box w g t cs) (h' : Box w g' t' cs') (ht : t ≠ t') (x : Array Value) : Box (w.setRow g' x) g t cs:=(setRow_other _ _ _ _ (fun e => by
 subst e
 have h2 : w.heap[g]? = _:=h'
 rw [show w.heap[g]? = _ from h] at h2
 cases h2
 exact ht rfl)).trans h
theorem box_set_other {w : World} {g g' k : Nat} {t t' : TypeId} {cs cs' : Array Value} (h : Box w g t cs) (h' : Box w g' t' cs') (ht : t ≠ t') (x : Value) : Box (w.setCell ⟨g',k,none⟩ x) g t cs:=h.far (p:=⟨g',k,none⟩) (fun e => by
 have e : g = g':=e
 subst e
 have h2 : w.heap[g]? = _:=h'
 rw [show w.heap[g]? = _ from h] at h2
 cases h2
 exact ht rfl) x
def EachR (iv wv : Value) (room : Int) (lv : Value) (free : Bool) (fine : Nat) (fault : Int) (w : World) (e : Ending) (w' : World) : Prop:=∃ bd bl bf bn be,e = .returned (.func (.func 81) #[] #[.pointer (some ⟨bd,0,none⟩),.pointer (some ⟨bl,0,none⟩),.pointer (some ⟨bf,0,none⟩),.pointer (some ⟨bn,0,none⟩),.pointer (some ⟨be,0,none⟩)]) ∧
 Caps w' bd bl bf bn be iv wv room lv free fine fault ∧ Below w.heap.size w w' ∧ (w.heap.size ≤ bd ∧ w.heap.size ≤ bl ∧ w.heap.size ≤ bf ∧ w.heap.size ≤ bn ∧ w.heap.size ≤ be)
theorem each_is (iv : Value) (wa : Option Addr) (wn wc : Nat) (room : Int) (t : List It) (tv : Value) (ops : List Opn) (lv : Value) (free : Bool) (w : World) (hw : wn ≤ 8000) (ht : RdI w tv t) (hval : validT t = true) (ho : RdO w lv ops) (hso : ∀ o ∈ ops,o.path.length ≤ 140737488355328 ∧ o.to.length ≤ 140737488355328) (hT : TabS w) :
  Calls Tryz.prog 58 #[.agg #[iv,.slice wa wn wc,.int .i64 room],.agg #[tv],lv,.bool free] w (EachR iv (.slice wa wn wc) room lv free (runM t (ops.take (8000 - wn))).2.1 (runM t (ops.take (8000 - wn))).2.2 w):=by
 obtain ⟨ta,tc,rfl,_⟩:=ht.open
 obtain ⟨la,lc,rfl,hlc,hcm,_⟩:=ho.open
 unfold maxLen at hcm
 obtain ⟨fine,hfine⟩:=nmq ((runM t (ops.take (8000 - wn))).2.1)
 obtain ⟨fault,hfault⟩:=nmq ((runM t (ops.take (8000 - wn))).2.2)
 obtain ⟨tn,htn⟩:=nmq (t.length)
 obtain ⟨m,hm⟩:=nmq (ops.length)
 obtain ⟨q,hq⟩:=nmq (min m (8000 - wn))
 rw [← htn] at ht
 rw [← hm] at ho hlc
 rw [← hfine,← hfault,← htn,← hm]
 obtain ⟨w1,hw1⟩:=nmq ((((w.alloc (.cells #[iv,.slice wa wn wc,.int .i64 room] 27)).alloc (.cells #[.slice ta tn tc] 24)).alloc (.cells #[.slice la m lc] 25)).alloc (.cells #[.bool free] 4))
 obtain ⟨bd,hbd⟩:=nmq (w.heap.size)
 obtain ⟨v0,hv0⟩:=nmq (World.drew w1)
 obtain ⟨vs,hvs⟩:=nmq (World.drew w1)
 have HB1 : Hid (Below w.heap.size w w1):=hyq (by rw [hw1]; exact bch (bch (bch (below_new _ _) (below_new _ _)) (below_new _ _)) (below_new _ _))
 have hbs : Below w1.heap.size w1 vs:=by rw [hvs]; exact (Below.refl _ _).drew
 have Y0 : Hid (Box vs bd 27 #[iv,.slice wa wn wc,.int .i64 room]):=hyq (Box.on (w:=w1) (by rw [hw1,hbd]; exact ((box_new.alloc _).alloc _).alloc _) hbs)
 have Y1 : Hid (Box vs (bd + 1) 24 #[.slice ta tn tc]):=hyq (Box.on (w:=w1) (by rw [hw1,hbd,show w.heap.size + 1 = (w.alloc (.cells #[iv,.slice wa wn wc,.int .i64 room] 27)).heap.size from by simp]; exact (box_new.alloc _).alloc _) hbs)
 have Y2 : Hid (Box vs (bd + 1 + 1) 25 #[.slice la m lc]):=hyq (Box.on (w:=w1) (by rw [hw1,hbd,show w.heap.size + 1 + 1 = ((w.alloc (.cells #[iv,.slice wa wn wc,.int .i64 room] 27)).alloc (.cells #[.slice ta tn tc] 24)).heap.size from by simp]; exact box_new.alloc _) hbs)
 have Y3 : Hid (Box vs (bd + 1 + 1 + 1) 4 #[.bool free]):=hyq (Box.on (w:=w1) (by rw [hw1,hbd,show w.heap.size + 1 + 1 + 1 = (((w.alloc (.cells #[iv,.slice wa wn wc,.int .i64 room] 27)).alloc (.cells #[.slice ta tn tc] 24)).alloc (.cells #[.slice la m lc] 25)).heap.size from by simp]; exact box_new) hbs)
 have HBV : Hid (Below w.heap.size w vs):=hyq (bch HB1.out hbs)
 have htk : ops.take q = ops.take (8000 - wn):=by rw [List.take_eq_take_iff]; omega
 have HRU : Hid (∀ W,Below vs.heap.size vs W → Calls Tryz.prog 25 #[.agg #[.slice ta tn tc],.slice la q lc] W fun e w' => Below W.heap.size W w' ∧ ∃ va vn vc,e = .returned (.tuple #[.agg #[.slice va vn vc],.int .i64 fine,.int .i64 fault])):=hyq (fun W hW => by
  have hto : RdO W (.slice la q lc) (ops.take q):=RdO.take hm ((ho.on HBV.out).on hW) q (by omega)
  have htt : RdI W (.slice ta tn tc) t:=(ht.on HBV.out).on hW
  rw [htk] at hto
  refine (run_any t _ (ops.take (8000 - wn)) _ W htt (tree_sz (tree_ok hval)) hto (fun o h => hso o (List.mem_of_mem_take h)) ((hT.on HBV.out).on hW)).mono fun e w' ⟨hb,hc⟩ => ⟨hb,?_⟩
  rcases hc with ⟨h0,_⟩ | ⟨_,v',he,hown⟩
  ·rw [hval] at h0; cases h0
  ·obtain ⟨a,n,c,rfl⟩:=own_any hown
   exact ⟨a,n,c,by rw [he,hfine,hfault]⟩)
 have FIN : Hid (∀ b10 b11 W,Box W b10 3 #[.int .i64 fine] → Box W b11 32 #[.int .i64 fault] → vs.heap.size ≤ b10 → vs.heap.size ≤ b11 → Below vs.heap.size vs W → EachR iv (.slice wa wn wc) room (.slice la m lc) free fine fault w (.returned (.func (.func 81) #[] #[.pointer (some ⟨bd,0,none⟩),.pointer (some ⟨bd + 1 + 1,0,none⟩),.pointer (some ⟨bd + 1 + 1 + 1,0,none⟩),.pointer (some ⟨b10,0,none⟩),.pointer (some ⟨b11,0,none⟩)])) W):=hyq (fun b10 b11 W h1 h2 h3 h4 hb => by
  have hbb : w.heap.size = bd:=hbd.symm
  have:=HBV.out.size
  exact ⟨bd,bd + 1 + 1,bd + 1 + 1 + 1,b10,b11,rfl,⟨Y0.out.on hb,Y2.out.on hb,Y3.out.on hb,h1,h2⟩,bch HBV.out hb,by omega,by omega,by omega,by omega,by omega⟩)
 have k0 : (0 : Int) ≤ (q : Int):=by omega
 have k1 : (q : Int) ≤ (lc : Int):=by omega
 have k2 : min (m : Int) (8000 - (wn : Int)) = (q : Int):=by omega
 have k5 : IntKind.i64.wrap (8000 - (wn : Int)) = 8000 - (wn : Int):=IntWalk.i64_in _ (by omega)
 have k3 : (wn : Int) ≤ 8000:=by omega
 have k4 : (m : Int) ≤ 9223372036854775807:=by omega
 have hcI : (lc : Int) ≤ 9223372036854775807:=by omega
 clear ht hval ho hso hT hfine hfault htn hm hq htk hlc hcm hw hbs
 go_enter Tryz.func58,Tryz.ntmps58
 go_upto_region 1 with fail
 rw [← hw1,← hbd]
 clear hw1 hbd HB1
 refine wp_region_held_drew (S:=fun w' => Below vs.heap.size vs w') (by kernel_rfl) (by rw [hvs]; exact Below.refl _ _) (fun hH => ?_)
 rw [← hv0] at hH ⊢
 clear hv0 hvs
 refine tkf 0 rfl (fun w hSw => by have p0 : w.cell? ⟨bd + 1,0,none⟩ = some (.slice ta tn tc):=(Y1.out.on hSw).cell (k:=0) rfl; go_simp; try with_reducible rfl) hH ?_; try go_frame
 refine tkf 1 rfl (fun w hSw => by have p0 : w.cell? ⟨bd + 1 + 1,0,none⟩ = some (.slice la m lc):=(Y2.out.on hSw).cell (k:=0) rfl; go_simp; try with_reducible rfl) hH ?_; try go_frame
 refine tkf 2 rfl (fun w hSw => by have p0 : w.cell? ⟨bd + 1 + 1,0,none⟩ = some (.slice la m lc):=(Y2.out.on hSw).cell (k:=0) rfl; go_simp; try with_reducible rfl) hH ?_; try go_frame
 refine tk 3 hH ?_; try go_frame
 refine tk 4 hH ?_; try go_frame
 refine tkf 5 rfl (fun w hSw => by have p0 : w.cell? ⟨bd,1,none⟩ = some (.slice wa wn wc):=(Y0.out.on hSw).cell (k:=1) rfl; go_simp; try with_reducible rfl) hH ?_; try go_frame
 refine tk 6 hH ?_; try go_frame
 refine tk 7 hH ?_; try go_frame
 refine tk 8 hH ?_; try go_frame
 refine tk 9 hH ?_; try go_frame
 refine wpAnyH_ready (rs:=[10,15,16,17]) (by kernel_rfl) (by simp) (AllReadyH.cons rfl (fun K hK => ?_) (AllReadyH.cons rfl (fun K hK => ?_) (AllReadyH.cons rfl (fun K hK => ?_) (AllReadyH.cons rfl (fun K hK => ?_) AllReadyH.nil))))
 ·go_simp
  refine (HRU.out _ hH).mono ?_
  rintro e v110 ⟨hba,va,vn,vc,rfl⟩
  refine hK.out _ _ (bch hH hba) (fun hH => ?_); clear hba; (try go_frame); refine tk 11 hH ?_; (try go_frame); refine tk 12 hH ?_; (try go_frame); refine tk 13 hH ?_; (try go_frame); refine tk 14 hH ?_; try go_frame
  refine wpAnyH_ready (rs:=[15,16,17]) (by kernel_rfl) (by simp) (AllReadyH.cons rfl (fun K hK => ?_) (AllReadyH.cons rfl (fun K hK => ?_) (AllReadyH.cons rfl (fun K hK => ?_) AllReadyH.nil)))
  ·go_simp
   have hba : Below v110.heap.size v110 (v110.alloc (.cells #[.slice none 0 0] 24)):=below_new _ _
   have Z9 : Hid (Box (v110.alloc (.cells #[.slice none 0 0] 24)) v110.heap.size 24 #[.slice none 0 0]):=hyq box_new
   have HG9 : Hid (vs.heap.size ≤ v110.heap.size):=hyq hH.size
   obtain ⟨v115,hv9⟩:=nmq ((v110.alloc (.cells #[.slice none 0 0] 24)))
   refine hK.out _ _ (bch hH hba) (fun hH => ?_); clear hba
   rw [← hv9] at Z9 hH ⊢
   clear hv9
   obtain ⟨b9,hg9⟩:=nmq (v110.heap.size)
   rw [← hg9] at Z9 HG9 ⊢
   clear hg9
   try go_frame
   refine rd2 16 17 (fun K hK => ?_) (fun K hK => ?_)
   ·go_simp
    have hba : Below v115.heap.size v115 (v115.alloc (.cells #[.int .i64 0] 3)):=below_new _ _
    have Z10 : Hid (Box (v115.alloc (.cells #[.int .i64 0] 3)) v115.heap.size 3 #[.int .i64 0]):=hyq box_new
    have HG10 : Hid (vs.heap.size ≤ v115.heap.size):=hyq hH.size
    have Z9:=hyq (Z9.out.on hba)
    obtain ⟨v116,hv9⟩:=nmq ((v115.alloc (.cells #[.int .i64 0] 3)))
    refine hK.out _ _ (bch hH hba) (fun hH => ?_); clear hba
    rw [← hv9] at Z9 Z10 hH ⊢
    clear hv9
    obtain ⟨b10,hg9⟩:=nmq (v115.heap.size)
    rw [← hg9] at Z10 HG10 ⊢
    clear hg9
    try go_frame
    refine rd1 17 (fun K hK => ?_)
    ·go_simp
     have hba : Below v116.heap.size v116 (v116.alloc (.cells #[.int .i64 0] 32)):=below_new _ _
     have Z11 : Hid (Box (v116.alloc (.cells #[.int .i64 0] 32)) v116.heap.size 32 #[.int .i64 0]):=hyq box_new
     have HG11 : Hid (vs.heap.size ≤ v116.heap.size):=hyq hH.size
     have Z9:=hyq (Z9.out.on hba)
     have Z10:=hyq (Z10.out.on hba)
     obtain ⟨v117,hv9⟩:=nmq ((v116.alloc (.cells #[.int .i64 0] 32)))
     refine hK.out _ _ (bch hH hba) (fun hH => ?_); clear hba
     rw [← hv9] at Z9 Z10 Z11 hH ⊢
     clear hv9
     obtain ⟨b11,hg9⟩:=nmq (v116.heap.size)
     rw [← hg9] at Z11 HG11 ⊢
     clear hg9
     try go_frame
     refine rd1 18 (fun K hK => ?_)
     ·refine wp_store_if (by rfl) 24 (.tmp 9) (.tmp 24) rfl b9 24 #[.slice none 0 0] #[.slice va vn vc] rfl rfl Z9.out (info24 _) rfl (slice_one _ _ _) ?_
      have Z9' : Hid (Box (v117.setRow b9 #[.slice va vn vc]) b9 24 #[.slice va vn vc]):=hyq (Z9.out.row _)
      have Z10' : Hid (Box (v117.setRow b9 #[.slice va vn vc]) b10 3 _):=hyq (box_row_other Z10.out Z9.out (by decide) _)
      have Z11' : Hid (Box (v117.setRow b9 #[.slice va vn vc]) b11 32 _):=hyq (box_row_other Z11.out Z9.out (by decide) _)
      refine hK.out _ _ (below_row hH HG9.out _) (fun hH => ?_)
      clear Z9 Z10 Z11
      have Z9:=Z9'
      have Z10:=Z10'
      have Z11:=Z11'
      clear Z9' Z10' Z11'
      obtain ⟨v118,hv9⟩:=nmq ((v117.setRow b9 #[.slice va vn vc]))
      rw [← hv9] at Z9 Z10 Z11 hH ⊢
      clear hv9
      try go_frame
      refine rd1 19 (fun K hK => ?_)
      ·have cc : v118.cell? ⟨b10,0,none⟩ = some _:=Z10.out.cell (k:=0) rfl
       have cf:=frozen_of_row v118 b10 0 _ _ Z10.out
       go_simp
       have Z10' : Hid (Box (v118.setCell ⟨b10,0,none⟩ (.int .i64 fine)) b10 3 #[.int .i64 fine]):=hyq (Z10.out.set (k:=0) _)
       have Z9' : Hid (Box (v118.setCell ⟨b10,0,none⟩ (.int .i64 fine)) b9 24 _):=hyq (box_set_other Z9.out Z10.out (by decide) _)
       have Z11' : Hid (Box (v118.setCell ⟨b10,0,none⟩ (.int .i64 fine)) b11 32 _):=hyq (box_set_other Z11.out Z10.out (by decide) _)
       refine hK.out _ _ (hH.setCell (p:=⟨b10,0,none⟩) HG10.out _) (fun hH => ?_)
       clear cc cf
       clear Z9 Z10 Z11
       have Z9:=Z9'
       have Z10:=Z10'
       have Z11:=Z11'
       clear Z9' Z10' Z11'
       obtain ⟨v119,hv9⟩:=nmq ((v118.setCell ⟨b10,0,none⟩ (.int .i64 fine)))
       rw [← hv9] at Z9 Z10 Z11 hH ⊢
       clear hv9
       try go_frame
       refine rd1 20 (fun K hK => ?_)
       ·have cc : v119.cell? ⟨b11,0,none⟩ = some _:=Z11.out.cell (k:=0) rfl
        have cf:=frozen_of_row v119 b11 0 _ _ Z11.out
        go_simp
        have Z11' : Hid (Box (v119.setCell ⟨b11,0,none⟩ (.int .i64 fault)) b11 32 #[.int .i64 fault]):=hyq (Z11.out.set (k:=0) _)
        have Z9' : Hid (Box (v119.setCell ⟨b11,0,none⟩ (.int .i64 fault)) b9 24 _):=hyq (box_set_other Z9.out Z11.out (by decide) _)
        have Z10' : Hid (Box (v119.setCell ⟨b11,0,none⟩ (.int .i64 fault)) b10 3 _):=hyq (box_set_other Z10.out Z11.out (by decide) _)
        refine hK.out _ _ (hH.setCell (p:=⟨b11,0,none⟩) HG11.out _) (fun hH => ?_)
        clear cc cf
        clear Z9 Z10 Z11
        have Z9:=Z9'
        have Z10:=Z10'
        have Z11:=Z11'
        clear Z9' Z10' Z11'
        obtain ⟨v120,hv9⟩:=nmq ((v119.setCell ⟨b11,0,none⟩ (.int .i64 fault)))
        rw [← hv9] at Z9 Z10 Z11 hH ⊢
        clear hv9
        (try go_frame); refine wpAnyH_done (by kernel_rfl) ?_ _
        have HH:=hyq hH
        clear hH
        go_wp2_with fail
        go_ret
        exact FIN.out _ _ _ Z10.out Z11.out HG10.out HG11.out HH.out
   ·go_simp
    have hba : Below v115.heap.size v115 (v115.alloc (.cells #[.int .i64 0] 32)):=below_new _ _
    have Z11 : Hid (Box (v115.alloc (.cells #[.int .i64 0] 32)) v115.heap.size 32 #[.int .i64 0]):=hyq box_new
    have HG11 : Hid (vs.heap.size ≤ v115.heap.size):=hyq hH.size
    have Z9:=hyq (Z9.out.on hba)
    obtain ⟨v117,hv9⟩:=nmq ((v115.alloc (.cells #[.int .i64 0] 32)))
    refine hK.out _ _ (bch hH hba) (fun hH => ?_); clear hba
    rw [← hv9] at Z9 Z11 hH ⊢
    clear hv9
    obtain ⟨b11,hg9⟩:=nmq (v115.heap.size)
    rw [← hg9] at Z11 HG11 ⊢
    clear hg9
    try go_frame
    refine rd1 16 (fun K hK => ?_)
    ·go_simp
     have hba : Below v117.heap.size v117 (v117.alloc (.cells #[.int .i64 0] 3)):=below_new _ _
     have Z10 : Hid (Box (v117.alloc (.cells #[.int .i64 0] 3)) v117.heap.size 3 #[.int .i64 0]):=hyq box_new
     have HG10 : Hid (vs.heap.size ≤ v117.heap.size):=hyq hH.size
     have Z9:=hyq (Z9.out.on hba)
     have Z11:=hyq (Z11.out.on hba)
     obtain ⟨v116,hv9⟩:=nmq ((v117.alloc (.cells #[.int .i64 0] 3)))
     refine hK.out _ _ (bch hH hba) (fun hH => ?_); clear hba
     rw [← hv9] at Z9 Z11 Z10 hH ⊢
     clear hv9
     obtain ⟨b10,hg9⟩:=nmq (v117.heap.size)
     rw [← hg9] at Z10 HG10 ⊢
     clear hg9
     try go_frame
     refine rd1 18 (fun K hK => ?_)
     ·refine wp_store_if (by rfl) 24 (.tmp 9) (.tmp 24) rfl b9 24 #[.slice none 0 0] #[.slice va vn vc] rfl rfl Z9.out (info24 _) rfl (slice_one _ _ _) ?_
      have Z9' : Hid (Box (v116.setRow b9 #[.slice va vn vc]) b9 24 #[.slice va vn vc]):=hyq (Z9.out.row _)
      have Z10' : Hid (Box (v116.setRow b9 #[.slice va vn vc]) b10 3 _):=hyq (box_row_other Z10.out Z9.out (by decide) _)
      have Z11' : Hid (Box (v116.setRow b9 #[.slice va vn vc]) b11 32 _):=hyq (box_row_other Z11.out Z9.out (by decide) _)
      refine hK.out _ _ (below_row hH HG9.out _) (fun hH => ?_)
      clear Z9 Z10 Z11
      have Z9:=Z9'
      have Z10:=Z10'
      have Z11:=Z11'
      clear Z9' Z10' Z11'
      obtain ⟨v118,hv9⟩:=nmq ((v116.setRow b9 #[.slice va vn vc]))
      rw [← hv9] at Z9 Z10 Z11 hH ⊢
      clear hv9
      try go_frame
      refine rd1 19 (fun K hK => ?_)
      ·have cc : v118.cell? ⟨b10,0,none⟩ = some _:=Z10.out.cell (k:=0) rfl
       have cf:=frozen_of_row v118 b10 0 _ _ Z10.out
       go_simp
       have Z10' : Hid (Box (v118.setCell ⟨b10,0,none⟩ (.int .i64 fine)) b10 3 #[.int .i64 fine]):=hyq (Z10.out.set (k:=0) _)
       have Z9' : Hid (Box (v118.setCell ⟨b10,0,none⟩ (.int .i64 fine)) b9 24 _):=hyq (box_set_other Z9.out Z10.out (by decide) _)
       have Z11' : Hid (Box (v118.setCell ⟨b10,0,none⟩ (.int .i64 fine)) b11 32 _):=hyq (box_set_other Z11.out Z10.out (by decide) _)
       refine hK.out _ _ (hH.setCell (p:=⟨b10,0,none⟩) HG10.out _) (fun hH => ?_)
       clear cc cf
       clear Z9 Z10 Z11
       have Z9:=Z9'
       have Z10:=Z10'
       have Z11:=Z11'
       clear Z9' Z10' Z11'
       obtain ⟨v119,hv9⟩:=nmq ((v118.setCell ⟨b10,0,none⟩ (.int .i64 fine)))
       rw [← hv9] at Z9 Z10 Z11 hH ⊢
       clear hv9
       try go_frame
       refine rd1 20 (fun K hK => ?_)
       ·have cc : v119.cell? ⟨b11,0,none⟩ = some _:=Z11.out.cell (k:=0) rfl
        have cf:=frozen_of_row v119 b11 0 _ _ Z11.out
        go_simp
        have Z11' : Hid (Box (v119.setCell ⟨b11,0,none⟩ (.int .i64 fault)) b11 32 #[.int .i64 fault]):=hyq (Z11.out.set (k:=0) _)
        have Z9' : Hid (Box (v119.setCell ⟨b11,0,none⟩ (.int .i64 fault)) b9 24 _):=hyq (box_set_other Z9.out Z11.out (by decide) _)
        have Z10' : Hid (Box (v119.setCell ⟨b11,0,none⟩ (.int .i64 fault)) b10 3 _):=hyq (box_set_other Z10.out Z11.out (by decide) _)
        refine hK.out _ _ (hH.setCell (p:=⟨b11,0,none⟩) HG11.out _) (fun hH => ?_)
        clear cc cf
        clear Z9 Z10 Z11
        have Z9:=Z9'
        have Z10:=Z10'
        have Z11:=Z11'
        clear Z9' Z10' Z11'
        obtain ⟨v120,hv9⟩:=nmq ((v119.setCell ⟨b11,0,none⟩ (.int .i64 fault)))
        rw [← hv9] at Z9 Z10 Z11 hH ⊢
        clear hv9
        (try go_frame); refine wpAnyH_done (by kernel_rfl) ?_ _
        have HH:=hyq hH
        clear hH
        go_wp2_with fail
        go_ret
        exact FIN.out _ _ _ Z10.out Z11.out HG10.out HG11.out HH.out
  ·go_simp
   have hba : Below v110.heap.size v110 (v110.alloc (.cells #[.int .i64 0] 3)):=below_new _ _
   have Z10 : Hid (Box (v110.alloc (.cells #[.int .i64 0] 3)) v110.heap.size 3 #[.int .i64 0]):=hyq box_new
   have HG10 : Hid (vs.heap.size ≤ v110.heap.size):=hyq hH.size
   obtain ⟨v116,hv9⟩:=nmq ((v110.alloc (.cells #[.int .i64 0] 3)))
   refine hK.out _ _ (bch hH hba) (fun hH => ?_); clear hba
   rw [← hv9] at Z10 hH ⊢
   clear hv9
   obtain ⟨b10,hg9⟩:=nmq (v110.heap.size)
   rw [← hg9] at Z10 HG10 ⊢
   clear hg9
   try go_frame
   refine rd2 15 17 (fun K hK => ?_) (fun K hK => ?_)
   ·go_simp
    have hba : Below v116.heap.size v116 (v116.alloc (.cells #[.slice none 0 0] 24)):=below_new _ _
    have Z9 : Hid (Box (v116.alloc (.cells #[.slice none 0 0] 24)) v116.heap.size 24 #[.slice none 0 0]):=hyq box_new
    have HG9 : Hid (vs.heap.size ≤ v116.heap.size):=hyq hH.size
    have Z10:=hyq (Z10.out.on hba)
    obtain ⟨v115,hv9⟩:=nmq ((v116.alloc (.cells #[.slice none 0 0] 24)))
    refine hK.out _ _ (bch hH hba) (fun hH => ?_); clear hba
    rw [← hv9] at Z10 Z9 hH ⊢
    clear hv9
    obtain ⟨b9,hg9⟩:=nmq (v116.heap.size)
    rw [← hg9] at Z9 HG9 ⊢
    clear hg9
    try go_frame
    refine rd1 17 (fun K hK => ?_)
    ·go_simp
     have hba : Below v115.heap.size v115 (v115.alloc (.cells #[.int .i64 0] 32)):=below_new _ _
     have Z11 : Hid (Box (v115.alloc (.cells #[.int .i64 0] 32)) v115.heap.size 32 #[.int .i64 0]):=hyq box_new
     have HG11 : Hid (vs.heap.size ≤ v115.heap.size):=hyq hH.size
     have Z9:=hyq (Z9.out.on hba)
     have Z10:=hyq (Z10.out.on hba)
     obtain ⟨v117,hv9⟩:=nmq ((v115.alloc (.cells #[.int .i64 0] 32)))
     refine hK.out _ _ (bch hH hba) (fun hH => ?_); clear hba
     rw [← hv9] at Z9 Z10 Z11 hH ⊢
     clear hv9
     obtain ⟨b11,hg9⟩:=nmq (v115.heap.size)
     rw [← hg9] at Z11 HG11 ⊢
     clear hg9
     try go_frame
     refine rd1 18 (fun K hK => ?_)
     ·refine wp_store_if (by rfl) 24 (.tmp 9) (.tmp 24) rfl b9 24 #[.slice none 0 0] #[.slice va vn vc] rfl rfl Z9.out (info24 _) rfl (slice_one _ _ _) ?_
      have Z9' : Hid (Box (v117.setRow b9 #[.slice va vn vc]) b9 24 #[.slice va vn vc]):=hyq (Z9.out.row _)
      have Z10' : Hid (Box (v117.setRow b9 #[.slice va vn vc]) b10 3 _):=hyq (box_row_other Z10.out Z9.out (by decide) _)
      have Z11' : Hid (Box (v117.setRow b9 #[.slice va vn vc]) b11 32 _):=hyq (box_row_other Z11.out Z9.out (by decide) _)
      refine hK.out _ _ (below_row hH HG9.out _) (fun hH => ?_)
      clear Z9 Z10 Z11
      have Z9:=Z9'
      have Z10:=Z10'
      have Z11:=Z11'
      clear Z9' Z10' Z11'
      obtain ⟨v118,hv9⟩:=nmq ((v117.setRow b9 #[.slice va vn vc]))
      rw [← hv9] at Z9 Z10 Z11 hH ⊢
      clear hv9
      try go_frame
      refine rd1 19 (fun K hK => ?_)
      ·have cc : v118.cell? ⟨b10,0,none⟩ = some _:=Z10.out.cell (k:=0) rfl
       have cf:=frozen_of_row v118 b10 0 _ _ Z10.out
       go_simp
       have Z10' : Hid (Box (v118.setCell ⟨b10,0,none⟩ (.int .i64 fine)) b10 3 #[.int .i64 fine]):=hyq (Z10.out.set (k:=0) _)
       have Z9' : Hid (Box (v118.setCell ⟨b10,0,none⟩ (.int .i64 fine)) b9 24 _):=hyq (box_set_other Z9.out Z10.out (by decide) _)
       have Z11' : Hid (Box (v118.setCell ⟨b10,0,none⟩ (.int .i64 fine)) b11 32 _):=hyq (box_set_other Z11.out Z10.out (by decide) _)
       refine hK.out _ _ (hH.setCell (p:=⟨b10,0,none⟩) HG10.out _) (fun hH => ?_)
       clear cc cf
       clear Z9 Z10 Z11
       have Z9:=Z9'
       have Z10:=Z10'
       have Z11:=Z11'
       clear Z9' Z10' Z11'
       obtain ⟨v119,hv9⟩:=nmq ((v118.setCell ⟨b10,0,none⟩ (.int .i64 fine)))
       rw [← hv9] at Z9 Z10 Z11 hH ⊢
       clear hv9
       try go_frame
       refine rd1 20 (fun K hK => ?_)
       ·have cc : v119.cell? ⟨b11,0,none⟩ = some _:=Z11.out.cell (k:=0) rfl
        have cf:=frozen_of_row v119 b11 0 _ _ Z11.out
        go_simp
        have Z11' : Hid (Box (v119.setCell ⟨b11,0,none⟩ (.int .i64 fault)) b11 32 #[.int .i64 fault]):=hyq (Z11.out.set (k:=0) _)
        have Z9' : Hid (Box (v119.setCell ⟨b11,0,none⟩ (.int .i64 fault)) b9 24 _):=hyq (box_set_other Z9.out Z11.out (by decide) _)
        have Z10' : Hid (Box (v119.setCell ⟨b11,0,none⟩ (.int .i64 fault)) b10 3 _):=hyq (box_set_other Z10.out Z11.out (by decide) _)
        refine hK.out _ _ (hH.setCell (p:=⟨b11,0,none⟩) HG11.out _) (fun hH => ?_)
        clear cc cf
        clear Z9 Z10 Z11
        have Z9:=Z9'
        have Z10:=Z10'
        have Z11:=Z11'
        clear Z9' Z10' Z11'
        obtain ⟨v120,hv9⟩:=nmq ((v119.setCell ⟨b11,0,none⟩ (.int .i64 fault)))
        rw [← hv9] at Z9 Z10 Z11 hH ⊢
        clear hv9
        (try go_frame); refine wpAnyH_done (by kernel_rfl) ?_ _
        have HH:=hyq hH
        clear hH
        go_wp2_with fail
        go_ret
        exact FIN.out _ _ _ Z10.out Z11.out HG10.out HG11.out HH.out
   ·go_simp
    have hba : Below v116.heap.size v116 (v116.alloc (.cells #[.int .i64 0] 32)):=below_new _ _
    have Z11 : Hid (Box (v116.alloc (.cells #[.int .i64 0] 32)) v116.heap.size 32 #[.int .i64 0]):=hyq box_new
    have HG11 : Hid (vs.heap.size ≤ v116.heap.size):=hyq hH.size
    have Z10:=hyq (Z10.out.on hba)
    obtain ⟨v117,hv9⟩:=nmq ((v116.alloc (.cells #[.int .i64 0] 32)))
    refine hK.out _ _ (bch hH hba) (fun hH => ?_); clear hba
    rw [← hv9] at Z10 Z11 hH ⊢
    clear hv9
    obtain ⟨b11,hg9⟩:=nmq (v116.heap.size)
    rw [← hg9] at Z11 HG11 ⊢
    clear hg9
    try go_frame
    refine rd1 15 (fun K hK => ?_)
    ·go_simp
     have hba : Below v117.heap.size v117 (v117.alloc (.cells #[.slice none 0 0] 24)):=below_new _ _
     have Z9 : Hid (Box (v117.alloc (.cells #[.slice none 0 0] 24)) v117.heap.size 24 #[.slice none 0 0]):=hyq box_new
     have HG9 : Hid (vs.heap.size ≤ v117.heap.size):=hyq hH.size
     have Z10:=hyq (Z10.out.on hba)
     have Z11:=hyq (Z11.out.on hba)
     obtain ⟨v115,hv9⟩:=nmq ((v117.alloc (.cells #[.slice none 0 0] 24)))
     refine hK.out _ _ (bch hH hba) (fun hH => ?_); clear hba
     rw [← hv9] at Z10 Z11 Z9 hH ⊢
     clear hv9
     obtain ⟨b9,hg9⟩:=nmq (v117.heap.size)
     rw [← hg9] at Z9 HG9 ⊢
     clear hg9
     try go_frame
     refine rd1 18 (fun K hK => ?_)
     ·refine wp_store_if (by rfl) 24 (.tmp 9) (.tmp 24) rfl b9 24 #[.slice none 0 0] #[.slice va vn vc] rfl rfl Z9.out (info24 _) rfl (slice_one _ _ _) ?_
      have Z9' : Hid (Box (v115.setRow b9 #[.slice va vn vc]) b9 24 #[.slice va vn vc]):=hyq (Z9.out.row _)
      have Z10' : Hid (Box (v115.setRow b9 #[.slice va vn vc]) b10 3 _):=hyq (box_row_other Z10.out Z9.out (by decide) _)
      have Z11' : Hid (Box (v115.setRow b9 #[.slice va vn vc]) b11 32 _):=hyq (box_row_other Z11.out Z9.out (by decide) _)
      refine hK.out _ _ (below_row hH HG9.out _) (fun hH => ?_)
      clear Z9 Z10 Z11
      have Z9:=Z9'
      have Z10:=Z10'
      have Z11:=Z11'
      clear Z9' Z10' Z11'
      obtain ⟨v118,hv9⟩:=nmq ((v115.setRow b9 #[.slice va vn vc]))
      rw [← hv9] at Z9 Z10 Z11 hH ⊢
      clear hv9
      try go_frame
      refine rd1 19 (fun K hK => ?_)
      ·have cc : v118.cell? ⟨b10,0,none⟩ = some _:=Z10.out.cell (k:=0) rfl
       have cf:=frozen_of_row v118 b10 0 _ _ Z10.out
       go_simp
       have Z10' : Hid (Box (v118.setCell ⟨b10,0,none⟩ (.int .i64 fine)) b10 3 #[.int .i64 fine]):=hyq (Z10.out.set (k:=0) _)
       have Z9' : Hid (Box (v118.setCell ⟨b10,0,none⟩ (.int .i64 fine)) b9 24 _):=hyq (box_set_other Z9.out Z10.out (by decide) _)
       have Z11' : Hid (Box (v118.setCell ⟨b10,0,none⟩ (.int .i64 fine)) b11 32 _):=hyq (box_set_other Z11.out Z10.out (by decide) _)
       refine hK.out _ _ (hH.setCell (p:=⟨b10,0,none⟩) HG10.out _) (fun hH => ?_)
       clear cc cf
       clear Z9 Z10 Z11
       have Z9:=Z9'
       have Z10:=Z10'
       have Z11:=Z11'
       clear Z9' Z10' Z11'
       obtain ⟨v119,hv9⟩:=nmq ((v118.setCell ⟨b10,0,none⟩ (.int .i64 fine)))
       rw [← hv9] at Z9 Z10 Z11 hH ⊢
       clear hv9
       try go_frame
       refine rd1 20 (fun K hK => ?_)
       ·have cc : v119.cell? ⟨b11,0,none⟩ = some _:=Z11.out.cell (k:=0) rfl
        have cf:=frozen_of_row v119 b11 0 _ _ Z11.out
        go_simp
        have Z11' : Hid (Box (v119.setCell ⟨b11,0,none⟩ (.int .i64 fault)) b11 32 #[.int .i64 fault]):=hyq (Z11.out.set (k:=0) _)
        have Z9' : Hid (Box (v119.setCell ⟨b11,0,none⟩ (.int .i64 fault)) b9 24 _):=hyq (box_set_other Z9.out Z11.out (by decide) _)
        have Z10' : Hid (Box (v119.setCell ⟨b11,0,none⟩ (.int .i64 fault)) b10 3 _):=hyq (box_set_other Z10.out Z11.out (by decide) _)
        refine hK.out _ _ (hH.setCell (p:=⟨b11,0,none⟩) HG11.out _) (fun hH => ?_)
        clear cc cf
        clear Z9 Z10 Z11
        have Z9:=Z9'
        have Z10:=Z10'
        have Z11:=Z11'
        clear Z9' Z10' Z11'
        obtain ⟨v120,hv9⟩:=nmq ((v119.setCell ⟨b11,0,none⟩ (.int .i64 fault)))
        rw [← hv9] at Z9 Z10 Z11 hH ⊢
        clear hv9
        (try go_frame); refine wpAnyH_done (by kernel_rfl) ?_ _
        have HH:=hyq hH
        clear hH
        go_wp2_with fail
        go_ret
        exact FIN.out _ _ _ Z10.out Z11.out HG10.out HG11.out HH.out
  ·go_simp
   have hba : Below v110.heap.size v110 (v110.alloc (.cells #[.int .i64 0] 32)):=below_new _ _
   have Z11 : Hid (Box (v110.alloc (.cells #[.int .i64 0] 32)) v110.heap.size 32 #[.int .i64 0]):=hyq box_new
   have HG11 : Hid (vs.heap.size ≤ v110.heap.size):=hyq hH.size
   obtain ⟨v117,hv9⟩:=nmq ((v110.alloc (.cells #[.int .i64 0] 32)))
   refine hK.out _ _ (bch hH hba) (fun hH => ?_); clear hba
   rw [← hv9] at Z11 hH ⊢
   clear hv9
   obtain ⟨b11,hg9⟩:=nmq (v110.heap.size)
   rw [← hg9] at Z11 HG11 ⊢
   clear hg9
   try go_frame
   refine rd2 15 16 (fun K hK => ?_) (fun K hK => ?_)
   ·go_simp
    have hba : Below v117.heap.size v117 (v117.alloc (.cells #[.slice none 0 0] 24)):=below_new _ _
    have Z9 : Hid (Box (v117.alloc (.cells #[.slice none 0 0] 24)) v117.heap.size 24 #[.slice none 0 0]):=hyq box_new
    have HG9 : Hid (vs.heap.size ≤ v117.heap.size):=hyq hH.size
    have Z11:=hyq (Z11.out.on hba)
    obtain ⟨v115,hv9⟩:=nmq ((v117.alloc (.cells #[.slice none 0 0] 24)))
    refine hK.out _ _ (bch hH hba) (fun hH => ?_); clear hba
    rw [← hv9] at Z11 Z9 hH ⊢
    clear hv9
    obtain ⟨b9,hg9⟩:=nmq (v117.heap.size)
    rw [← hg9] at Z9 HG9 ⊢
    clear hg9
    try go_frame
    refine rd1 16 (fun K hK => ?_)
    ·go_simp
     have hba : Below v115.heap.size v115 (v115.alloc (.cells #[.int .i64 0] 3)):=below_new _ _
     have Z10 : Hid (Box (v115.alloc (.cells #[.int .i64 0] 3)) v115.heap.size 3 #[.int .i64 0]):=hyq box_new
     have HG10 : Hid (vs.heap.size ≤ v115.heap.size):=hyq hH.size
     have Z9:=hyq (Z9.out.on hba)
     have Z11:=hyq (Z11.out.on hba)
     obtain ⟨v116,hv9⟩:=nmq ((v115.alloc (.cells #[.int .i64 0] 3)))
     refine hK.out _ _ (bch hH hba) (fun hH => ?_); clear hba
     rw [← hv9] at Z9 Z11 Z10 hH ⊢
     clear hv9
     obtain ⟨b10,hg9⟩:=nmq (v115.heap.size)
     rw [← hg9] at Z10 HG10 ⊢
     clear hg9
     try go_frame
     refine rd1 18 (fun K hK => ?_)
     ·refine wp_store_if (by rfl) 24 (.tmp 9) (.tmp 24) rfl b9 24 #[.slice none 0 0] #[.slice va vn vc] rfl rfl Z9.out (info24 _) rfl (slice_one _ _ _) ?_
      have Z9' : Hid (Box (v116.setRow b9 #[.slice va vn vc]) b9 24 #[.slice va vn vc]):=hyq (Z9.out.row _)
      have Z10' : Hid (Box (v116.setRow b9 #[.slice va vn vc]) b10 3 _):=hyq (box_row_other Z10.out Z9.out (by decide) _)
      have Z11' : Hid (Box (v116.setRow b9 #[.slice va vn vc]) b11 32 _):=hyq (box_row_other Z11.out Z9.out (by decide) _)
      refine hK.out _ _ (below_row hH HG9.out _) (fun hH => ?_)
      clear Z9 Z10 Z11
      have Z9:=Z9'
      have Z10:=Z10'
      have Z11:=Z11'
      clear Z9' Z10' Z11'
      obtain ⟨v118,hv9⟩:=nmq ((v116.setRow b9 #[.slice va vn vc]))
      rw [← hv9] at Z9 Z10 Z11 hH ⊢
      clear hv9
      try go_frame
      refine rd1 19 (fun K hK => ?_)
      ·have cc : v118.cell? ⟨b10,0,none⟩ = some _:=Z10.out.cell (k:=0) rfl
       have cf:=frozen_of_row v118 b10 0 _ _ Z10.out
       go_simp
       have Z10' : Hid (Box (v118.setCell ⟨b10,0,none⟩ (.int .i64 fine)) b10 3 #[.int .i64 fine]):=hyq (Z10.out.set (k:=0) _)
       have Z9' : Hid (Box (v118.setCell ⟨b10,0,none⟩ (.int .i64 fine)) b9 24 _):=hyq (box_set_other Z9.out Z10.out (by decide) _)
       have Z11' : Hid (Box (v118.setCell ⟨b10,0,none⟩ (.int .i64 fine)) b11 32 _):=hyq (box_set_other Z11.out Z10.out (by decide) _)
       refine hK.out _ _ (hH.setCell (p:=⟨b10,0,none⟩) HG10.out _) (fun hH => ?_)
       clear cc cf
       clear Z9 Z10 Z11
       have Z9:=Z9'
       have Z10:=Z10'
       have Z11:=Z11'
       clear Z9' Z10' Z11'
       obtain ⟨v119,hv9⟩:=nmq ((v118.setCell ⟨b10,0,none⟩ (.int .i64 fine)))
       rw [← hv9] at Z9 Z10 Z11 hH ⊢
       clear hv9
       try go_frame
       refine rd1 20 (fun K hK => ?_)
       ·have cc : v119.cell? ⟨b11,0,none⟩ = some _:=Z11.out.cell (k:=0) rfl
        have cf:=frozen_of_row v119 b11 0 _ _ Z11.out
        go_simp
        have Z11' : Hid (Box (v119.setCell ⟨b11,0,none⟩ (.int .i64 fault)) b11 32 #[.int .i64 fault]):=hyq (Z11.out.set (k:=0) _)
        have Z9' : Hid (Box (v119.setCell ⟨b11,0,none⟩ (.int .i64 fault)) b9 24 _):=hyq (box_set_other Z9.out Z11.out (by decide) _)
        have Z10' : Hid (Box (v119.setCell ⟨b11,0,none⟩ (.int .i64 fault)) b10 3 _):=hyq (box_set_other Z10.out Z11.out (by decide) _)
        refine hK.out _ _ (hH.setCell (p:=⟨b11,0,none⟩) HG11.out _) (fun hH => ?_)
        clear cc cf
        clear Z9 Z10 Z11
        have Z9:=Z9'
        have Z10:=Z10'
        have Z11:=Z11'
        clear Z9' Z10' Z11'
        obtain ⟨v120,hv9⟩:=nmq ((v119.setCell ⟨b11,0,none⟩ (.int .i64 fault)))
        rw [← hv9] at Z9 Z10 Z11 hH ⊢
        clear hv9
        (try go_frame); refine wpAnyH_done (by kernel_rfl) ?_ _
        have HH:=hyq hH
        clear hH
        go_wp2_with fail
        go_ret
        exact FIN.out _ _ _ Z10.out Z11.out HG10.out HG11.out HH.out
   ·go_simp
    have hba : Below v117.heap.size v117 (v117.alloc (.cells #[.int .i64 0] 3)):=below_new _ _
    have Z10 : Hid (Box (v117.alloc (.cells #[.int .i64 0] 3)) v117.heap.size 3 #[.int .i64 0]):=hyq box_new
    have HG10 : Hid (vs.heap.size ≤ v117.heap.size):=hyq hH.size
    have Z11:=hyq (Z11.out.on hba)
    obtain ⟨v116,hv9⟩:=nmq ((v117.alloc (.cells #[.int .i64 0] 3)))
    refine hK.out _ _ (bch hH hba) (fun hH => ?_); clear hba
    rw [← hv9] at Z11 Z10 hH ⊢
    clear hv9
    obtain ⟨b10,hg9⟩:=nmq (v117.heap.size)
    rw [← hg9] at Z10 HG10 ⊢
    clear hg9
    try go_frame
    refine rd1 15 (fun K hK => ?_)
    ·go_simp
     have hba : Below v116.heap.size v116 (v116.alloc (.cells #[.slice none 0 0] 24)):=below_new _ _
     have Z9 : Hid (Box (v116.alloc (.cells #[.slice none 0 0] 24)) v116.heap.size 24 #[.slice none 0 0]):=hyq box_new
     have HG9 : Hid (vs.heap.size ≤ v116.heap.size):=hyq hH.size
     have Z10:=hyq (Z10.out.on hba)
     have Z11:=hyq (Z11.out.on hba)
     obtain ⟨v115,hv9⟩:=nmq ((v116.alloc (.cells #[.slice none 0 0] 24)))
     refine hK.out _ _ (bch hH hba) (fun hH => ?_); clear hba
     rw [← hv9] at Z10 Z11 Z9 hH ⊢
     clear hv9
     obtain ⟨b9,hg9⟩:=nmq (v116.heap.size)
     rw [← hg9] at Z9 HG9 ⊢
     clear hg9
     try go_frame
     refine rd1 18 (fun K hK => ?_)
     ·refine wp_store_if (by rfl) 24 (.tmp 9) (.tmp 24) rfl b9 24 #[.slice none 0 0] #[.slice va vn vc] rfl rfl Z9.out (info24 _) rfl (slice_one _ _ _) ?_
      have Z9' : Hid (Box (v115.setRow b9 #[.slice va vn vc]) b9 24 #[.slice va vn vc]):=hyq (Z9.out.row _)
      have Z10' : Hid (Box (v115.setRow b9 #[.slice va vn vc]) b10 3 _):=hyq (box_row_other Z10.out Z9.out (by decide) _)
      have Z11' : Hid (Box (v115.setRow b9 #[.slice va vn vc]) b11 32 _):=hyq (box_row_other Z11.out Z9.out (by decide) _)
      refine hK.out _ _ (below_row hH HG9.out _) (fun hH => ?_)
      clear Z9 Z10 Z11
      have Z9:=Z9'
      have Z10:=Z10'
      have Z11:=Z11'
      clear Z9' Z10' Z11'
      obtain ⟨v118,hv9⟩:=nmq ((v115.setRow b9 #[.slice va vn vc]))
      rw [← hv9] at Z9 Z10 Z11 hH ⊢
      clear hv9
      try go_frame
      refine rd1 19 (fun K hK => ?_)
      ·have cc : v118.cell? ⟨b10,0,none⟩ = some _:=Z10.out.cell (k:=0) rfl
       have cf:=frozen_of_row v118 b10 0 _ _ Z10.out
       go_simp
       have Z10' : Hid (Box (v118.setCell ⟨b10,0,none⟩ (.int .i64 fine)) b10 3 #[.int .i64 fine]):=hyq (Z10.out.set (k:=0) _)
       have Z9' : Hid (Box (v118.setCell ⟨b10,0,none⟩ (.int .i64 fine)) b9 24 _):=hyq (box_set_other Z9.out Z10.out (by decide) _)
       have Z11' : Hid (Box (v118.setCell ⟨b10,0,none⟩ (.int .i64 fine)) b11 32 _):=hyq (box_set_other Z11.out Z10.out (by decide) _)
       refine hK.out _ _ (hH.setCell (p:=⟨b10,0,none⟩) HG10.out _) (fun hH => ?_)
       clear cc cf
       clear Z9 Z10 Z11
       have Z9:=Z9'
       have Z10:=Z10'
       have Z11:=Z11'
       clear Z9' Z10' Z11'
       obtain ⟨v119,hv9⟩:=nmq ((v118.setCell ⟨b10,0,none⟩ (.int .i64 fine)))
       rw [← hv9] at Z9 Z10 Z11 hH ⊢
       clear hv9
       try go_frame
       refine rd1 20 (fun K hK => ?_)
       ·have cc : v119.cell? ⟨b11,0,none⟩ = some _:=Z11.out.cell (k:=0) rfl
        have cf:=frozen_of_row v119 b11 0 _ _ Z11.out
        go_simp
        have Z11' : Hid (Box (v119.setCell ⟨b11,0,none⟩ (.int .i64 fault)) b11 32 #[.int .i64 fault]):=hyq (Z11.out.set (k:=0) _)
        have Z9' : Hid (Box (v119.setCell ⟨b11,0,none⟩ (.int .i64 fault)) b9 24 _):=hyq (box_set_other Z9.out Z11.out (by decide) _)
        have Z10' : Hid (Box (v119.setCell ⟨b11,0,none⟩ (.int .i64 fault)) b10 3 _):=hyq (box_set_other Z10.out Z11.out (by decide) _)
        refine hK.out _ _ (hH.setCell (p:=⟨b11,0,none⟩) HG11.out _) (fun hH => ?_)
        clear cc cf
        clear Z9 Z10 Z11
        have Z9:=Z9'
        have Z10:=Z10'
        have Z11:=Z11'
        clear Z9' Z10' Z11'
        obtain ⟨v120,hv9⟩:=nmq ((v119.setCell ⟨b11,0,none⟩ (.int .i64 fault)))
        rw [← hv9] at Z9 Z10 Z11 hH ⊢
        clear hv9
        (try go_frame); refine wpAnyH_done (by kernel_rfl) ?_ _
        have HH:=hyq hH
        clear hH
        go_wp2_with fail
        go_ret
        exact FIN.out _ _ _ Z10.out Z11.out HG10.out HG11.out HH.out
 ·go_simp
  have hba : Below v0.heap.size v0 (v0.alloc (.cells #[.slice none 0 0] 24)):=below_new _ _
  have Z9 : Hid (Box (v0.alloc (.cells #[.slice none 0 0] 24)) v0.heap.size 24 #[.slice none 0 0]):=hyq box_new
  have HG9 : Hid (vs.heap.size ≤ v0.heap.size):=hyq hH.size
  obtain ⟨v115,hv9⟩:=nmq ((v0.alloc (.cells #[.slice none 0 0] 24)))
  refine hK.out _ _ (bch hH hba) (fun hH => ?_); clear hba
  rw [← hv9] at Z9 hH ⊢
  clear hv9
  obtain ⟨b9,hg9⟩:=nmq (v0.heap.size)
  rw [← hg9] at Z9 HG9 ⊢
  clear hg9
  try go_frame
  refine wpAnyH_ready (rs:=[10,16,17]) (by kernel_rfl) (by simp) (AllReadyH.cons rfl (fun K hK => ?_) (AllReadyH.cons rfl (fun K hK => ?_) (AllReadyH.cons rfl (fun K hK => ?_) AllReadyH.nil)))
  ·go_simp
   refine (HRU.out _ hH).mono ?_
   rintro e v110 ⟨hba,va,vn,vc,rfl⟩
   have Z9:=hyq (Z9.out.on hba)
   refine hK.out _ _ (bch hH hba) (fun hH => ?_); clear hba; (try go_frame); refine tk 11 hH ?_; (try go_frame); refine tk 12 hH ?_; (try go_frame); refine tk 13 hH ?_; (try go_frame); refine tk 14 hH ?_; try go_frame
   refine rd2 16 17 (fun K hK => ?_) (fun K hK => ?_)
   ·go_simp
    have hba : Below v110.heap.size v110 (v110.alloc (.cells #[.int .i64 0] 3)):=below_new _ _
    have Z10 : Hid (Box (v110.alloc (.cells #[.int .i64 0] 3)) v110.heap.size 3 #[.int .i64 0]):=hyq box_new
    have HG10 : Hid (vs.heap.size ≤ v110.heap.size):=hyq hH.size
    have Z9:=hyq (Z9.out.on hba)
    obtain ⟨v116,hv9⟩:=nmq ((v110.alloc (.cells #[.int .i64 0] 3)))
    refine hK.out _ _ (bch hH hba) (fun hH => ?_); clear hba
    rw [← hv9] at Z9 Z10 hH ⊢
    clear hv9
    obtain ⟨b10,hg9⟩:=nmq (v110.heap.size)
    rw [← hg9] at Z10 HG10 ⊢
    clear hg9
    try go_frame
    refine rd1 17 (fun K hK => ?_)
    ·go_simp
     have hba : Below v116.heap.size v116 (v116.alloc (.cells #[.int .i64 0] 32)):=below_new _ _
     have Z11 : Hid (Box (v116.alloc (.cells #[.int .i64 0] 32)) v116.heap.size 32 #[.int .i64 0]):=hyq box_new
     have HG11 : Hid (vs.heap.size ≤ v116.heap.size):=hyq hH.size
     have Z9:=hyq (Z9.out.on hba)
     have Z10:=hyq (Z10.out.on hba)
     obtain ⟨v117,hv9⟩:=nmq ((v116.alloc (.cells #[.int .i64 0] 32)))
     refine hK.out _ _ (bch hH hba) (fun hH => ?_); clear hba
     rw [← hv9] at Z9 Z10 Z11 hH ⊢
     clear hv9
     obtain ⟨b11,hg9⟩:=nmq (v116.heap.size)
     rw [← hg9] at Z11 HG11 ⊢
     clear hg9
     try go_frame
     refine rd1 18 (fun K hK => ?_)
     ·refine wp_store_if (by rfl) 24 (.tmp 9) (.tmp 24) rfl b9 24 #[.slice none 0 0] #[.slice va vn vc] rfl rfl Z9.out (info24 _) rfl (slice_one _ _ _) ?_
      have Z9' : Hid (Box (v117.setRow b9 #[.slice va vn vc]) b9 24 #[.slice va vn vc]):=hyq (Z9.out.row _)
      have Z10' : Hid (Box (v117.setRow b9 #[.slice va vn vc]) b10 3 _):=hyq (box_row_other Z10.out Z9.out (by decide) _)
      have Z11' : Hid (Box (v117.setRow b9 #[.slice va vn vc]) b11 32 _):=hyq (box_row_other Z11.out Z9.out (by decide) _)
      refine hK.out _ _ (below_row hH HG9.out _) (fun hH => ?_)
      clear Z9 Z10 Z11
      have Z9:=Z9'
      have Z10:=Z10'
      have Z11:=Z11'
      clear Z9' Z10' Z11'
      obtain ⟨v118,hv9⟩:=nmq ((v117.setRow b9 #[.slice va vn vc]))
      rw [← hv9] at Z9 Z10 Z11 hH ⊢
      clear hv9
      try go_frame
      refine rd1 19 (fun K hK => ?_)
      ·have cc : v118.cell? ⟨b10,0,none⟩ = some _:=Z10.out.cell (k:=0) rfl
       have cf:=frozen_of_row v118 b10 0 _ _ Z10.out
       go_simp
       have Z10' : Hid (Box (v118.setCell ⟨b10,0,none⟩ (.int .i64 fine)) b10 3 #[.int .i64 fine]):=hyq (Z10.out.set (k:=0) _)
       have Z9' : Hid (Box (v118.setCell ⟨b10,0,none⟩ (.int .i64 fine)) b9 24 _):=hyq (box_set_other Z9.out Z10.out (by decide) _)
       have Z11' : Hid (Box (v118.setCell ⟨b10,0,none⟩ (.int .i64 fine)) b11 32 _):=hyq (box_set_other Z11.out Z10.out (by decide) _)
       refine hK.out _ _ (hH.setCell (p:=⟨b10,0,none⟩) HG10.out _) (fun hH => ?_)
       clear cc cf
       clear Z9 Z10 Z11
       have Z9:=Z9'
       have Z10:=Z10'
       have Z11:=Z11'
       clear Z9' Z10' Z11'
       obtain ⟨v119,hv9⟩:=nmq ((v118.setCell ⟨b10,0,none⟩ (.int .i64 fine)))
       rw [← hv9] at Z9 Z10 Z11 hH ⊢
       clear hv9
       try go_frame
       refine rd1 20 (fun K hK => ?_)
       ·have cc : v119.cell? ⟨b11,0,none⟩ = some _:=Z11.out.cell (k:=0) rfl
        have cf:=frozen_of_row v119 b11 0 _ _ Z11.out
        go_simp
        have Z11' : Hid (Box (v119.setCell ⟨b11,0,none⟩ (.int .i64 fault)) b11 32 #[.int .i64 fault]):=hyq (Z11.out.set (k:=0) _)
        have Z9' : Hid (Box (v119.setCell ⟨b11,0,none⟩ (.int .i64 fault)) b9 24 _):=hyq (box_set_other Z9.out Z11.out (by decide) _)
        have Z10' : Hid (Box (v119.setCell ⟨b11,0,none⟩ (.int .i64 fault)) b10 3 _):=hyq (box_set_other Z10.out Z11.out (by decide) _)
        refine hK.out _ _ (hH.setCell (p:=⟨b11,0,none⟩) HG11.out _) (fun hH => ?_)
        clear cc cf
        clear Z9 Z10 Z11
        have Z9:=Z9'
        have Z10:=Z10'
        have Z11:=Z11'
        clear Z9' Z10' Z11'
        obtain ⟨v120,hv9⟩:=nmq ((v119.setCell ⟨b11,0,none⟩ (.int .i64 fault)))
        rw [← hv9] at Z9 Z10 Z11 hH ⊢
        clear hv9
        (try go_frame); refine wpAnyH_done (by kernel_rfl) ?_ _
        have HH:=hyq hH
        clear hH
        go_wp2_with fail
        go_ret
        exact FIN.out _ _ _ Z10.out Z11.out HG10.out HG11.out HH.out
   ·go_simp
    have hba : Below v110.heap.size v110 (v110.alloc (.cells #[.int .i64 0] 32)):=below_new _ _
    have Z11 : Hid (Box (v110.alloc (.cells #[.int .i64 0] 32)) v110.heap.size 32 #[.int .i64 0]):=hyq box_new
    have HG11 : Hid (vs.heap.size ≤ v110.heap.size):=hyq hH.size
    have Z9:=hyq (Z9.out.on hba)
    obtain ⟨v117,hv9⟩:=nmq ((v110.alloc (.cells #[.int .i64 0] 32)))
    refine hK.out _ _ (bch hH hba) (fun hH => ?_); clear hba
    rw [← hv9] at Z9 Z11 hH ⊢
    clear hv9
    obtain ⟨b11,hg9⟩:=nmq (v110.heap.size)
    rw [← hg9] at Z11 HG11 ⊢
    clear hg9
    try go_frame
    refine rd1 16 (fun K hK => ?_)
    ·go_simp
     have hba : Below v117.heap.size v117 (v117.alloc (.cells #[.int .i64 0] 3)):=below_new _ _
     have Z10 : Hid (Box (v117.alloc (.cells #[.int .i64 0] 3)) v117.heap.size 3 #[.int .i64 0]):=hyq box_new
     have HG10 : Hid (vs.heap.size ≤ v117.heap.size):=hyq hH.size
     have Z9:=hyq (Z9.out.on hba)
     have Z11:=hyq (Z11.out.on hba)
     obtain ⟨v116,hv9⟩:=nmq ((v117.alloc (.cells #[.int .i64 0] 3)))
     refine hK.out _ _ (bch hH hba) (fun hH => ?_); clear hba
     rw [← hv9] at Z9 Z11 Z10 hH ⊢
     clear hv9
     obtain ⟨b10,hg9⟩:=nmq (v117.heap.size)
     rw [← hg9] at Z10 HG10 ⊢
     clear hg9
     try go_frame
     refine rd1 18 (fun K hK => ?_)
     ·refine wp_store_if (by rfl) 24 (.tmp 9) (.tmp 24) rfl b9 24 #[.slice none 0 0] #[.slice va vn vc] rfl rfl Z9.out (info24 _) rfl (slice_one _ _ _) ?_
      have Z9' : Hid (Box (v116.setRow b9 #[.slice va vn vc]) b9 24 #[.slice va vn vc]):=hyq (Z9.out.row _)
      have Z10' : Hid (Box (v116.setRow b9 #[.slice va vn vc]) b10 3 _):=hyq (box_row_other Z10.out Z9.out (by decide) _)
      have Z11' : Hid (Box (v116.setRow b9 #[.slice va vn vc]) b11 32 _):=hyq (box_row_other Z11.out Z9.out (by decide) _)
      refine hK.out _ _ (below_row hH HG9.out _) (fun hH => ?_)
      clear Z9 Z10 Z11
      have Z9:=Z9'
      have Z10:=Z10'
      have Z11:=Z11'
      clear Z9' Z10' Z11'
      obtain ⟨v118,hv9⟩:=nmq ((v116.setRow b9 #[.slice va vn vc]))
      rw [← hv9] at Z9 Z10 Z11 hH ⊢
      clear hv9
      try go_frame
      refine rd1 19 (fun K hK => ?_)
      ·have cc : v118.cell? ⟨b10,0,none⟩ = some _:=Z10.out.cell (k:=0) rfl
       have cf:=frozen_of_row v118 b10 0 _ _ Z10.out
       go_simp
       have Z10' : Hid (Box (v118.setCell ⟨b10,0,none⟩ (.int .i64 fine)) b10 3 #[.int .i64 fine]):=hyq (Z10.out.set (k:=0) _)
       have Z9' : Hid (Box (v118.setCell ⟨b10,0,none⟩ (.int .i64 fine)) b9 24 _):=hyq (box_set_other Z9.out Z10.out (by decide) _)
       have Z11' : Hid (Box (v118.setCell ⟨b10,0,none⟩ (.int .i64 fine)) b11 32 _):=hyq (box_set_other Z11.out Z10.out (by decide) _)
       refine hK.out _ _ (hH.setCell (p:=⟨b10,0,none⟩) HG10.out _) (fun hH => ?_)
       clear cc cf
       clear Z9 Z10 Z11
       have Z9:=Z9'
       have Z10:=Z10'
       have Z11:=Z11'
       clear Z9' Z10' Z11'
       obtain ⟨v119,hv9⟩:=nmq ((v118.setCell ⟨b10,0,none⟩ (.int .i64 fine)))
       rw [← hv9] at Z9 Z10 Z11 hH ⊢
       clear hv9
       try go_frame
       refine rd1 20 (fun K hK => ?_)
       ·have cc : v119.cell? ⟨b11,0,none⟩ = some _:=Z11.out.cell (k:=0) rfl
        have cf:=frozen_of_row v119 b11 0 _ _ Z11.out
        go_simp
        have Z11' : Hid (Box (v119.setCell ⟨b11,0,none⟩ (.int .i64 fault)) b11 32 #[.int .i64 fault]):=hyq (Z11.out.set (k:=0) _)
        have Z9' : Hid (Box (v119.setCell ⟨b11,0,none⟩ (.int .i64 fault)) b9 24 _):=hyq (box_set_other Z9.out Z11.out (by decide) _)
        have Z10' : Hid (Box (v119.setCell ⟨b11,0,none⟩ (.int .i64 fault)) b10 3 _):=hyq (box_set_other Z10.out Z11.out (by decide) _)
        refine hK.out _ _ (hH.setCell (p:=⟨b11,0,none⟩) HG11.out _) (fun hH => ?_)
        clear cc cf
        clear Z9 Z10 Z11
        have Z9:=Z9'
        have Z10:=Z10'
        have Z11:=Z11'
        clear Z9' Z10' Z11'
        obtain ⟨v120,hv9⟩:=nmq ((v119.setCell ⟨b11,0,none⟩ (.int .i64 fault)))
        rw [← hv9] at Z9 Z10 Z11 hH ⊢
        clear hv9
        (try go_frame); refine wpAnyH_done (by kernel_rfl) ?_ _
        have HH:=hyq hH
        clear hH
        go_wp2_with fail
        go_ret
        exact FIN.out _ _ _ Z10.out Z11.out HG10.out HG11.out HH.out
  ·go_simp
   have hba : Below v115.heap.size v115 (v115.alloc (.cells #[.int .i64 0] 3)):=below_new _ _
   have Z10 : Hid (Box (v115.alloc (.cells #[.int .i64 0] 3)) v115.heap.size 3 #[.int .i64 0]):=hyq box_new
   have HG10 : Hid (vs.heap.size ≤ v115.heap.size):=hyq hH.size
   have Z9:=hyq (Z9.out.on hba)
   obtain ⟨v116,hv9⟩:=nmq ((v115.alloc (.cells #[.int .i64 0] 3)))
   refine hK.out _ _ (bch hH hba) (fun hH => ?_); clear hba
   rw [← hv9] at Z9 Z10 hH ⊢
   clear hv9
   obtain ⟨b10,hg9⟩:=nmq (v115.heap.size)
   rw [← hg9] at Z10 HG10 ⊢
   clear hg9
   try go_frame
   refine rd2 10 17 (fun K hK => ?_) (fun K hK => ?_)
   ·go_simp
    refine (HRU.out _ hH).mono ?_
    rintro e v110 ⟨hba,va,vn,vc,rfl⟩
    have Z9:=hyq (Z9.out.on hba)
    have Z10:=hyq (Z10.out.on hba)
    refine hK.out _ _ (bch hH hba) (fun hH => ?_); clear hba; (try go_frame); refine tk 11 hH ?_; (try go_frame); refine tk 12 hH ?_; (try go_frame); refine tk 13 hH ?_; (try go_frame); refine tk 14 hH ?_; try go_frame
    refine rd1 17 (fun K hK => ?_)
    ·go_simp
     have hba : Below v110.heap.size v110 (v110.alloc (.cells #[.int .i64 0] 32)):=below_new _ _
     have Z11 : Hid (Box (v110.alloc (.cells #[.int .i64 0] 32)) v110.heap.size 32 #[.int .i64 0]):=hyq box_new
     have HG11 : Hid (vs.heap.size ≤ v110.heap.size):=hyq hH.size
     have Z9:=hyq (Z9.out.on hba)
     have Z10:=hyq (Z10.out.on hba)
     obtain ⟨v117,hv9⟩:=nmq ((v110.alloc (.cells #[.int .i64 0] 32)))
     refine hK.out _ _ (bch hH hba) (fun hH => ?_); clear hba
     rw [← hv9] at Z9 Z10 Z11 hH ⊢
     clear hv9
     obtain ⟨b11,hg9⟩:=nmq (v110.heap.size)
     rw [← hg9] at Z11 HG11 ⊢
     clear hg9
     try go_frame
     refine rd1 18 (fun K hK => ?_)
     ·refine wp_store_if (by rfl) 24 (.tmp 9) (.tmp 24) rfl b9 24 #[.slice none 0 0] #[.slice va vn vc] rfl rfl Z9.out (info24 _) rfl (slice_one _ _ _) ?_
      have Z9' : Hid (Box (v117.setRow b9 #[.slice va vn vc]) b9 24 #[.slice va vn vc]):=hyq (Z9.out.row _)
      have Z10' : Hid (Box (v117.setRow b9 #[.slice va vn vc]) b10 3 _):=hyq (box_row_other Z10.out Z9.out (by decide) _)
      have Z11' : Hid (Box (v117.setRow b9 #[.slice va vn vc]) b11 32 _):=hyq (box_row_other Z11.out Z9.out (by decide) _)
      refine hK.out _ _ (below_row hH HG9.out _) (fun hH => ?_)
      clear Z9 Z10 Z11
      have Z9:=Z9'
      have Z10:=Z10'
      have Z11:=Z11'
      clear Z9' Z10' Z11'
      obtain ⟨v118,hv9⟩:=nmq ((v117.setRow b9 #[.slice va vn vc]))
      rw [← hv9] at Z9 Z10 Z11 hH ⊢
      clear hv9
      try go_frame
      refine rd1 19 (fun K hK => ?_)
      ·have cc : v118.cell? ⟨b10,0,none⟩ = some _:=Z10.out.cell (k:=0) rfl
       have cf:=frozen_of_row v118 b10 0 _ _ Z10.out
       go_simp
       have Z10' : Hid (Box (v118.setCell ⟨b10,0,none⟩ (.int .i64 fine)) b10 3 #[.int .i64 fine]):=hyq (Z10.out.set (k:=0) _)
       have Z9' : Hid (Box (v118.setCell ⟨b10,0,none⟩ (.int .i64 fine)) b9 24 _):=hyq (box_set_other Z9.out Z10.out (by decide) _)
       have Z11' : Hid (Box (v118.setCell ⟨b10,0,none⟩ (.int .i64 fine)) b11 32 _):=hyq (box_set_other Z11.out Z10.out (by decide) _)
       refine hK.out _ _ (hH.setCell (p:=⟨b10,0,none⟩) HG10.out _) (fun hH => ?_)
       clear cc cf
       clear Z9 Z10 Z11
       have Z9:=Z9'
       have Z10:=Z10'
       have Z11:=Z11'
       clear Z9' Z10' Z11'
       obtain ⟨v119,hv9⟩:=nmq ((v118.setCell ⟨b10,0,none⟩ (.int .i64 fine)))
       rw [← hv9] at Z9 Z10 Z11 hH ⊢
       clear hv9
       try go_frame
       refine rd1 20 (fun K hK => ?_)
       ·have cc : v119.cell? ⟨b11,0,none⟩ = some _:=Z11.out.cell (k:=0) rfl
        have cf:=frozen_of_row v119 b11 0 _ _ Z11.out
        go_simp
        have Z11' : Hid (Box (v119.setCell ⟨b11,0,none⟩ (.int .i64 fault)) b11 32 #[.int .i64 fault]):=hyq (Z11.out.set (k:=0) _)
        have Z9' : Hid (Box (v119.setCell ⟨b11,0,none⟩ (.int .i64 fault)) b9 24 _):=hyq (box_set_other Z9.out Z11.out (by decide) _)
        have Z10' : Hid (Box (v119.setCell ⟨b11,0,none⟩ (.int .i64 fault)) b10 3 _):=hyq (box_set_other Z10.out Z11.out (by decide) _)
        refine hK.out _ _ (hH.setCell (p:=⟨b11,0,none⟩) HG11.out _) (fun hH => ?_)
        clear cc cf
        clear Z9 Z10 Z11
        have Z9:=Z9'
        have Z10:=Z10'
        have Z11:=Z11'
        clear Z9' Z10' Z11'
        obtain ⟨v120,hv9⟩:=nmq ((v119.setCell ⟨b11,0,none⟩ (.int .i64 fault)))
        rw [← hv9] at Z9 Z10 Z11 hH ⊢
        clear hv9
        (try go_frame); refine wpAnyH_done (by kernel_rfl) ?_ _
        have HH:=hyq hH
        clear hH
        go_wp2_with fail
        go_ret
        exact FIN.out _ _ _ Z10.out Z11.out HG10.out HG11.out HH.out
   ·go_simp
    have hba : Below v116.heap.size v116 (v116.alloc (.cells #[.int .i64 0] 32)):=below_new _ _
    have Z11 : Hid (Box (v116.alloc (.cells #[.int .i64 0] 32)) v116.heap.size 32 #[.int .i64 0]):=hyq box_new
    have HG11 : Hid (vs.heap.size ≤ v116.heap.size):=hyq hH.size
    have Z9:=hyq (Z9.out.on hba)
    have Z10:=hyq (Z10.out.on hba)
    obtain ⟨v117,hv9⟩:=nmq ((v116.alloc (.cells #[.int .i64 0] 32)))
    refine hK.out _ _ (bch hH hba) (fun hH => ?_); clear hba
    rw [← hv9] at Z9 Z10 Z11 hH ⊢
    clear hv9
    obtain ⟨b11,hg9⟩:=nmq (v116.heap.size)
    rw [← hg9] at Z11 HG11 ⊢
    clear hg9
    try go_frame
    refine rd1 10 (fun K hK => ?_)
    ·go_simp
     refine (HRU.out _ hH).mono ?_
     rintro e v110 ⟨hba,va,vn,vc,rfl⟩
     have Z9:=hyq (Z9.out.on hba)
     have Z10:=hyq (Z10.out.on hba)
     have Z11:=hyq (Z11.out.on hba)
     refine hK.out _ _ (bch hH hba) (fun hH => ?_); clear hba; (try go_frame); refine tk 11 hH ?_; (try go_frame); refine tk 12 hH ?_; (try go_frame); refine tk 13 hH ?_; (try go_frame); refine tk 14 hH ?_; try go_frame
     refine rd1 18 (fun K hK => ?_)
     ·refine wp_store_if (by rfl) 24 (.tmp 9) (.tmp 24) rfl b9 24 #[.slice none 0 0] #[.slice va vn vc] rfl rfl Z9.out (info24 _) rfl (slice_one _ _ _) ?_
      have Z9' : Hid (Box (v110.setRow b9 #[.slice va vn vc]) b9 24 #[.slice va vn vc]):=hyq (Z9.out.row _)
      have Z10' : Hid (Box (v110.setRow b9 #[.slice va vn vc]) b10 3 _):=hyq (box_row_other Z10.out Z9.out (by decide) _)
      have Z11' : Hid (Box (v110.setRow b9 #[.slice va vn vc]) b11 32 _):=hyq (box_row_other Z11.out Z9.out (by decide) _)
      refine hK.out _ _ (below_row hH HG9.out _) (fun hH => ?_)
      clear Z9 Z10 Z11
      have Z9:=Z9'
      have Z10:=Z10'
      have Z11:=Z11'
      clear Z9' Z10' Z11'
      obtain ⟨v118,hv9⟩:=nmq ((v110.setRow b9 #[.slice va vn vc]))
      rw [← hv9] at Z9 Z10 Z11 hH ⊢
      clear hv9
      try go_frame
      refine rd1 19 (fun K hK => ?_)
      ·have cc : v118.cell? ⟨b10,0,none⟩ = some _:=Z10.out.cell (k:=0) rfl
       have cf:=frozen_of_row v118 b10 0 _ _ Z10.out
       go_simp
       have Z10' : Hid (Box (v118.setCell ⟨b10,0,none⟩ (.int .i64 fine)) b10 3 #[.int .i64 fine]):=hyq (Z10.out.set (k:=0) _)
       have Z9' : Hid (Box (v118.setCell ⟨b10,0,none⟩ (.int .i64 fine)) b9 24 _):=hyq (box_set_other Z9.out Z10.out (by decide) _)
       have Z11' : Hid (Box (v118.setCell ⟨b10,0,none⟩ (.int .i64 fine)) b11 32 _):=hyq (box_set_other Z11.out Z10.out (by decide) _)
       refine hK.out _ _ (hH.setCell (p:=⟨b10,0,none⟩) HG10.out _) (fun hH => ?_)
       clear cc cf
       clear Z9 Z10 Z11
       have Z9:=Z9'
       have Z10:=Z10'
       have Z11:=Z11'
       clear Z9' Z10' Z11'
       obtain ⟨v119,hv9⟩:=nmq ((v118.setCell ⟨b10,0,none⟩ (.int .i64 fine)))
       rw [← hv9] at Z9 Z10 Z11 hH ⊢
       clear hv9
       try go_frame
       refine rd1 20 (fun K hK => ?_)
       ·have cc : v119.cell? ⟨b11,0,none⟩ = some _:=Z11.out.cell (k:=0) rfl
        have cf:=frozen_of_row v119 b11 0 _ _ Z11.out
        go_simp
        have Z11' : Hid (Box (v119.setCell ⟨b11,0,none⟩ (.int .i64 fault)) b11 32 #[.int .i64 fault]):=hyq (Z11.out.set (k:=0) _)
        have Z9' : Hid (Box (v119.setCell ⟨b11,0,none⟩ (.int .i64 fault)) b9 24 _):=hyq (box_set_other Z9.out Z11.out (by decide) _)
        have Z10' : Hid (Box (v119.setCell ⟨b11,0,none⟩ (.int .i64 fault)) b10 3 _):=hyq (box_set_other Z10.out Z11.out (by decide) _)
        refine hK.out _ _ (hH.setCell (p:=⟨b11,0,none⟩) HG11.out _) (fun hH => ?_)
        clear cc cf
        clear Z9 Z10 Z11
        have Z9:=Z9'
        have Z10:=Z10'
        have Z11:=Z11'
        clear Z9' Z10' Z11'
        obtain ⟨v120,hv9⟩:=nmq ((v119.setCell ⟨b11,0,none⟩ (.int .i64 fault)))
        rw [← hv9] at Z9 Z10 Z11 hH ⊢
        clear hv9
        (try go_frame); refine wpAnyH_done (by kernel_rfl) ?_ _
        have HH:=hyq hH
        clear hH
        go_wp2_with fail
        go_ret
        exact FIN.out _ _ _ Z10.out Z11.out HG10.out HG11.out HH.out
  ·go_simp
   have hba : Below v115.heap.size v115 (v115.alloc (.cells #[.int .i64 0] 32)):=below_new _ _
   have Z11 : Hid (Box (v115.alloc (.cells #[.int .i64 0] 32)) v115.heap.size 32 #[.int .i64 0]):=hyq box_new
   have HG11 : Hid (vs.heap.size ≤ v115.heap.size):=hyq hH.size
   have Z9:=hyq (Z9.out.on hba)
   obtain ⟨v117,hv9⟩:=nmq ((v115.alloc (.cells #[.int .i64 0] 32)))
   refine hK.out _ _ (bch hH hba) (fun hH => ?_); clear hba
   rw [← hv9] at Z9 Z11 hH ⊢
   clear hv9
   obtain ⟨b11,hg9⟩:=nmq (v115.heap.size)
   rw [← hg9] at Z11 HG11 ⊢
   clear hg9
   try go_frame
   refine rd2 10 16 (fun K hK => ?_) (fun K hK => ?_)
   ·go_simp
    refine (HRU.out _ hH).mono ?_
    rintro e v110 ⟨hba,va,vn,vc,rfl⟩
    have Z9:=hyq (Z9.out.on hba)
    have Z11:=hyq (Z11.out.on hba)
    refine hK.out _ _ (bch hH hba) (fun hH => ?_); clear hba; (try go_frame); refine tk 11 hH ?_; (try go_frame); refine tk 12 hH ?_; (try go_frame); refine tk 13 hH ?_; (try go_frame); refine tk 14 hH ?_; try go_frame
    refine rd1 16 (fun K hK => ?_)
    ·go_simp
     have hba : Below v110.heap.size v110 (v110.alloc (.cells #[.int .i64 0] 3)):=below_new _ _
     have Z10 : Hid (Box (v110.alloc (.cells #[.int .i64 0] 3)) v110.heap.size 3 #[.int .i64 0]):=hyq box_new
     have HG10 : Hid (vs.heap.size ≤ v110.heap.size):=hyq hH.size
     have Z9:=hyq (Z9.out.on hba)
     have Z11:=hyq (Z11.out.on hba)
     obtain ⟨v116,hv9⟩:=nmq ((v110.alloc (.cells #[.int .i64 0] 3)))
     refine hK.out _ _ (bch hH hba) (fun hH => ?_); clear hba
     rw [← hv9] at Z9 Z11 Z10 hH ⊢
     clear hv9
     obtain ⟨b10,hg9⟩:=nmq (v110.heap.size)
     rw [← hg9] at Z10 HG10 ⊢
     clear hg9
     try go_frame
     refine rd1 18 (fun K hK => ?_)
     ·refine wp_store_if (by rfl) 24 (.tmp 9) (.tmp 24) rfl b9 24 #[.slice none 0 0] #[.slice va vn vc] rfl rfl Z9.out (info24 _) rfl (slice_one _ _ _) ?_
      have Z9' : Hid (Box (v116.setRow b9 #[.slice va vn vc]) b9 24 #[.slice va vn vc]):=hyq (Z9.out.row _)
      have Z10' : Hid (Box (v116.setRow b9 #[.slice va vn vc]) b10 3 _):=hyq (box_row_other Z10.out Z9.out (by decide) _)
      have Z11' : Hid (Box (v116.setRow b9 #[.slice va vn vc]) b11 32 _):=hyq (box_row_other Z11.out Z9.out (by decide) _)
      refine hK.out _ _ (below_row hH HG9.out _) (fun hH => ?_)
      clear Z9 Z10 Z11
      have Z9:=Z9'
      have Z10:=Z10'
      have Z11:=Z11'
      clear Z9' Z10' Z11'
      obtain ⟨v118,hv9⟩:=nmq ((v116.setRow b9 #[.slice va vn vc]))
      rw [← hv9] at Z9 Z10 Z11 hH ⊢
      clear hv9
      try go_frame
      refine rd1 19 (fun K hK => ?_)
      ·have cc : v118.cell? ⟨b10,0,none⟩ = some _:=Z10.out.cell (k:=0) rfl
       have cf:=frozen_of_row v118 b10 0 _ _ Z10.out
       go_simp
       have Z10' : Hid (Box (v118.setCell ⟨b10,0,none⟩ (.int .i64 fine)) b10 3 #[.int .i64 fine]):=hyq (Z10.out.set (k:=0) _)
       have Z9' : Hid (Box (v118.setCell ⟨b10,0,none⟩ (.int .i64 fine)) b9 24 _):=hyq (box_set_other Z9.out Z10.out (by decide) _)
       have Z11' : Hid (Box (v118.setCell ⟨b10,0,none⟩ (.int .i64 fine)) b11 32 _):=hyq (box_set_other Z11.out Z10.out (by decide) _)
       refine hK.out _ _ (hH.setCell (p:=⟨b10,0,none⟩) HG10.out _) (fun hH => ?_)
       clear cc cf
       clear Z9 Z10 Z11
       have Z9:=Z9'
       have Z10:=Z10'
       have Z11:=Z11'
       clear Z9' Z10' Z11'
       obtain ⟨v119,hv9⟩:=nmq ((v118.setCell ⟨b10,0,none⟩ (.int .i64 fine)))
       rw [← hv9] at Z9 Z10 Z11 hH ⊢
       clear hv9
       try go_frame
       refine rd1 20 (fun K hK => ?_)
       ·have cc : v119.cell? ⟨b11,0,none⟩ = some _:=Z11.out.cell (k:=0) rfl
        have cf:=frozen_of_row v119 b11 0 _ _ Z11.out
        go_simp
        have Z11' : Hid (Box (v119.setCell ⟨b11,0,none⟩ (.int .i64 fault)) b11 32 #[.int .i64 fault]):=hyq (Z11.out.set (k:=0) _)
        have Z9' : Hid (Box (v119.setCell ⟨b11,0,none⟩ (.int .i64 fault)) b9 24 _):=hyq (box_set_other Z9.out Z11.out (by decide) _)
        have Z10' : Hid (Box (v119.setCell ⟨b11,0,none⟩ (.int .i64 fault)) b10 3 _):=hyq (box_set_other Z10.out Z11.out (by decide) _)
        refine hK.out _ _ (hH.setCell (p:=⟨b11,0,none⟩) HG11.out _) (fun hH => ?_)
        clear cc cf
        clear Z9 Z10 Z11
        have Z9:=Z9'
        have Z10:=Z10'
        have Z11:=Z11'
        clear Z9' Z10' Z11'
        obtain ⟨v120,hv9⟩:=nmq ((v119.setCell ⟨b11,0,none⟩ (.int .i64 fault)))
        rw [← hv9] at Z9 Z10 Z11 hH ⊢
        clear hv9
        (try go_frame); refine wpAnyH_done (by kernel_rfl) ?_ _
        have HH:=hyq hH
        clear hH
        go_wp2_with fail
        go_ret
        exact FIN.out _ _ _ Z10.out Z11.out HG10.out HG11.out HH.out
   ·go_simp
    have hba : Below v117.heap.size v117 (v117.alloc (.cells #[.int .i64 0] 3)):=below_new _ _
    have Z10 : Hid (Box (v117.alloc (.cells #[.int .i64 0] 3)) v117.heap.size 3 #[.int .i64 0]):=hyq box_new
    have HG10 : Hid (vs.heap.size ≤ v117.heap.size):=hyq hH.size
    have Z9:=hyq (Z9.out.on hba)
    have Z11:=hyq (Z11.out.on hba)
    obtain ⟨v116,hv9⟩:=nmq ((v117.alloc (.cells #[.int .i64 0] 3)))
    refine hK.out _ _ (bch hH hba) (fun hH => ?_); clear hba
    rw [← hv9] at Z9 Z11 Z10 hH ⊢
    clear hv9
    obtain ⟨b10,hg9⟩:=nmq (v117.heap.size)
    rw [← hg9] at Z10 HG10 ⊢
    clear hg9
    try go_frame
    refine rd1 10 (fun K hK => ?_)
    ·go_simp
     refine (HRU.out _ hH).mono ?_
     rintro e v110 ⟨hba,va,vn,vc,rfl⟩
     have Z9:=hyq (Z9.out.on hba)
     have Z10:=hyq (Z10.out.on hba)
     have Z11:=hyq (Z11.out.on hba)
     refine hK.out _ _ (bch hH hba) (fun hH => ?_); clear hba; (try go_frame); refine tk 11 hH ?_; (try go_frame); refine tk 12 hH ?_; (try go_frame); refine tk 13 hH ?_; (try go_frame); refine tk 14 hH ?_; try go_frame
     refine rd1 18 (fun K hK => ?_)
     ·refine wp_store_if (by rfl) 24 (.tmp 9) (.tmp 24) rfl b9 24 #[.slice none 0 0] #[.slice va vn vc] rfl rfl Z9.out (info24 _) rfl (slice_one _ _ _) ?_
      have Z9' : Hid (Box (v110.setRow b9 #[.slice va vn vc]) b9 24 #[.slice va vn vc]):=hyq (Z9.out.row _)
      have Z10' : Hid (Box (v110.setRow b9 #[.slice va vn vc]) b10 3 _):=hyq (box_row_other Z10.out Z9.out (by decide) _)
      have Z11' : Hid (Box (v110.setRow b9 #[.slice va vn vc]) b11 32 _):=hyq (box_row_other Z11.out Z9.out (by decide) _)
      refine hK.out _ _ (below_row hH HG9.out _) (fun hH => ?_)
      clear Z9 Z10 Z11
      have Z9:=Z9'
      have Z10:=Z10'
      have Z11:=Z11'
      clear Z9' Z10' Z11'
      obtain ⟨v118,hv9⟩:=nmq ((v110.setRow b9 #[.slice va vn vc]))
      rw [← hv9] at Z9 Z10 Z11 hH ⊢
      clear hv9
      try go_frame
      refine rd1 19 (fun K hK => ?_)
      ·have cc : v118.cell? ⟨b10,0,none⟩ = some _:=Z10.out.cell (k:=0) rfl
       have cf:=frozen_of_row v118 b10 0 _ _ Z10.out
       go_simp
       have Z10' : Hid (Box (v118.setCell ⟨b10,0,none⟩ (.int .i64 fine)) b10 3 #[.int .i64 fine]):=hyq (Z10.out.set (k:=0) _)
       have Z9' : Hid (Box (v118.setCell ⟨b10,0,none⟩ (.int .i64 fine)) b9 24 _):=hyq (box_set_other Z9.out Z10.out (by decide) _)
       have Z11' : Hid (Box (v118.setCell ⟨b10,0,none⟩ (.int .i64 fine)) b11 32 _):=hyq (box_set_other Z11.out Z10.out (by decide) _)
       refine hK.out _ _ (hH.setCell (p:=⟨b10,0,none⟩) HG10.out _) (fun hH => ?_)
       clear cc cf
       clear Z9 Z10 Z11
       have Z9:=Z9'
       have Z10:=Z10'
       have Z11:=Z11'
       clear Z9' Z10' Z11'
       obtain ⟨v119,hv9⟩:=nmq ((v118.setCell ⟨b10,0,none⟩ (.int .i64 fine)))
       rw [← hv9] at Z9 Z10 Z11 hH ⊢
       clear hv9
       try go_frame
       refine rd1 20 (fun K hK => ?_)
       ·have cc : v119.cell? ⟨b11,0,none⟩ = some _:=Z11.out.cell (k:=0) rfl
        have cf:=frozen_of_row v119 b11 0 _ _ Z11.out
        go_simp
        have Z11' : Hid (Box (v119.setCell ⟨b11,0,none⟩ (.int .i64 fault)) b11 32 #[.int .i64 fault]):=hyq (Z11.out.set (k:=0) _)
        have Z9' : Hid (Box (v119.setCell ⟨b11,0,none⟩ (.int .i64 fault)) b9 24 _):=hyq (box_set_other Z9.out Z11.out (by decide) _)
        have Z10' : Hid (Box (v119.setCell ⟨b11,0,none⟩ (.int .i64 fault)) b10 3 _):=hyq (box_set_other Z10.out Z11.out (by decide) _)
        refine hK.out _ _ (hH.setCell (p:=⟨b11,0,none⟩) HG11.out _) (fun hH => ?_)
        clear cc cf
        clear Z9 Z10 Z11
        have Z9:=Z9'
        have Z10:=Z10'
        have Z11:=Z11'
        clear Z9' Z10' Z11'
        obtain ⟨v120,hv9⟩:=nmq ((v119.setCell ⟨b11,0,none⟩ (.int .i64 fault)))
        rw [← hv9] at Z9 Z10 Z11 hH ⊢
        clear hv9
        (try go_frame); refine wpAnyH_done (by kernel_rfl) ?_ _
        have HH:=hyq hH
        clear hH
        go_wp2_with fail
        go_ret
        exact FIN.out _ _ _ Z10.out Z11.out HG10.out HG11.out HH.out
 ·go_simp
  have hba : Below v0.heap.size v0 (v0.alloc (.cells #[.int .i64 0] 3)):=below_new _ _
  have Z10 : Hid (Box (v0.alloc (.cells #[.int .i64 0] 3)) v0.heap.size 3 #[.int .i64 0]):=hyq box_new
  have HG10 : Hid (vs.heap.size ≤ v0.heap.size):=hyq hH.size
  obtain ⟨v116,hv9⟩:=nmq ((v0.alloc (.cells #[.int .i64 0] 3)))
  refine hK.out _ _ (bch hH hba) (fun hH => ?_); clear hba
  rw [← hv9] at Z10 hH ⊢
  clear hv9
  obtain ⟨b10,hg9⟩:=nmq (v0.heap.size)
  rw [← hg9] at Z10 HG10 ⊢
  clear hg9
  try go_frame
  refine wpAnyH_ready (rs:=[10,15,17]) (by kernel_rfl) (by simp) (AllReadyH.cons rfl (fun K hK => ?_) (AllReadyH.cons rfl (fun K hK => ?_) (AllReadyH.cons rfl (fun K hK => ?_) AllReadyH.nil)))
  ·go_simp
   refine (HRU.out _ hH).mono ?_
   rintro e v110 ⟨hba,va,vn,vc,rfl⟩
   have Z10:=hyq (Z10.out.on hba)
   refine hK.out _ _ (bch hH hba) (fun hH => ?_); clear hba; (try go_frame); refine tk 11 hH ?_; (try go_frame); refine tk 12 hH ?_; (try go_frame); refine tk 13 hH ?_; (try go_frame); refine tk 14 hH ?_; try go_frame
   refine rd2 15 17 (fun K hK => ?_) (fun K hK => ?_)
   ·go_simp
    have hba : Below v110.heap.size v110 (v110.alloc (.cells #[.slice none 0 0] 24)):=below_new _ _
    have Z9 : Hid (Box (v110.alloc (.cells #[.slice none 0 0] 24)) v110.heap.size 24 #[.slice none 0 0]):=hyq box_new
    have HG9 : Hid (vs.heap.size ≤ v110.heap.size):=hyq hH.size
    have Z10:=hyq (Z10.out.on hba)
    obtain ⟨v115,hv9⟩:=nmq ((v110.alloc (.cells #[.slice none 0 0] 24)))
    refine hK.out _ _ (bch hH hba) (fun hH => ?_); clear hba
    rw [← hv9] at Z10 Z9 hH ⊢
    clear hv9
    obtain ⟨b9,hg9⟩:=nmq (v110.heap.size)
    rw [← hg9] at Z9 HG9 ⊢
    clear hg9
    try go_frame
    refine rd1 17 (fun K hK => ?_)
    ·go_simp
     have hba : Below v115.heap.size v115 (v115.alloc (.cells #[.int .i64 0] 32)):=below_new _ _
     have Z11 : Hid (Box (v115.alloc (.cells #[.int .i64 0] 32)) v115.heap.size 32 #[.int .i64 0]):=hyq box_new
     have HG11 : Hid (vs.heap.size ≤ v115.heap.size):=hyq hH.size
     have Z9:=hyq (Z9.out.on hba)
     have Z10:=hyq (Z10.out.on hba)
     obtain ⟨v117,hv9⟩:=nmq ((v115.alloc (.cells #[.int .i64 0] 32)))
     refine hK.out _ _ (bch hH hba) (fun hH => ?_); clear hba
     rw [← hv9] at Z9 Z10 Z11 hH ⊢
     clear hv9
     obtain ⟨b11,hg9⟩:=nmq (v115.heap.size)
     rw [← hg9] at Z11 HG11 ⊢
     clear hg9
     try go_frame
     refine rd1 18 (fun K hK => ?_)
     ·refine wp_store_if (by rfl) 24 (.tmp 9) (.tmp 24) rfl b9 24 #[.slice none 0 0] #[.slice va vn vc] rfl rfl Z9.out (info24 _) rfl (slice_one _ _ _) ?_
      have Z9' : Hid (Box (v117.setRow b9 #[.slice va vn vc]) b9 24 #[.slice va vn vc]):=hyq (Z9.out.row _)
      have Z10' : Hid (Box (v117.setRow b9 #[.slice va vn vc]) b10 3 _):=hyq (box_row_other Z10.out Z9.out (by decide) _)
      have Z11' : Hid (Box (v117.setRow b9 #[.slice va vn vc]) b11 32 _):=hyq (box_row_other Z11.out Z9.out (by decide) _)
      refine hK.out _ _ (below_row hH HG9.out _) (fun hH => ?_)
      clear Z9 Z10 Z11
      have Z9:=Z9'
      have Z10:=Z10'
      have Z11:=Z11'
      clear Z9' Z10' Z11'
      obtain ⟨v118,hv9⟩:=nmq ((v117.setRow b9 #[.slice va vn vc]))
      rw [← hv9] at Z9 Z10 Z11 hH ⊢
      clear hv9
      try go_frame
      refine rd1 19 (fun K hK => ?_)
      ·have cc : v118.cell? ⟨b10,0,none⟩ = some _:=Z10.out.cell (k:=0) rfl
       have cf:=frozen_of_row v118 b10 0 _ _ Z10.out
       go_simp
       have Z10' : Hid (Box (v118.setCell ⟨b10,0,none⟩ (.int .i64 fine)) b10 3 #[.int .i64 fine]):=hyq (Z10.out.set (k:=0) _)
       have Z9' : Hid (Box (v118.setCell ⟨b10,0,none⟩ (.int .i64 fine)) b9 24 _):=hyq (box_set_other Z9.out Z10.out (by decide) _)
       have Z11' : Hid (Box (v118.setCell ⟨b10,0,none⟩ (.int .i64 fine)) b11 32 _):=hyq (box_set_other Z11.out Z10.out (by decide) _)
       refine hK.out _ _ (hH.setCell (p:=⟨b10,0,none⟩) HG10.out _) (fun hH => ?_)
       clear cc cf
       clear Z9 Z10 Z11
       have Z9:=Z9'
       have Z10:=Z10'
       have Z11:=Z11'
       clear Z9' Z10' Z11'
       obtain ⟨v119,hv9⟩:=nmq ((v118.setCell ⟨b10,0,none⟩ (.int .i64 fine)))
       rw [← hv9] at Z9 Z10 Z11 hH ⊢
       clear hv9
       try go_frame
       refine rd1 20 (fun K hK => ?_)
       ·have cc : v119.cell? ⟨b11,0,none⟩ = some _:=Z11.out.cell (k:=0) rfl
        have cf:=frozen_of_row v119 b11 0 _ _ Z11.out
        go_simp
        have Z11' : Hid (Box (v119.setCell ⟨b11,0,none⟩ (.int .i64 fault)) b11 32 #[.int .i64 fault]):=hyq (Z11.out.set (k:=0) _)
        have Z9' : Hid (Box (v119.setCell ⟨b11,0,none⟩ (.int .i64 fault)) b9 24 _):=hyq (box_set_other Z9.out Z11.out (by decide) _)
        have Z10' : Hid (Box (v119.setCell ⟨b11,0,none⟩ (.int .i64 fault)) b10 3 _):=hyq (box_set_other Z10.out Z11.out (by decide) _)
        refine hK.out _ _ (hH.setCell (p:=⟨b11,0,none⟩) HG11.out _) (fun hH => ?_)
        clear cc cf
        clear Z9 Z10 Z11
        have Z9:=Z9'
        have Z10:=Z10'
        have Z11:=Z11'
        clear Z9' Z10' Z11'
        obtain ⟨v120,hv9⟩:=nmq ((v119.setCell ⟨b11,0,none⟩ (.int .i64 fault)))
        rw [← hv9] at Z9 Z10 Z11 hH ⊢
        clear hv9
        (try go_frame); refine wpAnyH_done (by kernel_rfl) ?_ _
        have HH:=hyq hH
        clear hH
        go_wp2_with fail
        go_ret
        exact FIN.out _ _ _ Z10.out Z11.out HG10.out HG11.out HH.out
   ·go_simp
    have hba : Below v110.heap.size v110 (v110.alloc (.cells #[.int .i64 0] 32)):=below_new _ _
    have Z11 : Hid (Box (v110.alloc (.cells #[.int .i64 0] 32)) v110.heap.size 32 #[.int .i64 0]):=hyq box_new
    have HG11 : Hid (vs.heap.size ≤ v110.heap.size):=hyq hH.size
    have Z10:=hyq (Z10.out.on hba)
    obtain ⟨v117,hv9⟩:=nmq ((v110.alloc (.cells #[.int .i64 0] 32)))
    refine hK.out _ _ (bch hH hba) (fun hH => ?_); clear hba
    rw [← hv9] at Z10 Z11 hH ⊢
    clear hv9
    obtain ⟨b11,hg9⟩:=nmq (v110.heap.size)
    rw [← hg9] at Z11 HG11 ⊢
    clear hg9
    try go_frame
    refine rd1 15 (fun K hK => ?_)
    ·go_simp
     have hba : Below v117.heap.size v117 (v117.alloc (.cells #[.slice none 0 0] 24)):=below_new _ _
     have Z9 : Hid (Box (v117.alloc (.cells #[.slice none 0 0] 24)) v117.heap.size 24 #[.slice none 0 0]):=hyq box_new
     have HG9 : Hid (vs.heap.size ≤ v117.heap.size):=hyq hH.size
     have Z10:=hyq (Z10.out.on hba)
     have Z11:=hyq (Z11.out.on hba)
     obtain ⟨v115,hv9⟩:=nmq ((v117.alloc (.cells #[.slice none 0 0] 24)))
     refine hK.out _ _ (bch hH hba) (fun hH => ?_); clear hba
     rw [← hv9] at Z10 Z11 Z9 hH ⊢
     clear hv9
     obtain ⟨b9,hg9⟩:=nmq (v117.heap.size)
     rw [← hg9] at Z9 HG9 ⊢
     clear hg9
     try go_frame
     refine rd1 18 (fun K hK => ?_)
     ·refine wp_store_if (by rfl) 24 (.tmp 9) (.tmp 24) rfl b9 24 #[.slice none 0 0] #[.slice va vn vc] rfl rfl Z9.out (info24 _) rfl (slice_one _ _ _) ?_
      have Z9' : Hid (Box (v115.setRow b9 #[.slice va vn vc]) b9 24 #[.slice va vn vc]):=hyq (Z9.out.row _)
      have Z10' : Hid (Box (v115.setRow b9 #[.slice va vn vc]) b10 3 _):=hyq (box_row_other Z10.out Z9.out (by decide) _)
      have Z11' : Hid (Box (v115.setRow b9 #[.slice va vn vc]) b11 32 _):=hyq (box_row_other Z11.out Z9.out (by decide) _)
      refine hK.out _ _ (below_row hH HG9.out _) (fun hH => ?_)
      clear Z9 Z10 Z11
      have Z9:=Z9'
      have Z10:=Z10'
      have Z11:=Z11'
      clear Z9' Z10' Z11'
      obtain ⟨v118,hv9⟩:=nmq ((v115.setRow b9 #[.slice va vn vc]))
      rw [← hv9] at Z9 Z10 Z11 hH ⊢
      clear hv9
      try go_frame
      refine rd1 19 (fun K hK => ?_)
      ·have cc : v118.cell? ⟨b10,0,none⟩ = some _:=Z10.out.cell (k:=0) rfl
       have cf:=frozen_of_row v118 b10 0 _ _ Z10.out
       go_simp
       have Z10' : Hid (Box (v118.setCell ⟨b10,0,none⟩ (.int .i64 fine)) b10 3 #[.int .i64 fine]):=hyq (Z10.out.set (k:=0) _)
       have Z9' : Hid (Box (v118.setCell ⟨b10,0,none⟩ (.int .i64 fine)) b9 24 _):=hyq (box_set_other Z9.out Z10.out (by decide) _)
       have Z11' : Hid (Box (v118.setCell ⟨b10,0,none⟩ (.int .i64 fine)) b11 32 _):=hyq (box_set_other Z11.out Z10.out (by decide) _)
       refine hK.out _ _ (hH.setCell (p:=⟨b10,0,none⟩) HG10.out _) (fun hH => ?_)
       clear cc cf
       clear Z9 Z10 Z11
       have Z9:=Z9'
       have Z10:=Z10'
       have Z11:=Z11'
       clear Z9' Z10' Z11'
       obtain ⟨v119,hv9⟩:=nmq ((v118.setCell ⟨b10,0,none⟩ (.int .i64 fine)))
       rw [← hv9] at Z9 Z10 Z11 hH ⊢
       clear hv9
       try go_frame
       refine rd1 20 (fun K hK => ?_)
       ·have cc : v119.cell? ⟨b11,0,none⟩ = some _:=Z11.out.cell (k:=0) rfl
        have cf:=frozen_of_row v119 b11 0 _ _ Z11.out
        go_simp
        have Z11' : Hid (Box (v119.setCell ⟨b11,0,none⟩ (.int .i64 fault)) b11 32 #[.int .i64 fault]):=hyq (Z11.out.set (k:=0) _)
        have Z9' : Hid (Box (v119.setCell ⟨b11,0,none⟩ (.int .i64 fault)) b9 24 _):=hyq (box_set_other Z9.out Z11.out (by decide) _)
        have Z10' : Hid (Box (v119.setCell ⟨b11,0,none⟩ (.int .i64 fault)) b10 3 _):=hyq (box_set_other Z10.out Z11.out (by decide) _)
        refine hK.out _ _ (hH.setCell (p:=⟨b11,0,none⟩) HG11.out _) (fun hH => ?_)
        clear cc cf
        clear Z9 Z10 Z11
        have Z9:=Z9'
        have Z10:=Z10'
        have Z11:=Z11'
        clear Z9' Z10' Z11'
        obtain ⟨v120,hv9⟩:=nmq ((v119.setCell ⟨b11,0,none⟩ (.int .i64 fault)))
        rw [← hv9] at Z9 Z10 Z11 hH ⊢
        clear hv9
        (try go_frame); refine wpAnyH_done (by kernel_rfl) ?_ _
        have HH:=hyq hH
        clear hH
        go_wp2_with fail
        go_ret
        exact FIN.out _ _ _ Z10.out Z11.out HG10.out HG11.out HH.out
  ·go_simp
   have hba : Below v116.heap.size v116 (v116.alloc (.cells #[.slice none 0 0] 24)):=below_new _ _
   have Z9 : Hid (Box (v116.alloc (.cells #[.slice none 0 0] 24)) v116.heap.size 24 #[.slice none 0 0]):=hyq box_new
   have HG9 : Hid (vs.heap.size ≤ v116.heap.size):=hyq hH.size
   have Z10:=hyq (Z10.out.on hba)
   obtain ⟨v115,hv9⟩:=nmq ((v116.alloc (.cells #[.slice none 0 0] 24)))
   refine hK.out _ _ (bch hH hba) (fun hH => ?_); clear hba
   rw [← hv9] at Z10 Z9 hH ⊢
   clear hv9
   obtain ⟨b9,hg9⟩:=nmq (v116.heap.size)
   rw [← hg9] at Z9 HG9 ⊢
   clear hg9
   try go_frame
   refine rd2 10 17 (fun K hK => ?_) (fun K hK => ?_)
   ·go_simp
    refine (HRU.out _ hH).mono ?_
    rintro e v110 ⟨hba,va,vn,vc,rfl⟩
    have Z9:=hyq (Z9.out.on hba)
    have Z10:=hyq (Z10.out.on hba)
    refine hK.out _ _ (bch hH hba) (fun hH => ?_); clear hba; (try go_frame); refine tk 11 hH ?_; (try go_frame); refine tk 12 hH ?_; (try go_frame); refine tk 13 hH ?_; (try go_frame); refine tk 14 hH ?_; try go_frame
    refine rd1 17 (fun K hK => ?_)
    ·go_simp
     have hba : Below v110.heap.size v110 (v110.alloc (.cells #[.int .i64 0] 32)):=below_new _ _
     have Z11 : Hid (Box (v110.alloc (.cells #[.int .i64 0] 32)) v110.heap.size 32 #[.int .i64 0]):=hyq box_new
     have HG11 : Hid (vs.heap.size ≤ v110.heap.size):=hyq hH.size
     have Z9:=hyq (Z9.out.on hba)
     have Z10:=hyq (Z10.out.on hba)
     obtain ⟨v117,hv9⟩:=nmq ((v110.alloc (.cells #[.int .i64 0] 32)))
     refine hK.out _ _ (bch hH hba) (fun hH => ?_); clear hba
     rw [← hv9] at Z9 Z10 Z11 hH ⊢
     clear hv9
     obtain ⟨b11,hg9⟩:=nmq (v110.heap.size)
     rw [← hg9] at Z11 HG11 ⊢
     clear hg9
     try go_frame
     refine rd1 18 (fun K hK => ?_)
     ·refine wp_store_if (by rfl) 24 (.tmp 9) (.tmp 24) rfl b9 24 #[.slice none 0 0] #[.slice va vn vc] rfl rfl Z9.out (info24 _) rfl (slice_one _ _ _) ?_
      have Z9' : Hid (Box (v117.setRow b9 #[.slice va vn vc]) b9 24 #[.slice va vn vc]):=hyq (Z9.out.row _)
      have Z10' : Hid (Box (v117.setRow b9 #[.slice va vn vc]) b10 3 _):=hyq (box_row_other Z10.out Z9.out (by decide) _)
      have Z11' : Hid (Box (v117.setRow b9 #[.slice va vn vc]) b11 32 _):=hyq (box_row_other Z11.out Z9.out (by decide) _)
      refine hK.out _ _ (below_row hH HG9.out _) (fun hH => ?_)
      clear Z9 Z10 Z11
      have Z9:=Z9'
      have Z10:=Z10'
      have Z11:=Z11'
      clear Z9' Z10' Z11'
      obtain ⟨v118,hv9⟩:=nmq ((v117.setRow b9 #[.slice va vn vc]))
      rw [← hv9] at Z9 Z10 Z11 hH ⊢
      clear hv9
      try go_frame
      refine rd1 19 (fun K hK => ?_)
      ·have cc : v118.cell? ⟨b10,0,none⟩ = some _:=Z10.out.cell (k:=0) rfl
       have cf:=frozen_of_row v118 b10 0 _ _ Z10.out
       go_simp
       have Z10' : Hid (Box (v118.setCell ⟨b10,0,none⟩ (.int .i64 fine)) b10 3 #[.int .i64 fine]):=hyq (Z10.out.set (k:=0) _)
       have Z9' : Hid (Box (v118.setCell ⟨b10,0,none⟩ (.int .i64 fine)) b9 24 _):=hyq (box_set_other Z9.out Z10.out (by decide) _)
       have Z11' : Hid (Box (v118.setCell ⟨b10,0,none⟩ (.int .i64 fine)) b11 32 _):=hyq (box_set_other Z11.out Z10.out (by decide) _)
       refine hK.out _ _ (hH.setCell (p:=⟨b10,0,none⟩) HG10.out _) (fun hH => ?_)
       clear cc cf
       clear Z9 Z10 Z11
       have Z9:=Z9'
       have Z10:=Z10'
       have Z11:=Z11'
       clear Z9' Z10' Z11'
       obtain ⟨v119,hv9⟩:=nmq ((v118.setCell ⟨b10,0,none⟩ (.int .i64 fine)))
       rw [← hv9] at Z9 Z10 Z11 hH ⊢
       clear hv9
       try go_frame
       refine rd1 20 (fun K hK => ?_)
       ·have cc : v119.cell? ⟨b11,0,none⟩ = some _:=Z11.out.cell (k:=0) rfl
        have cf:=frozen_of_row v119 b11 0 _ _ Z11.out
        go_simp
        have Z11' : Hid (Box (v119.setCell ⟨b11,0,none⟩ (.int .i64 fault)) b11 32 #[.int .i64 fault]):=hyq (Z11.out.set (k:=0) _)
        have Z9' : Hid (Box (v119.setCell ⟨b11,0,none⟩ (.int .i64 fault)) b9 24 _):=hyq (box_set_other Z9.out Z11.out (by decide) _)
        have Z10' : Hid (Box (v119.setCell ⟨b11,0,none⟩ (.int .i64 fault)) b10 3 _):=hyq (box_set_other Z10.out Z11.out (by decide) _)
        refine hK.out _ _ (hH.setCell (p:=⟨b11,0,none⟩) HG11.out _) (fun hH => ?_)
        clear cc cf
        clear Z9 Z10 Z11
        have Z9:=Z9'
        have Z10:=Z10'
        have Z11:=Z11'
        clear Z9' Z10' Z11'
        obtain ⟨v120,hv9⟩:=nmq ((v119.setCell ⟨b11,0,none⟩ (.int .i64 fault)))
        rw [← hv9] at Z9 Z10 Z11 hH ⊢
        clear hv9
        (try go_frame); refine wpAnyH_done (by kernel_rfl) ?_ _
        have HH:=hyq hH
        clear hH
        go_wp2_with fail
        go_ret
        exact FIN.out _ _ _ Z10.out Z11.out HG10.out HG11.out HH.out
   ·go_simp
    have hba : Below v115.heap.size v115 (v115.alloc (.cells #[.int .i64 0] 32)):=below_new _ _
    have Z11 : Hid (Box (v115.alloc (.cells #[.int .i64 0] 32)) v115.heap.size 32 #[.int .i64 0]):=hyq box_new
    have HG11 : Hid (vs.heap.size ≤ v115.heap.size):=hyq hH.size
    have Z9:=hyq (Z9.out.on hba)
    have Z10:=hyq (Z10.out.on hba)
    obtain ⟨v117,hv9⟩:=nmq ((v115.alloc (.cells #[.int .i64 0] 32)))
    refine hK.out _ _ (bch hH hba) (fun hH => ?_); clear hba
    rw [← hv9] at Z9 Z10 Z11 hH ⊢
    clear hv9
    obtain ⟨b11,hg9⟩:=nmq (v115.heap.size)
    rw [← hg9] at Z11 HG11 ⊢
    clear hg9
    try go_frame
    refine rd1 10 (fun K hK => ?_)
    ·go_simp
     refine (HRU.out _ hH).mono ?_
     rintro e v110 ⟨hba,va,vn,vc,rfl⟩
     have Z9:=hyq (Z9.out.on hba)
     have Z10:=hyq (Z10.out.on hba)
     have Z11:=hyq (Z11.out.on hba)
     refine hK.out _ _ (bch hH hba) (fun hH => ?_); clear hba; (try go_frame); refine tk 11 hH ?_; (try go_frame); refine tk 12 hH ?_; (try go_frame); refine tk 13 hH ?_; (try go_frame); refine tk 14 hH ?_; try go_frame
     refine rd1 18 (fun K hK => ?_)
     ·refine wp_store_if (by rfl) 24 (.tmp 9) (.tmp 24) rfl b9 24 #[.slice none 0 0] #[.slice va vn vc] rfl rfl Z9.out (info24 _) rfl (slice_one _ _ _) ?_
      have Z9' : Hid (Box (v110.setRow b9 #[.slice va vn vc]) b9 24 #[.slice va vn vc]):=hyq (Z9.out.row _)
      have Z10' : Hid (Box (v110.setRow b9 #[.slice va vn vc]) b10 3 _):=hyq (box_row_other Z10.out Z9.out (by decide) _)
      have Z11' : Hid (Box (v110.setRow b9 #[.slice va vn vc]) b11 32 _):=hyq (box_row_other Z11.out Z9.out (by decide) _)
      refine hK.out _ _ (below_row hH HG9.out _) (fun hH => ?_)
      clear Z9 Z10 Z11
      have Z9:=Z9'
      have Z10:=Z10'
      have Z11:=Z11'
      clear Z9' Z10' Z11'
      obtain ⟨v118,hv9⟩:=nmq ((v110.setRow b9 #[.slice va vn vc]))
      rw [← hv9] at Z9 Z10 Z11 hH ⊢
      clear hv9
      try go_frame
      refine rd1 19 (fun K hK => ?_)
      ·have cc : v118.cell? ⟨b10,0,none⟩ = some _:=Z10.out.cell (k:=0) rfl
       have cf:=frozen_of_row v118 b10 0 _ _ Z10.out
       go_simp
       have Z10' : Hid (Box (v118.setCell ⟨b10,0,none⟩ (.int .i64 fine)) b10 3 #[.int .i64 fine]):=hyq (Z10.out.set (k:=0) _)
       have Z9' : Hid (Box (v118.setCell ⟨b10,0,none⟩ (.int .i64 fine)) b9 24 _):=hyq (box_set_other Z9.out Z10.out (by decide) _)
       have Z11' : Hid (Box (v118.setCell ⟨b10,0,none⟩ (.int .i64 fine)) b11 32 _):=hyq (box_set_other Z11.out Z10.out (by decide) _)
       refine hK.out _ _ (hH.setCell (p:=⟨b10,0,none⟩) HG10.out _) (fun hH => ?_)
       clear cc cf
       clear Z9 Z10 Z11
       have Z9:=Z9'
       have Z10:=Z10'
       have Z11:=Z11'
       clear Z9' Z10' Z11'
       obtain ⟨v119,hv9⟩:=nmq ((v118.setCell ⟨b10,0,none⟩ (.int .i64 fine)))
       rw [← hv9] at Z9 Z10 Z11 hH ⊢
       clear hv9
       try go_frame
       refine rd1 20 (fun K hK => ?_)
       ·have cc : v119.cell? ⟨b11,0,none⟩ = some _:=Z11.out.cell (k:=0) rfl
        have cf:=frozen_of_row v119 b11 0 _ _ Z11.out
        go_simp
        have Z11' : Hid (Box (v119.setCell ⟨b11,0,none⟩ (.int .i64 fault)) b11 32 #[.int .i64 fault]):=hyq (Z11.out.set (k:=0) _)
        have Z9' : Hid (Box (v119.setCell ⟨b11,0,none⟩ (.int .i64 fault)) b9 24 _):=hyq (box_set_other Z9.out Z11.out (by decide) _)
        have Z10' : Hid (Box (v119.setCell ⟨b11,0,none⟩ (.int .i64 fault)) b10 3 _):=hyq (box_set_other Z10.out Z11.out (by decide) _)
        refine hK.out _ _ (hH.setCell (p:=⟨b11,0,none⟩) HG11.out _) (fun hH => ?_)
        clear cc cf
        clear Z9 Z10 Z11
        have Z9:=Z9'
        have Z10:=Z10'
        have Z11:=Z11'
        clear Z9' Z10' Z11'
        obtain ⟨v120,hv9⟩:=nmq ((v119.setCell ⟨b11,0,none⟩ (.int .i64 fault)))
        rw [← hv9] at Z9 Z10 Z11 hH ⊢
        clear hv9
        (try go_frame); refine wpAnyH_done (by kernel_rfl) ?_ _
        have HH:=hyq hH
        clear hH
        go_wp2_with fail
        go_ret
        exact FIN.out _ _ _ Z10.out Z11.out HG10.out HG11.out HH.out
  ·go_simp
   have hba : Below v116.heap.size v116 (v116.alloc (.cells #[.int .i64 0] 32)):=below_new _ _
   have Z11 : Hid (Box (v116.alloc (.cells #[.int .i64 0] 32)) v116.heap.size 32 #[.int .i64 0]):=hyq box_new
   have HG11 : Hid (vs.heap.size ≤ v116.heap.size):=hyq hH.size
   have Z10:=hyq (Z10.out.on hba)
   obtain ⟨v117,hv9⟩:=nmq ((v116.alloc (.cells #[.int .i64 0] 32)))
   refine hK.out _ _ (bch hH hba) (fun hH => ?_); clear hba
   rw [← hv9] at Z10 Z11 hH ⊢
   clear hv9
   obtain ⟨b11,hg9⟩:=nmq (v116.heap.size)
   rw [← hg9] at Z11 HG11 ⊢
   clear hg9
   try go_frame
   refine rd2 10 15 (fun K hK => ?_) (fun K hK => ?_)
   ·go_simp
    refine (HRU.out _ hH).mono ?_
    rintro e v110 ⟨hba,va,vn,vc,rfl⟩
    have Z10:=hyq (Z10.out.on hba)
    have Z11:=hyq (Z11.out.on hba)
    refine hK.out _ _ (bch hH hba) (fun hH => ?_); clear hba; (try go_frame); refine tk 11 hH ?_; (try go_frame); refine tk 12 hH ?_; (try go_frame); refine tk 13 hH ?_; (try go_frame); refine tk 14 hH ?_; try go_frame
    refine rd1 15 (fun K hK => ?_)
    ·go_simp
     have hba : Below v110.heap.size v110 (v110.alloc (.cells #[.slice none 0 0] 24)):=below_new _ _
     have Z9 : Hid (Box (v110.alloc (.cells #[.slice none 0 0] 24)) v110.heap.size 24 #[.slice none 0 0]):=hyq box_new
     have HG9 : Hid (vs.heap.size ≤ v110.heap.size):=hyq hH.size
     have Z10:=hyq (Z10.out.on hba)
     have Z11:=hyq (Z11.out.on hba)
     obtain ⟨v115,hv9⟩:=nmq ((v110.alloc (.cells #[.slice none 0 0] 24)))
     refine hK.out _ _ (bch hH hba) (fun hH => ?_); clear hba
     rw [← hv9] at Z10 Z11 Z9 hH ⊢
     clear hv9
     obtain ⟨b9,hg9⟩:=nmq (v110.heap.size)
     rw [← hg9] at Z9 HG9 ⊢
     clear hg9
     try go_frame
     refine rd1 18 (fun K hK => ?_)
     ·refine wp_store_if (by rfl) 24 (.tmp 9) (.tmp 24) rfl b9 24 #[.slice none 0 0] #[.slice va vn vc] rfl rfl Z9.out (info24 _) rfl (slice_one _ _ _) ?_
      have Z9' : Hid (Box (v115.setRow b9 #[.slice va vn vc]) b9 24 #[.slice va vn vc]):=hyq (Z9.out.row _)
      have Z10' : Hid (Box (v115.setRow b9 #[.slice va vn vc]) b10 3 _):=hyq (box_row_other Z10.out Z9.out (by decide) _)
      have Z11' : Hid (Box (v115.setRow b9 #[.slice va vn vc]) b11 32 _):=hyq (box_row_other Z11.out Z9.out (by decide) _)
      refine hK.out _ _ (below_row hH HG9.out _) (fun hH => ?_)
      clear Z9 Z10 Z11
      have Z9:=Z9'
      have Z10:=Z10'
      have Z11:=Z11'
      clear Z9' Z10' Z11'
      obtain ⟨v118,hv9⟩:=nmq ((v115.setRow b9 #[.slice va vn vc]))
      rw [← hv9] at Z9 Z10 Z11 hH ⊢
      clear hv9
      try go_frame
      refine rd1 19 (fun K hK => ?_)
      ·have cc : v118.cell? ⟨b10,0,none⟩ = some _:=Z10.out.cell (k:=0) rfl
       have cf:=frozen_of_row v118 b10 0 _ _ Z10.out
       go_simp
       have Z10' : Hid (Box (v118.setCell ⟨b10,0,none⟩ (.int .i64 fine)) b10 3 #[.int .i64 fine]):=hyq (Z10.out.set (k:=0) _)
       have Z9' : Hid (Box (v118.setCell ⟨b10,0,none⟩ (.int .i64 fine)) b9 24 _):=hyq (box_set_other Z9.out Z10.out (by decide) _)
       have Z11' : Hid (Box (v118.setCell ⟨b10,0,none⟩ (.int .i64 fine)) b11 32 _):=hyq (box_set_other Z11.out Z10.out (by decide) _)
       refine hK.out _ _ (hH.setCell (p:=⟨b10,0,none⟩) HG10.out _) (fun hH => ?_)
       clear cc cf
       clear Z9 Z10 Z11
       have Z9:=Z9'
       have Z10:=Z10'
       have Z11:=Z11'
       clear Z9' Z10' Z11'
       obtain ⟨v119,hv9⟩:=nmq ((v118.setCell ⟨b10,0,none⟩ (.int .i64 fine)))
       rw [← hv9] at Z9 Z10 Z11 hH ⊢
       clear hv9
       try go_frame
       refine rd1 20 (fun K hK => ?_)
       ·have cc : v119.cell? ⟨b11,0,none⟩ = some _:=Z11.out.cell (k:=0) rfl
        have cf:=frozen_of_row v119 b11 0 _ _ Z11.out
        go_simp
        have Z11' : Hid (Box (v119.setCell ⟨b11,0,none⟩ (.int .i64 fault)) b11 32 #[.int .i64 fault]):=hyq (Z11.out.set (k:=0) _)
        have Z9' : Hid (Box (v119.setCell ⟨b11,0,none⟩ (.int .i64 fault)) b9 24 _):=hyq (box_set_other Z9.out Z11.out (by decide) _)
        have Z10' : Hid (Box (v119.setCell ⟨b11,0,none⟩ (.int .i64 fault)) b10 3 _):=hyq (box_set_other Z10.out Z11.out (by decide) _)
        refine hK.out _ _ (hH.setCell (p:=⟨b11,0,none⟩) HG11.out _) (fun hH => ?_)
        clear cc cf
        clear Z9 Z10 Z11
        have Z9:=Z9'
        have Z10:=Z10'
        have Z11:=Z11'
        clear Z9' Z10' Z11'
        obtain ⟨v120,hv9⟩:=nmq ((v119.setCell ⟨b11,0,none⟩ (.int .i64 fault)))
        rw [← hv9] at Z9 Z10 Z11 hH ⊢
        clear hv9
        (try go_frame); refine wpAnyH_done (by kernel_rfl) ?_ _
        have HH:=hyq hH
        clear hH
        go_wp2_with fail
        go_ret
        exact FIN.out _ _ _ Z10.out Z11.out HG10.out HG11.out HH.out
   ·go_simp
    have hba : Below v117.heap.size v117 (v117.alloc (.cells #[.slice none 0 0] 24)):=below_new _ _
    have Z9 : Hid (Box (v117.alloc (.cells #[.slice none 0 0] 24)) v117.heap.size 24 #[.slice none 0 0]):=hyq box_new
    have HG9 : Hid (vs.heap.size ≤ v117.heap.size):=hyq hH.size
    have Z10:=hyq (Z10.out.on hba)
    have Z11:=hyq (Z11.out.on hba)
    obtain ⟨v115,hv9⟩:=nmq ((v117.alloc (.cells #[.slice none 0 0] 24)))
    refine hK.out _ _ (bch hH hba) (fun hH => ?_); clear hba
    rw [← hv9] at Z10 Z11 Z9 hH ⊢
    clear hv9
    obtain ⟨b9,hg9⟩:=nmq (v117.heap.size)
    rw [← hg9] at Z9 HG9 ⊢
    clear hg9
    try go_frame
    refine rd1 10 (fun K hK => ?_)
    ·go_simp
     refine (HRU.out _ hH).mono ?_
     rintro e v110 ⟨hba,va,vn,vc,rfl⟩
     have Z9:=hyq (Z9.out.on hba)
     have Z10:=hyq (Z10.out.on hba)
     have Z11:=hyq (Z11.out.on hba)
     refine hK.out _ _ (bch hH hba) (fun hH => ?_); clear hba; (try go_frame); refine tk 11 hH ?_; (try go_frame); refine tk 12 hH ?_; (try go_frame); refine tk 13 hH ?_; (try go_frame); refine tk 14 hH ?_; try go_frame
     refine rd1 18 (fun K hK => ?_)
     ·refine wp_store_if (by rfl) 24 (.tmp 9) (.tmp 24) rfl b9 24 #[.slice none 0 0] #[.slice va vn vc] rfl rfl Z9.out (info24 _) rfl (slice_one _ _ _) ?_
      have Z9' : Hid (Box (v110.setRow b9 #[.slice va vn vc]) b9 24 #[.slice va vn vc]):=hyq (Z9.out.row _)
      have Z10' : Hid (Box (v110.setRow b9 #[.slice va vn vc]) b10 3 _):=hyq (box_row_other Z10.out Z9.out (by decide) _)
      have Z11' : Hid (Box (v110.setRow b9 #[.slice va vn vc]) b11 32 _):=hyq (box_row_other Z11.out Z9.out (by decide) _)
      refine hK.out _ _ (below_row hH HG9.out _) (fun hH => ?_)
      clear Z9 Z10 Z11
      have Z9:=Z9'
      have Z10:=Z10'
      have Z11:=Z11'
      clear Z9' Z10' Z11'
      obtain ⟨v118,hv9⟩:=nmq ((v110.setRow b9 #[.slice va vn vc]))
      rw [← hv9] at Z9 Z10 Z11 hH ⊢
      clear hv9
      try go_frame
      refine rd1 19 (fun K hK => ?_)
      ·have cc : v118.cell? ⟨b10,0,none⟩ = some _:=Z10.out.cell (k:=0) rfl
       have cf:=frozen_of_row v118 b10 0 _ _ Z10.out
       go_simp
       have Z10' : Hid (Box (v118.setCell ⟨b10,0,none⟩ (.int .i64 fine)) b10 3 #[.int .i64 fine]):=hyq (Z10.out.set (k:=0) _)
       have Z9' : Hid (Box (v118.setCell ⟨b10,0,none⟩ (.int .i64 fine)) b9 24 _):=hyq (box_set_other Z9.out Z10.out (by decide) _)
       have Z11' : Hid (Box (v118.setCell ⟨b10,0,none⟩ (.int .i64 fine)) b11 32 _):=hyq (box_set_other Z11.out Z10.out (by decide) _)
       refine hK.out _ _ (hH.setCell (p:=⟨b10,0,none⟩) HG10.out _) (fun hH => ?_)
       clear cc cf
       clear Z9 Z10 Z11
       have Z9:=Z9'
       have Z10:=Z10'
       have Z11:=Z11'
       clear Z9' Z10' Z11'
       obtain ⟨v119,hv9⟩:=nmq ((v118.setCell ⟨b10,0,none⟩ (.int .i64 fine)))
       rw [← hv9] at Z9 Z10 Z11 hH ⊢
       clear hv9
       try go_frame
       refine rd1 20 (fun K hK => ?_)
       ·have cc : v119.cell? ⟨b11,0,none⟩ = some _:=Z11.out.cell (k:=0) rfl
        have cf:=frozen_of_row v119 b11 0 _ _ Z11.out
        go_simp
        have Z11' : Hid (Box (v119.setCell ⟨b11,0,none⟩ (.int .i64 fault)) b11 32 #[.int .i64 fault]):=hyq (Z11.out.set (k:=0) _)
        have Z9' : Hid (Box (v119.setCell ⟨b11,0,none⟩ (.int .i64 fault)) b9 24 _):=hyq (box_set_other Z9.out Z11.out (by decide) _)
        have Z10' : Hid (Box (v119.setCell ⟨b11,0,none⟩ (.int .i64 fault)) b10 3 _):=hyq (box_set_other Z10.out Z11.out (by decide) _)
        refine hK.out _ _ (hH.setCell (p:=⟨b11,0,none⟩) HG11.out _) (fun hH => ?_)
        clear cc cf
        clear Z9 Z10 Z11
        have Z9:=Z9'
        have Z10:=Z10'
        have Z11:=Z11'
        clear Z9' Z10' Z11'
        obtain ⟨v120,hv9⟩:=nmq ((v119.setCell ⟨b11,0,none⟩ (.int .i64 fault)))
        rw [← hv9] at Z9 Z10 Z11 hH ⊢
        clear hv9
        (try go_frame); refine wpAnyH_done (by kernel_rfl) ?_ _
        have HH:=hyq hH
        clear hH
        go_wp2_with fail
        go_ret
        exact FIN.out _ _ _ Z10.out Z11.out HG10.out HG11.out HH.out
 ·go_simp
  have hba : Below v0.heap.size v0 (v0.alloc (.cells #[.int .i64 0] 32)):=below_new _ _
  have Z11 : Hid (Box (v0.alloc (.cells #[.int .i64 0] 32)) v0.heap.size 32 #[.int .i64 0]):=hyq box_new
  have HG11 : Hid (vs.heap.size ≤ v0.heap.size):=hyq hH.size
  obtain ⟨v117,hv9⟩:=nmq ((v0.alloc (.cells #[.int .i64 0] 32)))
  refine hK.out _ _ (bch hH hba) (fun hH => ?_); clear hba
  rw [← hv9] at Z11 hH ⊢
  clear hv9
  obtain ⟨b11,hg9⟩:=nmq (v0.heap.size)
  rw [← hg9] at Z11 HG11 ⊢
  clear hg9
  try go_frame
  refine wpAnyH_ready (rs:=[10,15,16]) (by kernel_rfl) (by simp) (AllReadyH.cons rfl (fun K hK => ?_) (AllReadyH.cons rfl (fun K hK => ?_) (AllReadyH.cons rfl (fun K hK => ?_) AllReadyH.nil)))
  ·go_simp
   refine (HRU.out _ hH).mono ?_
   rintro e v110 ⟨hba,va,vn,vc,rfl⟩
   have Z11:=hyq (Z11.out.on hba)
   refine hK.out _ _ (bch hH hba) (fun hH => ?_); clear hba; (try go_frame); refine tk 11 hH ?_; (try go_frame); refine tk 12 hH ?_; (try go_frame); refine tk 13 hH ?_; (try go_frame); refine tk 14 hH ?_; try go_frame
   refine rd2 15 16 (fun K hK => ?_) (fun K hK => ?_)
   ·go_simp
    have hba : Below v110.heap.size v110 (v110.alloc (.cells #[.slice none 0 0] 24)):=below_new _ _
    have Z9 : Hid (Box (v110.alloc (.cells #[.slice none 0 0] 24)) v110.heap.size 24 #[.slice none 0 0]):=hyq box_new
    have HG9 : Hid (vs.heap.size ≤ v110.heap.size):=hyq hH.size
    have Z11:=hyq (Z11.out.on hba)
    obtain ⟨v115,hv9⟩:=nmq ((v110.alloc (.cells #[.slice none 0 0] 24)))
    refine hK.out _ _ (bch hH hba) (fun hH => ?_); clear hba
    rw [← hv9] at Z11 Z9 hH ⊢
    clear hv9
    obtain ⟨b9,hg9⟩:=nmq (v110.heap.size)
    rw [← hg9] at Z9 HG9 ⊢
    clear hg9
    try go_frame
    refine rd1 16 (fun K hK => ?_)
    ·go_simp
     have hba : Below v115.heap.size v115 (v115.alloc (.cells #[.int .i64 0] 3)):=below_new _ _
     have Z10 : Hid (Box (v115.alloc (.cells #[.int .i64 0] 3)) v115.heap.size 3 #[.int .i64 0]):=hyq box_new
     have HG10 : Hid (vs.heap.size ≤ v115.heap.size):=hyq hH.size
     have Z9:=hyq (Z9.out.on hba)
     have Z11:=hyq (Z11.out.on hba)
     obtain ⟨v116,hv9⟩:=nmq ((v115.alloc (.cells #[.int .i64 0] 3)))
     refine hK.out _ _ (bch hH hba) (fun hH => ?_); clear hba
     rw [← hv9] at Z9 Z11 Z10 hH ⊢
     clear hv9
     obtain ⟨b10,hg9⟩:=nmq (v115.heap.size)
     rw [← hg9] at Z10 HG10 ⊢
     clear hg9
     try go_frame
     refine rd1 18 (fun K hK => ?_)
     ·refine wp_store_if (by rfl) 24 (.tmp 9) (.tmp 24) rfl b9 24 #[.slice none 0 0] #[.slice va vn vc] rfl rfl Z9.out (info24 _) rfl (slice_one _ _ _) ?_
      have Z9' : Hid (Box (v116.setRow b9 #[.slice va vn vc]) b9 24 #[.slice va vn vc]):=hyq (Z9.out.row _)
      have Z10' : Hid (Box (v116.setRow b9 #[.slice va vn vc]) b10 3 _):=hyq (box_row_other Z10.out Z9.out (by decide) _)
      have Z11' : Hid (Box (v116.setRow b9 #[.slice va vn vc]) b11 32 _):=hyq (box_row_other Z11.out Z9.out (by decide) _)
      refine hK.out _ _ (below_row hH HG9.out _) (fun hH => ?_)
      clear Z9 Z10 Z11
      have Z9:=Z9'
      have Z10:=Z10'
      have Z11:=Z11'
      clear Z9' Z10' Z11'
      obtain ⟨v118,hv9⟩:=nmq ((v116.setRow b9 #[.slice va vn vc]))
      rw [← hv9] at Z9 Z10 Z11 hH ⊢
      clear hv9
      try go_frame
      refine rd1 19 (fun K hK => ?_)
      ·have cc : v118.cell? ⟨b10,0,none⟩ = some _:=Z10.out.cell (k:=0) rfl
       have cf:=frozen_of_row v118 b10 0 _ _ Z10.out
       go_simp
       have Z10' : Hid (Box (v118.setCell ⟨b10,0,none⟩ (.int .i64 fine)) b10 3 #[.int .i64 fine]):=hyq (Z10.out.set (k:=0) _)
       have Z9' : Hid (Box (v118.setCell ⟨b10,0,none⟩ (.int .i64 fine)) b9 24 _):=hyq (box_set_other Z9.out Z10.out (by decide) _)
       have Z11' : Hid (Box (v118.setCell ⟨b10,0,none⟩ (.int .i64 fine)) b11 32 _):=hyq (box_set_other Z11.out Z10.out (by decide) _)
       refine hK.out _ _ (hH.setCell (p:=⟨b10,0,none⟩) HG10.out _) (fun hH => ?_)
       clear cc cf
       clear Z9 Z10 Z11
       have Z9:=Z9'
       have Z10:=Z10'
       have Z11:=Z11'
       clear Z9' Z10' Z11'
       obtain ⟨v119,hv9⟩:=nmq ((v118.setCell ⟨b10,0,none⟩ (.int .i64 fine)))
       rw [← hv9] at Z9 Z10 Z11 hH ⊢
       clear hv9
       try go_frame
       refine rd1 20 (fun K hK => ?_)
       ·have cc : v119.cell? ⟨b11,0,none⟩ = some _:=Z11.out.cell (k:=0) rfl
        have cf:=frozen_of_row v119 b11 0 _ _ Z11.out
        go_simp
        have Z11' : Hid (Box (v119.setCell ⟨b11,0,none⟩ (.int .i64 fault)) b11 32 #[.int .i64 fault]):=hyq (Z11.out.set (k:=0) _)
        have Z9' : Hid (Box (v119.setCell ⟨b11,0,none⟩ (.int .i64 fault)) b9 24 _):=hyq (box_set_other Z9.out Z11.out (by decide) _)
        have Z10' : Hid (Box (v119.setCell ⟨b11,0,none⟩ (.int .i64 fault)) b10 3 _):=hyq (box_set_other Z10.out Z11.out (by decide) _)
        refine hK.out _ _ (hH.setCell (p:=⟨b11,0,none⟩) HG11.out _) (fun hH => ?_)
        clear cc cf
        clear Z9 Z10 Z11
        have Z9:=Z9'
        have Z10:=Z10'
        have Z11:=Z11'
        clear Z9' Z10' Z11'
        obtain ⟨v120,hv9⟩:=nmq ((v119.setCell ⟨b11,0,none⟩ (.int .i64 fault)))
        rw [← hv9] at Z9 Z10 Z11 hH ⊢
        clear hv9
        (try go_frame); refine wpAnyH_done (by kernel_rfl) ?_ _
        have HH:=hyq hH
        clear hH
        go_wp2_with fail
        go_ret
        exact FIN.out _ _ _ Z10.out Z11.out HG10.out HG11.out HH.out
   ·go_simp
    have hba : Below v110.heap.size v110 (v110.alloc (.cells #[.int .i64 0] 3)):=below_new _ _
    have Z10 : Hid (Box (v110.alloc (.cells #[.int .i64 0] 3)) v110.heap.size 3 #[.int .i64 0]):=hyq box_new
    have HG10 : Hid (vs.heap.size ≤ v110.heap.size):=hyq hH.size
    have Z11:=hyq (Z11.out.on hba)
    obtain ⟨v116,hv9⟩:=nmq ((v110.alloc (.cells #[.int .i64 0] 3)))
    refine hK.out _ _ (bch hH hba) (fun hH => ?_); clear hba
    rw [← hv9] at Z11 Z10 hH ⊢
    clear hv9
    obtain ⟨b10,hg9⟩:=nmq (v110.heap.size)
    rw [← hg9] at Z10 HG10 ⊢
    clear hg9
    try go_frame
    refine rd1 15 (fun K hK => ?_)
    ·go_simp
     have hba : Below v116.heap.size v116 (v116.alloc (.cells #[.slice none 0 0] 24)):=below_new _ _
     have Z9 : Hid (Box (v116.alloc (.cells #[.slice none 0 0] 24)) v116.heap.size 24 #[.slice none 0 0]):=hyq box_new
     have HG9 : Hid (vs.heap.size ≤ v116.heap.size):=hyq hH.size
     have Z10:=hyq (Z10.out.on hba)
     have Z11:=hyq (Z11.out.on hba)
     obtain ⟨v115,hv9⟩:=nmq ((v116.alloc (.cells #[.slice none 0 0] 24)))
     refine hK.out _ _ (bch hH hba) (fun hH => ?_); clear hba
     rw [← hv9] at Z10 Z11 Z9 hH ⊢
     clear hv9
     obtain ⟨b9,hg9⟩:=nmq (v116.heap.size)
     rw [← hg9] at Z9 HG9 ⊢
     clear hg9
     try go_frame
     refine rd1 18 (fun K hK => ?_)
     ·refine wp_store_if (by rfl) 24 (.tmp 9) (.tmp 24) rfl b9 24 #[.slice none 0 0] #[.slice va vn vc] rfl rfl Z9.out (info24 _) rfl (slice_one _ _ _) ?_
      have Z9' : Hid (Box (v115.setRow b9 #[.slice va vn vc]) b9 24 #[.slice va vn vc]):=hyq (Z9.out.row _)
      have Z10' : Hid (Box (v115.setRow b9 #[.slice va vn vc]) b10 3 _):=hyq (box_row_other Z10.out Z9.out (by decide) _)
      have Z11' : Hid (Box (v115.setRow b9 #[.slice va vn vc]) b11 32 _):=hyq (box_row_other Z11.out Z9.out (by decide) _)
      refine hK.out _ _ (below_row hH HG9.out _) (fun hH => ?_)
      clear Z9 Z10 Z11
      have Z9:=Z9'
      have Z10:=Z10'
      have Z11:=Z11'
      clear Z9' Z10' Z11'
      obtain ⟨v118,hv9⟩:=nmq ((v115.setRow b9 #[.slice va vn vc]))
      rw [← hv9] at Z9 Z10 Z11 hH ⊢
      clear hv9
      try go_frame
      refine rd1 19 (fun K hK => ?_)
      ·have cc : v118.cell? ⟨b10,0,none⟩ = some _:=Z10.out.cell (k:=0) rfl
       have cf:=frozen_of_row v118 b10 0 _ _ Z10.out
       go_simp
       have Z10' : Hid (Box (v118.setCell ⟨b10,0,none⟩ (.int .i64 fine)) b10 3 #[.int .i64 fine]):=hyq (Z10.out.set (k:=0) _)
       have Z9' : Hid (Box (v118.setCell ⟨b10,0,none⟩ (.int .i64 fine)) b9 24 _):=hyq (box_set_other Z9.out Z10.out (by decide) _)
       have Z11' : Hid (Box (v118.setCell ⟨b10,0,none⟩ (.int .i64 fine)) b11 32 _):=hyq (box_set_other Z11.out Z10.out (by decide) _)
       refine hK.out _ _ (hH.setCell (p:=⟨b10,0,none⟩) HG10.out _) (fun hH => ?_)
       clear cc cf
       clear Z9 Z10 Z11
       have Z9:=Z9'
       have Z10:=Z10'
       have Z11:=Z11'
       clear Z9' Z10' Z11'
       obtain ⟨v119,hv9⟩:=nmq ((v118.setCell ⟨b10,0,none⟩ (.int .i64 fine)))
       rw [← hv9] at Z9 Z10 Z11 hH ⊢
       clear hv9
       try go_frame
       refine rd1 20 (fun K hK => ?_)
       ·have cc : v119.cell? ⟨b11,0,none⟩ = some _:=Z11.out.cell (k:=0) rfl
        have cf:=frozen_of_row v119 b11 0 _ _ Z11.out
        go_simp
        have Z11' : Hid (Box (v119.setCell ⟨b11,0,none⟩ (.int .i64 fault)) b11 32 #[.int .i64 fault]):=hyq (Z11.out.set (k:=0) _)
        have Z9' : Hid (Box (v119.setCell ⟨b11,0,none⟩ (.int .i64 fault)) b9 24 _):=hyq (box_set_other Z9.out Z11.out (by decide) _)
        have Z10' : Hid (Box (v119.setCell ⟨b11,0,none⟩ (.int .i64 fault)) b10 3 _):=hyq (box_set_other Z10.out Z11.out (by decide) _)
        refine hK.out _ _ (hH.setCell (p:=⟨b11,0,none⟩) HG11.out _) (fun hH => ?_)
        clear cc cf
        clear Z9 Z10 Z11
        have Z9:=Z9'
        have Z10:=Z10'
        have Z11:=Z11'
        clear Z9' Z10' Z11'
        obtain ⟨v120,hv9⟩:=nmq ((v119.setCell ⟨b11,0,none⟩ (.int .i64 fault)))
        rw [← hv9] at Z9 Z10 Z11 hH ⊢
        clear hv9
        (try go_frame); refine wpAnyH_done (by kernel_rfl) ?_ _
        have HH:=hyq hH
        clear hH
        go_wp2_with fail
        go_ret
        exact FIN.out _ _ _ Z10.out Z11.out HG10.out HG11.out HH.out
  ·go_simp
   have hba : Below v117.heap.size v117 (v117.alloc (.cells #[.slice none 0 0] 24)):=below_new _ _
   have Z9 : Hid (Box (v117.alloc (.cells #[.slice none 0 0] 24)) v117.heap.size 24 #[.slice none 0 0]):=hyq box_new
   have HG9 : Hid (vs.heap.size ≤ v117.heap.size):=hyq hH.size
   have Z11:=hyq (Z11.out.on hba)
   obtain ⟨v115,hv9⟩:=nmq ((v117.alloc (.cells #[.slice none 0 0] 24)))
   refine hK.out _ _ (bch hH hba) (fun hH => ?_); clear hba
   rw [← hv9] at Z11 Z9 hH ⊢
   clear hv9
   obtain ⟨b9,hg9⟩:=nmq (v117.heap.size)
   rw [← hg9] at Z9 HG9 ⊢
   clear hg9
   try go_frame
   refine rd2 10 16 (fun K hK => ?_) (fun K hK => ?_)
   ·go_simp
    refine (HRU.out _ hH).mono ?_
    rintro e v110 ⟨hba,va,vn,vc,rfl⟩
    have Z9:=hyq (Z9.out.on hba)
    have Z11:=hyq (Z11.out.on hba)
    refine hK.out _ _ (bch hH hba) (fun hH => ?_); clear hba; (try go_frame); refine tk 11 hH ?_; (try go_frame); refine tk 12 hH ?_; (try go_frame); refine tk 13 hH ?_; (try go_frame); refine tk 14 hH ?_; try go_frame
    refine rd1 16 (fun K hK => ?_)
    ·go_simp
     have hba : Below v110.heap.size v110 (v110.alloc (.cells #[.int .i64 0] 3)):=below_new _ _
     have Z10 : Hid (Box (v110.alloc (.cells #[.int .i64 0] 3)) v110.heap.size 3 #[.int .i64 0]):=hyq box_new
     have HG10 : Hid (vs.heap.size ≤ v110.heap.size):=hyq hH.size
     have Z9:=hyq (Z9.out.on hba)
     have Z11:=hyq (Z11.out.on hba)
     obtain ⟨v116,hv9⟩:=nmq ((v110.alloc (.cells #[.int .i64 0] 3)))
     refine hK.out _ _ (bch hH hba) (fun hH => ?_); clear hba
     rw [← hv9] at Z9 Z11 Z10 hH ⊢
     clear hv9
     obtain ⟨b10,hg9⟩:=nmq (v110.heap.size)
     rw [← hg9] at Z10 HG10 ⊢
     clear hg9
     try go_frame
     refine rd1 18 (fun K hK => ?_)
     ·refine wp_store_if (by rfl) 24 (.tmp 9) (.tmp 24) rfl b9 24 #[.slice none 0 0] #[.slice va vn vc] rfl rfl Z9.out (info24 _) rfl (slice_one _ _ _) ?_
      have Z9' : Hid (Box (v116.setRow b9 #[.slice va vn vc]) b9 24 #[.slice va vn vc]):=hyq (Z9.out.row _)
      have Z10' : Hid (Box (v116.setRow b9 #[.slice va vn vc]) b10 3 _):=hyq (box_row_other Z10.out Z9.out (by decide) _)
      have Z11' : Hid (Box (v116.setRow b9 #[.slice va vn vc]) b11 32 _):=hyq (box_row_other Z11.out Z9.out (by decide) _)
      refine hK.out _ _ (below_row hH HG9.out _) (fun hH => ?_)
      clear Z9 Z10 Z11
      have Z9:=Z9'
      have Z10:=Z10'
      have Z11:=Z11'
      clear Z9' Z10' Z11'
      obtain ⟨v118,hv9⟩:=nmq ((v116.setRow b9 #[.slice va vn vc]))
      rw [← hv9] at Z9 Z10 Z11 hH ⊢
      clear hv9
      try go_frame
      refine rd1 19 (fun K hK => ?_)
      ·have cc : v118.cell? ⟨b10,0,none⟩ = some _:=Z10.out.cell (k:=0) rfl
       have cf:=frozen_of_row v118 b10 0 _ _ Z10.out
       go_simp
       have Z10' : Hid (Box (v118.setCell ⟨b10,0,none⟩ (.int .i64 fine)) b10 3 #[.int .i64 fine]):=hyq (Z10.out.set (k:=0) _)
       have Z9' : Hid (Box (v118.setCell ⟨b10,0,none⟩ (.int .i64 fine)) b9 24 _):=hyq (box_set_other Z9.out Z10.out (by decide) _)
       have Z11' : Hid (Box (v118.setCell ⟨b10,0,none⟩ (.int .i64 fine)) b11 32 _):=hyq (box_set_other Z11.out Z10.out (by decide) _)
       refine hK.out _ _ (hH.setCell (p:=⟨b10,0,none⟩) HG10.out _) (fun hH => ?_)
       clear cc cf
       clear Z9 Z10 Z11
       have Z9:=Z9'
       have Z10:=Z10'
       have Z11:=Z11'
       clear Z9' Z10' Z11'
       obtain ⟨v119,hv9⟩:=nmq ((v118.setCell ⟨b10,0,none⟩ (.int .i64 fine)))
       rw [← hv9] at Z9 Z10 Z11 hH ⊢
       clear hv9
       try go_frame
       refine rd1 20 (fun K hK => ?_)
       ·have cc : v119.cell? ⟨b11,0,none⟩ = some _:=Z11.out.cell (k:=0) rfl
        have cf:=frozen_of_row v119 b11 0 _ _ Z11.out
        go_simp
        have Z11' : Hid (Box (v119.setCell ⟨b11,0,none⟩ (.int .i64 fault)) b11 32 #[.int .i64 fault]):=hyq (Z11.out.set (k:=0) _)
        have Z9' : Hid (Box (v119.setCell ⟨b11,0,none⟩ (.int .i64 fault)) b9 24 _):=hyq (box_set_other Z9.out Z11.out (by decide) _)
        have Z10' : Hid (Box (v119.setCell ⟨b11,0,none⟩ (.int .i64 fault)) b10 3 _):=hyq (box_set_other Z10.out Z11.out (by decide) _)
        refine hK.out _ _ (hH.setCell (p:=⟨b11,0,none⟩) HG11.out _) (fun hH => ?_)
        clear cc cf
        clear Z9 Z10 Z11
        have Z9:=Z9'
        have Z10:=Z10'
        have Z11:=Z11'
        clear Z9' Z10' Z11'
        obtain ⟨v120,hv9⟩:=nmq ((v119.setCell ⟨b11,0,none⟩ (.int .i64 fault)))
        rw [← hv9] at Z9 Z10 Z11 hH ⊢
        clear hv9
        (try go_frame); refine wpAnyH_done (by kernel_rfl) ?_ _
        have HH:=hyq hH
        clear hH
        go_wp2_with fail
        go_ret
        exact FIN.out _ _ _ Z10.out Z11.out HG10.out HG11.out HH.out
   ·go_simp
    have hba : Below v115.heap.size v115 (v115.alloc (.cells #[.int .i64 0] 3)):=below_new _ _
    have Z10 : Hid (Box (v115.alloc (.cells #[.int .i64 0] 3)) v115.heap.size 3 #[.int .i64 0]):=hyq box_new
    have HG10 : Hid (vs.heap.size ≤ v115.heap.size):=hyq hH.size
    have Z9:=hyq (Z9.out.on hba)
    have Z11:=hyq (Z11.out.on hba)
    obtain ⟨v116,hv9⟩:=nmq ((v115.alloc (.cells #[.int .i64 0] 3)))
    refine hK.out _ _ (bch hH hba) (fun hH => ?_); clear hba
    rw [← hv9] at Z9 Z11 Z10 hH ⊢
    clear hv9
    obtain ⟨b10,hg9⟩:=nmq (v115.heap.size)
    rw [← hg9] at Z10 HG10 ⊢
    clear hg9
    try go_frame
    refine rd1 10 (fun K hK => ?_)
    ·go_simp
     refine (HRU.out _ hH).mono ?_
     rintro e v110 ⟨hba,va,vn,vc,rfl⟩
     have Z9:=hyq (Z9.out.on hba)
     have Z10:=hyq (Z10.out.on hba)
     have Z11:=hyq (Z11.out.on hba)
     refine hK.out _ _ (bch hH hba) (fun hH => ?_); clear hba; (try go_frame); refine tk 11 hH ?_; (try go_frame); refine tk 12 hH ?_; (try go_frame); refine tk 13 hH ?_; (try go_frame); refine tk 14 hH ?_; try go_frame
     refine rd1 18 (fun K hK => ?_)
     ·refine wp_store_if (by rfl) 24 (.tmp 9) (.tmp 24) rfl b9 24 #[.slice none 0 0] #[.slice va vn vc] rfl rfl Z9.out (info24 _) rfl (slice_one _ _ _) ?_
      have Z9' : Hid (Box (v110.setRow b9 #[.slice va vn vc]) b9 24 #[.slice va vn vc]):=hyq (Z9.out.row _)
      have Z10' : Hid (Box (v110.setRow b9 #[.slice va vn vc]) b10 3 _):=hyq (box_row_other Z10.out Z9.out (by decide) _)
      have Z11' : Hid (Box (v110.setRow b9 #[.slice va vn vc]) b11 32 _):=hyq (box_row_other Z11.out Z9.out (by decide) _)
      refine hK.out _ _ (below_row hH HG9.out _) (fun hH => ?_)
      clear Z9 Z10 Z11
      have Z9:=Z9'
      have Z10:=Z10'
      have Z11:=Z11'
      clear Z9' Z10' Z11'
      obtain ⟨v118,hv9⟩:=nmq ((v110.setRow b9 #[.slice va vn vc]))
      rw [← hv9] at Z9 Z10 Z11 hH ⊢
      clear hv9
      try go_frame
      refine rd1 19 (fun K hK => ?_)
      ·have cc : v118.cell? ⟨b10,0,none⟩ = some _:=Z10.out.cell (k:=0) rfl
       have cf:=frozen_of_row v118 b10 0 _ _ Z10.out
       go_simp
       have Z10' : Hid (Box (v118.setCell ⟨b10,0,none⟩ (.int .i64 fine)) b10 3 #[.int .i64 fine]):=hyq (Z10.out.set (k:=0) _)
       have Z9' : Hid (Box (v118.setCell ⟨b10,0,none⟩ (.int .i64 fine)) b9 24 _):=hyq (box_set_other Z9.out Z10.out (by decide) _)
       have Z11' : Hid (Box (v118.setCell ⟨b10,0,none⟩ (.int .i64 fine)) b11 32 _):=hyq (box_set_other Z11.out Z10.out (by decide) _)
       refine hK.out _ _ (hH.setCell (p:=⟨b10,0,none⟩) HG10.out _) (fun hH => ?_)
       clear cc cf
       clear Z9 Z10 Z11
       have Z9:=Z9'
       have Z10:=Z10'
       have Z11:=Z11'
       clear Z9' Z10' Z11'
       obtain ⟨v119,hv9⟩:=nmq ((v118.setCell ⟨b10,0,none⟩ (.int .i64 fine)))
       rw [← hv9] at Z9 Z10 Z11 hH ⊢
       clear hv9
       try go_frame
       refine rd1 20 (fun K hK => ?_)
       ·have cc : v119.cell? ⟨b11,0,none⟩ = some _:=Z11.out.cell (k:=0) rfl
        have cf:=frozen_of_row v119 b11 0 _ _ Z11.out
        go_simp
        have Z11' : Hid (Box (v119.setCell ⟨b11,0,none⟩ (.int .i64 fault)) b11 32 #[.int .i64 fault]):=hyq (Z11.out.set (k:=0) _)
        have Z9' : Hid (Box (v119.setCell ⟨b11,0,none⟩ (.int .i64 fault)) b9 24 _):=hyq (box_set_other Z9.out Z11.out (by decide) _)
        have Z10' : Hid (Box (v119.setCell ⟨b11,0,none⟩ (.int .i64 fault)) b10 3 _):=hyq (box_set_other Z10.out Z11.out (by decide) _)
        refine hK.out _ _ (hH.setCell (p:=⟨b11,0,none⟩) HG11.out _) (fun hH => ?_)
        clear cc cf
        clear Z9 Z10 Z11
        have Z9:=Z9'
        have Z10:=Z10'
        have Z11:=Z11'
        clear Z9' Z10' Z11'
        obtain ⟨v120,hv9⟩:=nmq ((v119.setCell ⟨b11,0,none⟩ (.int .i64 fault)))
        rw [← hv9] at Z9 Z10 Z11 hH ⊢
        clear hv9
        (try go_frame); refine wpAnyH_done (by kernel_rfl) ?_ _
        have HH:=hyq hH
        clear hH
        go_wp2_with fail
        go_ret
        exact FIN.out _ _ _ Z10.out Z11.out HG10.out HG11.out HH.out
  ·go_simp
   have hba : Below v117.heap.size v117 (v117.alloc (.cells #[.int .i64 0] 3)):=below_new _ _
   have Z10 : Hid (Box (v117.alloc (.cells #[.int .i64 0] 3)) v117.heap.size 3 #[.int .i64 0]):=hyq box_new
   have HG10 : Hid (vs.heap.size ≤ v117.heap.size):=hyq hH.size
   have Z11:=hyq (Z11.out.on hba)
   obtain ⟨v116,hv9⟩:=nmq ((v117.alloc (.cells #[.int .i64 0] 3)))
   refine hK.out _ _ (bch hH hba) (fun hH => ?_); clear hba
   rw [← hv9] at Z11 Z10 hH ⊢
   clear hv9
   obtain ⟨b10,hg9⟩:=nmq (v117.heap.size)
   rw [← hg9] at Z10 HG10 ⊢
   clear hg9
   try go_frame
   refine rd2 10 15 (fun K hK => ?_) (fun K hK => ?_)
   ·go_simp
    refine (HRU.out _ hH).mono ?_
    rintro e v110 ⟨hba,va,vn,vc,rfl⟩
    have Z10:=hyq (Z10.out.on hba)
    have Z11:=hyq (Z11.out.on hba)
    refine hK.out _ _ (bch hH hba) (fun hH => ?_); clear hba; (try go_frame); refine tk 11 hH ?_; (try go_frame); refine tk 12 hH ?_; (try go_frame); refine tk 13 hH ?_; (try go_frame); refine tk 14 hH ?_; try go_frame
    refine rd1 15 (fun K hK => ?_)
    ·go_simp
     have hba : Below v110.heap.size v110 (v110.alloc (.cells #[.slice none 0 0] 24)):=below_new _ _
     have Z9 : Hid (Box (v110.alloc (.cells #[.slice none 0 0] 24)) v110.heap.size 24 #[.slice none 0 0]):=hyq box_new
     have HG9 : Hid (vs.heap.size ≤ v110.heap.size):=hyq hH.size
     have Z10:=hyq (Z10.out.on hba)
     have Z11:=hyq (Z11.out.on hba)
     obtain ⟨v115,hv9⟩:=nmq ((v110.alloc (.cells #[.slice none 0 0] 24)))
     refine hK.out _ _ (bch hH hba) (fun hH => ?_); clear hba
     rw [← hv9] at Z10 Z11 Z9 hH ⊢
     clear hv9
     obtain ⟨b9,hg9⟩:=nmq (v110.heap.size)
     rw [← hg9] at Z9 HG9 ⊢
     clear hg9
     try go_frame
     refine rd1 18 (fun K hK => ?_)
     ·refine wp_store_if (by rfl) 24 (.tmp 9) (.tmp 24) rfl b9 24 #[.slice none 0 0] #[.slice va vn vc] rfl rfl Z9.out (info24 _) rfl (slice_one _ _ _) ?_
      have Z9' : Hid (Box (v115.setRow b9 #[.slice va vn vc]) b9 24 #[.slice va vn vc]):=hyq (Z9.out.row _)
      have Z10' : Hid (Box (v115.setRow b9 #[.slice va vn vc]) b10 3 _):=hyq (box_row_other Z10.out Z9.out (by decide) _)
      have Z11' : Hid (Box (v115.setRow b9 #[.slice va vn vc]) b11 32 _):=hyq (box_row_other Z11.out Z9.out (by decide) _)
      refine hK.out _ _ (below_row hH HG9.out _) (fun hH => ?_)
      clear Z9 Z10 Z11
      have Z9:=Z9'
      have Z10:=Z10'
      have Z11:=Z11'
      clear Z9' Z10' Z11'
      obtain ⟨v118,hv9⟩:=nmq ((v115.setRow b9 #[.slice va vn vc]))
      rw [← hv9] at Z9 Z10 Z11 hH ⊢
      clear hv9
      try go_frame
      refine rd1 19 (fun K hK => ?_)
      ·have cc : v118.cell? ⟨b10,0,none⟩ = some _:=Z10.out.cell (k:=0) rfl
       have cf:=frozen_of_row v118 b10 0 _ _ Z10.out
       go_simp
       have Z10' : Hid (Box (v118.setCell ⟨b10,0,none⟩ (.int .i64 fine)) b10 3 #[.int .i64 fine]):=hyq (Z10.out.set (k:=0) _)
       have Z9' : Hid (Box (v118.setCell ⟨b10,0,none⟩ (.int .i64 fine)) b9 24 _):=hyq (box_set_other Z9.out Z10.out (by decide) _)
       have Z11' : Hid (Box (v118.setCell ⟨b10,0,none⟩ (.int .i64 fine)) b11 32 _):=hyq (box_set_other Z11.out Z10.out (by decide) _)
       refine hK.out _ _ (hH.setCell (p:=⟨b10,0,none⟩) HG10.out _) (fun hH => ?_)
       clear cc cf
       clear Z9 Z10 Z11
       have Z9:=Z9'
       have Z10:=Z10'
       have Z11:=Z11'
       clear Z9' Z10' Z11'
       obtain ⟨v119,hv9⟩:=nmq ((v118.setCell ⟨b10,0,none⟩ (.int .i64 fine)))
       rw [← hv9] at Z9 Z10 Z11 hH ⊢
       clear hv9
       try go_frame
       refine rd1 20 (fun K hK => ?_)
       ·have cc : v119.cell? ⟨b11,0,none⟩ = some _:=Z11.out.cell (k:=0) rfl
        have cf:=frozen_of_row v119 b11 0 _ _ Z11.out
        go_simp
        have Z11' : Hid (Box (v119.setCell ⟨b11,0,none⟩ (.int .i64 fault)) b11 32 #[.int .i64 fault]):=hyq (Z11.out.set (k:=0) _)
        have Z9' : Hid (Box (v119.setCell ⟨b11,0,none⟩ (.int .i64 fault)) b9 24 _):=hyq (box_set_other Z9.out Z11.out (by decide) _)
        have Z10' : Hid (Box (v119.setCell ⟨b11,0,none⟩ (.int .i64 fault)) b10 3 _):=hyq (box_set_other Z10.out Z11.out (by decide) _)
        refine hK.out _ _ (hH.setCell (p:=⟨b11,0,none⟩) HG11.out _) (fun hH => ?_)
        clear cc cf
        clear Z9 Z10 Z11
        have Z9:=Z9'
        have Z10:=Z10'
        have Z11:=Z11'
        clear Z9' Z10' Z11'
        obtain ⟨v120,hv9⟩:=nmq ((v119.setCell ⟨b11,0,none⟩ (.int .i64 fault)))
        rw [← hv9] at Z9 Z10 Z11 hH ⊢
        clear hv9
        (try go_frame); refine wpAnyH_done (by kernel_rfl) ?_ _
        have HH:=hyq hH
        clear hH
        go_wp2_with fail
        go_ret
        exact FIN.out _ _ _ Z10.out Z11.out HG10.out HG11.out HH.out
   ·go_simp
    have hba : Below v116.heap.size v116 (v116.alloc (.cells #[.slice none 0 0] 24)):=below_new _ _
    have Z9 : Hid (Box (v116.alloc (.cells #[.slice none 0 0] 24)) v116.heap.size 24 #[.slice none 0 0]):=hyq box_new
    have HG9 : Hid (vs.heap.size ≤ v116.heap.size):=hyq hH.size
    have Z10:=hyq (Z10.out.on hba)
    have Z11:=hyq (Z11.out.on hba)
    obtain ⟨v115,hv9⟩:=nmq ((v116.alloc (.cells #[.slice none 0 0] 24)))
    refine hK.out _ _ (bch hH hba) (fun hH => ?_); clear hba
    rw [← hv9] at Z10 Z11 Z9 hH ⊢
    clear hv9
    obtain ⟨b9,hg9⟩:=nmq (v116.heap.size)
    rw [← hg9] at Z9 HG9 ⊢
    clear hg9
    try go_frame
    refine rd1 10 (fun K hK => ?_)
    ·go_simp
     refine (HRU.out _ hH).mono ?_
     rintro e v110 ⟨hba,va,vn,vc,rfl⟩
     have Z9:=hyq (Z9.out.on hba)
     have Z10:=hyq (Z10.out.on hba)
     have Z11:=hyq (Z11.out.on hba)
     refine hK.out _ _ (bch hH hba) (fun hH => ?_); clear hba; (try go_frame); refine tk 11 hH ?_; (try go_frame); refine tk 12 hH ?_; (try go_frame); refine tk 13 hH ?_; (try go_frame); refine tk 14 hH ?_; try go_frame
     refine rd1 18 (fun K hK => ?_)
     ·refine wp_store_if (by rfl) 24 (.tmp 9) (.tmp 24) rfl b9 24 #[.slice none 0 0] #[.slice va vn vc] rfl rfl Z9.out (info24 _) rfl (slice_one _ _ _) ?_
      have Z9' : Hid (Box (v110.setRow b9 #[.slice va vn vc]) b9 24 #[.slice va vn vc]):=hyq (Z9.out.row _)
      have Z10' : Hid (Box (v110.setRow b9 #[.slice va vn vc]) b10 3 _):=hyq (box_row_other Z10.out Z9.out (by decide) _)
      have Z11' : Hid (Box (v110.setRow b9 #[.slice va vn vc]) b11 32 _):=hyq (box_row_other Z11.out Z9.out (by decide) _)
      refine hK.out _ _ (below_row hH HG9.out _) (fun hH => ?_)
      clear Z9 Z10 Z11
      have Z9:=Z9'
      have Z10:=Z10'
      have Z11:=Z11'
      clear Z9' Z10' Z11'
      obtain ⟨v118,hv9⟩:=nmq ((v110.setRow b9 #[.slice va vn vc]))
      rw [← hv9] at Z9 Z10 Z11 hH ⊢
      clear hv9
      try go_frame
      refine rd1 19 (fun K hK => ?_)
      ·have cc : v118.cell? ⟨b10,0,none⟩ = some _:=Z10.out.cell (k:=0) rfl
       have cf:=frozen_of_row v118 b10 0 _ _ Z10.out
       go_simp
       have Z10' : Hid (Box (v118.setCell ⟨b10,0,none⟩ (.int .i64 fine)) b10 3 #[.int .i64 fine]):=hyq (Z10.out.set (k:=0) _)
       have Z9' : Hid (Box (v118.setCell ⟨b10,0,none⟩ (.int .i64 fine)) b9 24 _):=hyq (box_set_other Z9.out Z10.out (by decide) _)
       have Z11' : Hid (Box (v118.setCell ⟨b10,0,none⟩ (.int .i64 fine)) b11 32 _):=hyq (box_set_other Z11.out Z10.out (by decide) _)
       refine hK.out _ _ (hH.setCell (p:=⟨b10,0,none⟩) HG10.out _) (fun hH => ?_)
       clear cc cf
       clear Z9 Z10 Z11
       have Z9:=Z9'
       have Z10:=Z10'
       have Z11:=Z11'
       clear Z9' Z10' Z11'
       obtain ⟨v119,hv9⟩:=nmq ((v118.setCell ⟨b10,0,none⟩ (.int .i64 fine)))
       rw [← hv9] at Z9 Z10 Z11 hH ⊢
       clear hv9
       try go_frame
       refine rd1 20 (fun K hK => ?_)
       ·have cc : v119.cell? ⟨b11,0,none⟩ = some _:=Z11.out.cell (k:=0) rfl
        have cf:=frozen_of_row v119 b11 0 _ _ Z11.out
        go_simp
        have Z11' : Hid (Box (v119.setCell ⟨b11,0,none⟩ (.int .i64 fault)) b11 32 #[.int .i64 fault]):=hyq (Z11.out.set (k:=0) _)
        have Z9' : Hid (Box (v119.setCell ⟨b11,0,none⟩ (.int .i64 fault)) b9 24 _):=hyq (box_set_other Z9.out Z11.out (by decide) _)
        have Z10' : Hid (Box (v119.setCell ⟨b11,0,none⟩ (.int .i64 fault)) b10 3 _):=hyq (box_set_other Z10.out Z11.out (by decide) _)
        refine hK.out _ _ (hH.setCell (p:=⟨b11,0,none⟩) HG11.out _) (fun hH => ?_)
        clear cc cf
        clear Z9 Z10 Z11
        have Z9:=Z9'
        have Z10:=Z10'
        have Z11:=Z11'
        clear Z9' Z10' Z11'
        obtain ⟨v120,hv9⟩:=nmq ((v119.setCell ⟨b11,0,none⟩ (.int .i64 fault)))
        rw [← hv9] at Z9 Z10 Z11 hH ⊢
        clear hv9
        (try go_frame); refine wpAnyH_done (by kernel_rfl) ?_ _
        have HH:=hyq hH
        clear hH
        go_wp2_with fail
        go_ret
        exact FIN.out _ _ _ Z10.out Z11.out HG10.out HG11.out HH.out
end Go.Proofs.YtigopecainocgaaGreatDoor
