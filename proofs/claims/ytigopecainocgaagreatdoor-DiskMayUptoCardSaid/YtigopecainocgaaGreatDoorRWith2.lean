/- Proved here: with of puncheonref06. -/
import Derived.Test.YtigopecainocgaaGreatDoorRWith
set_option maxRecDepth 100000
set_option maxHeartbeats 32000000
namespace Go.Proofs.YtigopecainocgaaGreatDoor
open Go.RowKit Go.Shelf
theorem with_step {l : List It} {x y : It} {k : Nat} {s : List It × Bool} (h : l[k]? = some y) (hs : (l.take k).foldl (wstep x) ([],false) = s) : (l.take (k + 1)).foldl (wstep x) ([],false) = wstep x s y:=by
 rw [take_one h,List.foldl_append,hs]; rfl
theorem wstep_len (x y : It) (s : List It × Bool) : (wstep x s y).1.length ≤ s.1.length + 2:=by
 unfold wstep
 split <;> split <;> simp
theorem rwith_any (l : List It) (v : Value) (x : It) (w : World) (hv : RdI w v l) (hl : l.length ≤ 4000) (hsz : ∀ y ∈ l,y.path.length ≤ 2000000) (hx : x.path.length ≤ 2000000) :
  Calls Tryz.prog 77 #[.agg #[v],.agg #[.string ⟨x.path.toArray⟩,.int .i64 x.kind,.string ⟨x.data.toArray⟩]] w fun e w' => ∃ v',e = .returned (.agg #[v']) ∧ OwnI w' w.heap.size v' (withR l x) ∧ Below w.heap.size w w':=by
 obtain ⟨w1,hw1⟩:=nmq (((w.alloc (.cells #[v] 24)).alloc (.cells #[.string ⟨x.path.toArray⟩,.int .i64 x.kind,.string ⟨x.data.toArray⟩] 59)).alloc (.cells #[.slice none 0 0] 24))
 obtain ⟨b2,hb2⟩:=nmq (w.heap.size)
 have X2 : Hid (Box w1 b2 24 #[v]):=hyq (by rw [hw1,hb2]; exact (box_new.alloc _).alloc _)
 have X3 : Hid (Box w1 (b2 + 1) 59 x.arr):=hyq (by rw [hw1,hb2,show w.heap.size + 1 = (w.alloc (.cells #[v] 24)).heap.size from by simp]; exact box_new.alloc _)
 have X4 : Hid (Box w1 (b2 + 1 + 1) 24 #[.slice none 0 0]):=hyq (by rw [hw1,hb2,show w.heap.size + 1 + 1 = ((w.alloc (.cells #[v] 24)).alloc (.cells #[.string ⟨x.path.toArray⟩,.int .i64 x.kind,.string ⟨x.data.toArray⟩] 59)).heap.size from by simp]; exact box_new)
 have HB1 : Hid (Below w.heap.size w w1):=hyq (by rw [hw1]; exact bch (bch (below_new _ _) (below_new _ _)) (below_new _ _))
 have H4 : Hid (w.heap.size ≤ b2 + 1 + 1):=hyq (by omega)
 have HV:=hyq (hv.on HB1.out)
 obtain ⟨a,c,rfl,hlc,hcm,_⟩:=hv.open
 obtain ⟨n,hn⟩:=nmq (l.length)
 rw [← hn] at HV X2 hlc hw1 hl ⊢
 have HN:=hyq hn
 have HSZ:=hyq hsz
 have HXL:=hyq hx
 have HBE:=hyq hb2
 have c0:=X2.out.cell (k:=0) rfl
 obtain ⟨i0,hi,hz0,hz1,hz2⟩:=info_parts info35z
 have OS0 : Hid (OwnI w1 w1.heap.size (.slice none 0 0) []):=hyq (World.ownsRow_nil _ _ _ _)
 clear hv hn hsz hx hb2
 unfold maxLen at hcm
 go_enter Tryz.func77,Tryz.ntmps77
 go_upto_region 1 with fail
 rw [← HBE.out,← hw1]
 clear hw1
 go_wp2_with fail
 clear c0
 go_loopw [5,6,12] (fun s q i W => ∃ (k : Nat) (o : List It) (ld : Bool),k ≤ n ∧ i = .int .i64 k ∧ q = .bool ld ∧ Hid (o.length ≤ 2 * k) ∧ Hid ((l.take k).foldl (wstep x) ([],false) = (o,ld)) ∧ Hid (OwnI W w1.heap.size s o) ∧ Hid (Below w1.heap.size w1 W)) (fun s q i _ => n - (Lib.intOf i).toNat)
 case atStart => exact ⟨0,[],false,Nat.zero_le _,rfl,rfl,hyq (Nat.zero_le _),hyq rfl,OS0,hyq (Below.refl _ _)⟩
 case round =>
  clear OS0
  obtain ⟨k,out,ld,hk,rfl,rfl,HOL,HF,HO,HBk⟩:=hrel
  obtain ⟨wq,hwq⟩:=nmq (wr)
  rw [← hwq] at HBk HO ⊢
  clear hwq
  obtain ⟨a3,c3,rfl,_,_⟩:=own_slice HO.out
  obtain ⟨m,hm⟩:=nmq (out.length)
  have hmb : m ≤ 8000:=by have:=HOL.out; omega
  rw [← hm] at HO ⊢
  have HM:=hyq hm
  clear hm
  by_cases hlt : k < n
  ·obtain ⟨y,hy⟩ : ∃ y,l[k]? = some y:=⟨_,List.getElem?_eq_getElem (by rw [← HN.out]; exact hlt)⟩
   obtain ⟨a',c',e,_,_,hc⟩:=(HV.out.on HBk.out).open
   rw [← HN.out] at e
   cases e
   obtain ⟨g,o,rfl,hg,hc⟩:=hc (by rw [← HN.out]; omega)
   obtain ⟨q0,q1,q2⟩:=hc k y hy
   have k1 : (k : Int) < (n : Int):=by omega
   have k2 : (0 : Int) ≤ (k : Int):=by omega
   have k4 : IntKind.i64.wrap ((k : Int) + 1) = (k : Int) + 1:=IntWalk.i64_in _ (by omega)
   obtain ⟨w5,hw5⟩:=nmq (wq.alloc (.cells #[.string ⟨y.path.toArray⟩,.int .i64 y.kind,.string ⟨y.data.toArray⟩] 59))
   have hb5 : Below wq.heap.size wq w5:=by rw [hw5]; exact below_new _ _
   have HY5 : Hid (Box w5 wq.heap.size 59 y.arr):=hyq (by rw [hw5]; exact box_new)
   have HB5 : Hid (Below w1.heap.size w1 w5):=hyq (bch HBk.out hb5)
   have HY : Hid ((l.take (k + 1)).foldl (wstep x) ([],false) = wstep x (out,ld) y):=hyq (with_step hy HF.out)
   have HSY : Hid (y.path.length ≤ 2000000):=hyq (HSZ.out y (List.mem_of_getElem? hy))
   have HNB : Hid (some wq.heap.size ≠ (Value.slice a3 m c3).ownBlock):=hyq (fun e => own_apart HO.out e.symm)
   replace HO:=hyq (HO.out.on hb5)
   clear hc hy hb5 hg
   go_upto_region 6 with fail
   obtain ⟨b7,hb7⟩:=nmq (wq.heap.size)
   rw [← hb7] at HY5 HNB ⊢
   rw [← hw5]
   clear hw5 hb7 q0 q1 q2 HBk
   cases ld with
   | true =>
    have X35:=hyq (X3.out.on HB5.out)
    obtain ⟨x0,x1,x2⟩:=X35.out.it
    obtain ⟨d0,d1,d2⟩:=HY5.out.it
    by_cases he : y.path = x.path
    ·have t1 : (y.path == x.path) = true:=by simp [he]
     have HR : Hid (wstep x (out,true) y = (out,true)):=hyq (by unfold wstep; rw [if_pos he]; simp)
     clear he
     go_wp2_with fail
     go_roundw
     case rel => exact ⟨k + 1,out,true,hlt,by go_num,rfl,hyq (by have:=HOL.out; have:=wstep_len x y (out,true); rw [HR.out] at this; simp only at this; omega),hyq (by rw [HY.out,HR.out]),HO,HB5⟩
     case measure => simp [Lib.intOf]; omega
    ·have t1 : (y.path == x.path) = false:=by simp [he]
     have HR : Hid (wstep x (out,true) y = (out ++ [y],true)):=hyq (by unfold wstep; rw [if_neg he]; simp)
     clear he
     have HNW9:=hyq (three_new w5 y)
     have HOF9 : Hid (w5.ownsRow w1.heap.size 59 3 (.slice a3 m c3) m (flatI (out))):=hyq (by have:=HO.out; unfold OwnI at this; rw [← HM.out] at this; exact this)
     have HBQ9:=hyq HO.out.blk
     have hws9 : w1.heap.size ≤ w5.heap.size:=HB5.out.size
     go_wp2_with (at_builtin; refine wpList_append_own _ rfl _ _ 22 rfl w1.heap.size 59 i0 (.agg It.nil.arr) 3 40 Tryz.underlying22 hi hz0 hz1 hz2 rfl (by decide) _ _ _ rfl (HOF9.out.alloc _) ⟨w5.heap.size,0,none⟩ 1 1 y.cells rfl rfl HNW9.out (by simp [It.cells,Value.oneCell']) (by unfold maxLen; omega) (by omega) (by simp; omega) ?_)
     intro v9 w9 hown9 hgrow9 _
     have HO9 : Hid (OwnI w9 w1.heap.size v9 (out ++ [y])):=hyq (OwnI.push HM.out hown9)
     have HB9 : Hid (Below w1.heap.size w1 w9):=hyq (HB5.out.trans (((Below.refl _ _).alloc hws9 _).grown hgrow9 (by simp; omega) HBQ9.out))
     clear hown9 hgrow9 hws9
     go_wp2_with fail
     go_roundw
     case rel => exact ⟨k + 1,out ++ [y],true,hlt,by go_num,rfl,hyq (by have:=HOL.out; have:=wstep_len x y (out,true); rw [HR.out] at this; simp only at this; omega),hyq (by rw [HY.out,HR.out]),HO9,HB9⟩
     case measure => simp [Lib.intOf]; omega
   | false =>
    obtain ⟨cm,hcm2⟩:=nmq (cmpL x.path y.path)
    have HCM : Hid (Calls Tryz.prog 34 #[.string ⟨x.path.toArray⟩,.string ⟨y.path.toArray⟩] w5 fun e w' => e = .returned (.int .i64 cm) ∧ Below w5.heap.size w5 w'):=hyq (by rw [hcm2]; exact rcmp_any ⟨x.path.toArray⟩ ⟨y.path.toArray⟩ HXL.out HSY.out w5)
    have HCX:=hyq hcm2
    clear hcm2
    have x0:=(X3.out.on HB5.out).it.c0
    have d0:=HY5.out.it.c0
    go_wp2_with fail
    refine HCM.out.mono ?_
    rintro e w6 ⟨rfl,hb⟩
    replace HO:=hyq (HO.out.on hb)
    have HY6:=hyq (HY5.out.on hb)
    have HB6:=hyq (bch HB5.out hb)
    have X36:=hyq (X3.out.on HB6.out)
    clear hb HCM x0 d0 HY5 HB5
    obtain ⟨x0,x1,x2⟩:=X36.out.it
    obtain ⟨d0,d1,d2⟩:=HY6.out.it
    by_cases h0 : cm ≤ 0
    ·have e0 : decide (cm ≤ 0) = true:=decide_eq_true h0
     have HC0 : Hid (cmpL x.path y.path ≤ 0):=hyq (by rw [← HCX.out]; exact h0)
     clear h0
     have HNW8:=hyq (three_new w6 x)
     have HOF8 : Hid (w6.ownsRow w1.heap.size 59 3 (.slice a3 m c3) m (flatI (out))):=hyq (by have:=HO.out; unfold OwnI at this; rw [← HM.out] at this; exact this)
     have HBQ8:=hyq HO.out.blk
     have hws8 : w1.heap.size ≤ w6.heap.size:=HB6.out.size
     go_wp2_with (at_builtin; refine wpList_append_own _ rfl _ _ 22 rfl w1.heap.size 59 i0 (.agg It.nil.arr) 3 40 Tryz.underlying22 hi hz0 hz1 hz2 rfl (by decide) _ _ _ rfl (HOF8.out.alloc _) ⟨w6.heap.size,0,none⟩ 1 1 x.cells rfl rfl HNW8.out (by simp [It.cells,Value.oneCell']) (by unfold maxLen; omega) (by omega) (by simp; omega) ?_)
     intro v8 w8 hown8 hgrow8 _
     have HO8 : Hid (OwnI w8 w1.heap.size v8 (out ++ [x])):=hyq (OwnI.push HM.out hown8)
     have HB8 : Hid (Below w1.heap.size w1 w8):=hyq (HB6.out.trans (((Below.refl _ _).alloc hws8 _).grown hgrow8 (by simp; omega) HBQ8.out))
     have HY8 : Hid (Box w8 b7 59 y.arr):=hyq ((HY6.out.alloc _).kept hgrow8 HNB.out)
     clear hown8 hgrow8 hws8
     obtain ⟨a8,c8,rfl,_,_⟩:=own_slice HO8.out
     obtain ⟨m8,hm8⟩:=nmq ((out ++ [x]).length)
     have hmb8 : m8 ≤ 8001:=by rw [hm8,List.length_append,← HM.out]; simp; omega
     rw [← hm8] at HO8 ⊢
     have HM8:=hyq hm8
     clear hm8
     have X38:=hyq (X3.out.on HB8.out)
     clear x0 x1 x2 d0 d1 d2
     obtain ⟨x0,x1,x2⟩:=X38.out.it
     obtain ⟨d0,d1,d2⟩:=HY8.out.it
     by_cases he : y.path = x.path
     ·have t1 : (y.path == x.path) = true:=by simp [he]
      have HR : Hid (wstep x (out,false) y = (out ++ [x],true)):=hyq (by unfold wstep; rw [if_pos he,if_pos ⟨rfl,HC0.out⟩])
      clear he
      go_wp2_with fail
      go_roundw
      case rel => exact ⟨k + 1,out ++ [x],true,hlt,by go_num,rfl,hyq (by have:=HOL.out; have:=wstep_len x y (out,false); rw [HR.out] at this; simp only at this; omega),hyq (by rw [HY.out,HR.out]),HO8,HB8⟩
      case measure => simp [Lib.intOf]; omega
     ·have t1 : (y.path == x.path) = false:=by simp [he]
      have HR : Hid (wstep x (out,false) y = (out ++ [x] ++ [y],true)):=hyq (by unfold wstep; rw [if_neg he,if_pos ⟨rfl,HC0.out⟩])
      clear he
      have HNW9:=hyq (three_new w8 y)
      have HOF9 : Hid (w8.ownsRow w1.heap.size 59 3 (.slice a8 m8 c8) m8 (flatI (out ++ [x]))):=hyq (by have:=HO8.out; unfold OwnI at this; rw [← HM8.out] at this; exact this)
      have HBQ9:=hyq HO8.out.blk
      have hws9 : w1.heap.size ≤ w8.heap.size:=HB8.out.size
      go_wp2_with (at_builtin; refine wpList_append_own _ rfl _ _ 22 rfl w1.heap.size 59 i0 (.agg It.nil.arr) 3 40 Tryz.underlying22 hi hz0 hz1 hz2 rfl (by decide) _ _ _ rfl (HOF9.out.alloc _) ⟨w8.heap.size,0,none⟩ 1 1 y.cells rfl rfl HNW9.out (by simp [It.cells,Value.oneCell']) (by unfold maxLen; omega) (by omega) (by simp; omega) ?_)
      intro v9 w9 hown9 hgrow9 _
      have HO9 : Hid (OwnI w9 w1.heap.size v9 (out ++ [x] ++ [y])):=hyq (OwnI.push HM8.out hown9)
      have HB9 : Hid (Below w1.heap.size w1 w9):=hyq (HB8.out.trans (((Below.refl _ _).alloc hws9 _).grown hgrow9 (by simp; omega) HBQ9.out))
      clear hown9 hgrow9 hws9
      go_wp2_with fail
      go_roundw
      case rel => exact ⟨k + 1,out ++ [x] ++ [y],true,hlt,by go_num,rfl,hyq (by have:=HOL.out; have:=wstep_len x y (out,false); rw [HR.out] at this; simp only at this; omega),hyq (by rw [HY.out,HR.out]),HO9,HB9⟩
      case measure => simp [Lib.intOf]; omega
    ·have e0 : decide (cm ≤ 0) = false:=decide_eq_false h0
     have HC0 : Hid (¬ cmpL x.path y.path ≤ 0):=hyq (by rw [← HCX.out]; exact h0)
     clear h0
     by_cases he : y.path = x.path
     ·have t1 : (y.path == x.path) = true:=by simp [he]
      have HR : Hid (wstep x (out,false) y = (out,false)):=hyq (by unfold wstep; rw [if_pos he,if_neg (fun h => HC0.out h.2)])
      clear he
      go_wp2_with fail
      go_roundw
      case rel => exact ⟨k + 1,out,false,hlt,by go_num,rfl,hyq (by have:=HOL.out; have:=wstep_len x y (out,false); rw [HR.out] at this; simp only at this; omega),hyq (by rw [HY.out,HR.out]),HO,HB6⟩
      case measure => simp [Lib.intOf]; omega
     ·have t1 : (y.path == x.path) = false:=by simp [he]
      have HR : Hid (wstep x (out,false) y = (out ++ [y],false)):=hyq (by unfold wstep; rw [if_neg he,if_neg (fun h => HC0.out h.2)])
      clear he
      have HNW9:=hyq (three_new w6 y)
      have HOF9 : Hid (w6.ownsRow w1.heap.size 59 3 (.slice a3 m c3) m (flatI (out))):=hyq (by have:=HO.out; unfold OwnI at this; rw [← HM.out] at this; exact this)
      have HBQ9:=hyq HO.out.blk
      have hws9 : w1.heap.size ≤ w6.heap.size:=HB6.out.size
      go_wp2_with (at_builtin; refine wpList_append_own _ rfl _ _ 22 rfl w1.heap.size 59 i0 (.agg It.nil.arr) 3 40 Tryz.underlying22 hi hz0 hz1 hz2 rfl (by decide) _ _ _ rfl (HOF9.out.alloc _) ⟨w6.heap.size,0,none⟩ 1 1 y.cells rfl rfl HNW9.out (by simp [It.cells,Value.oneCell']) (by unfold maxLen; omega) (by omega) (by simp; omega) ?_)
      intro v9 w9 hown9 hgrow9 _
      have HO9 : Hid (OwnI w9 w1.heap.size v9 (out ++ [y])):=hyq (OwnI.push HM.out hown9)
      have HB9 : Hid (Below w1.heap.size w1 w9):=hyq (HB6.out.trans (((Below.refl _ _).alloc hws9 _).grown hgrow9 (by simp; omega) HBQ9.out))
      clear hown9 hgrow9 hws9
      go_wp2_with fail
      go_roundw
      case rel => exact ⟨k + 1,out ++ [y],false,hlt,by go_num,rfl,hyq (by have:=HOL.out; have:=wstep_len x y (out,false); rw [HR.out] at this; simp only at this; omega),hyq (by rw [HY.out,HR.out]),HO9,HB9⟩
      case measure => simp [Lib.intOf]; omega
  ·have k1 : ¬ ((k : Int) < (n : Int)):=by omega
   have HFL : Hid (l.foldl (wstep x) ([],false) = (out,ld)):=hyq (by have:=HF.out; rw [List.take_of_length_le (by have:=HN.out; omega)] at this; exact this)
   cases ld with
   | true =>
    have HR : Hid (withR l x = out):=hyq (by unfold withR wend; rw [HFL.out,if_pos rfl])
    have X7:=hyq (X4.out.on HBk.out)
    have HB7:=hyq (bch HB1.out HBk.out)
    have bx:=b24x a3 m c3
    go_wp2_with (refine wpList_store_row rfl 24 (.tmp 4) (.tmp 47) rfl (b2 + 1 + 1) #[.slice a3 m c3] rfl rfl 24 _ X7.out (info24 _) rfl (slice_one _ _ _) ?_)
    exact bodyPost_ret (end_tree1 rfl _ (X7.out.row _) rfl) rfl ⟨_,rfl,by rw [HR.out]; exact own_base (own_row HO.out X7.out) HB1.out.size,below_row HB7.out H4.out _⟩
   | false =>
    have HR : Hid (withR l x = out ++ [x]):=hyq (by unfold withR wend; rw [HFL.out,if_neg (by simp)])
    have X37:=hyq (X3.out.on HBk.out)
    obtain ⟨x0,x1,x2⟩:=X37.out.it
    have HNW9:=hyq (three_new wq x)
    have HOF9 : Hid (wq.ownsRow w1.heap.size 59 3 (.slice a3 m c3) m (flatI (out))):=hyq (by have:=HO.out; unfold OwnI at this; rw [← HM.out] at this; exact this)
    have HBQ9:=hyq HO.out.blk
    have hws9 : w1.heap.size ≤ wq.heap.size:=HBk.out.size
    go_wp2_with (at_builtin; refine wpList_append_own _ rfl _ _ 22 rfl w1.heap.size 59 i0 (.agg It.nil.arr) 3 40 Tryz.underlying22 hi hz0 hz1 hz2 rfl (by decide) _ _ _ rfl (HOF9.out.alloc _) ⟨wq.heap.size,0,none⟩ 1 1 x.cells rfl rfl HNW9.out (by simp [It.cells,Value.oneCell']) (by unfold maxLen; omega) (by omega) (by simp; omega) ?_)
    intro v9 w9 hown9 hgrow9 _
    have HO9 : Hid (OwnI w9 w1.heap.size v9 (out ++ [x])):=hyq (OwnI.push HM.out hown9)
    have HB9 : Hid (Below w1.heap.size w1 w9):=hyq (HBk.out.trans (((Below.refl _ _).alloc hws9 _).grown hgrow9 (by simp; omega) HBQ9.out))
    clear hown9 hgrow9 hws9
    obtain ⟨a8,c8,rfl,_,_⟩:=own_slice HO9.out
    obtain ⟨m8,hm8⟩:=nmq ((out ++ [x]).length)
    rw [← hm8] at HO9 ⊢
    clear hm8
    have X7:=hyq (X4.out.on HB9.out)
    have HB7:=hyq (bch HB1.out HB9.out)
    have bx:=b24x a8 m8 c8
    go_wp2_with (refine wpList_store_row rfl 24 (.tmp 4) (.tmp 47) rfl (b2 + 1 + 1) #[.slice a8 m8 c8] rfl rfl 24 _ X7.out (info24 _) rfl (slice_one _ _ _) ?_)
    exact bodyPost_ret (end_tree1 rfl _ (X7.out.row _) rfl) rfl ⟨_,rfl,by rw [HR.out]; exact own_base (own_row HO9.out X7.out) HB1.out.size,below_row HB7.out H4.out _⟩
end Go.Proofs.YtigopecainocgaaGreatDoor
