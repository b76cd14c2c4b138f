/- Proved here: find and get of package tree, of rows of items that rise, whether the path stands there or not. -/
import Derived.Test.YtigopecainocgaaGreatDoorNA
import Derived.Test.YtigopecainocgaaGreatDoorNP
set_option maxRecDepth 100000
set_option maxHeartbeats 32000000
namespace Go.Proofs.YtigopecainocgaaGreatDoor
open Go.RowKit Go.Shelf
theorem spot_idx {l : List It} (hs : Srt l) {p : Str} {r : Nat} (h : Spot l p r) : r = idxL l p:=by
 obtain ⟨A,B,e1,e2,e3,e4⟩:=split_idx l p hs
 obtain ⟨h1,h2,h3⟩:=h
 rw [e2]
 have hl : l.length = A.length + B.length:=by rw [e1,List.length_append]
 rcases Nat.lt_trichotomy r A.length with hlt | he | hgt
 ·obtain ⟨x,hx⟩ : ∃ x,A[r]? = some x:=⟨_,List.getElem?_eq_getElem hlt⟩
  have k : l[r]? = some x:=by rw [e1,List.getElem?_append_left hlt]; exact hx
  have k1:=h3 r x k (Nat.le_refl _)
  have k2:=e3 x (List.mem_of_getElem? hx)
  omega
 ·exact he
 ·obtain ⟨x,hx⟩ : ∃ x,B[0]? = some x:=⟨_,List.getElem?_eq_getElem (by omega)⟩
  have k : l[A.length]? = some x:=by rw [e1,List.getElem?_append_right (Nat.le_refl _),Nat.sub_self]; exact hx
  have k1:=h2 _ x k hgt
  have k2:=e4 x (List.mem_of_getElem? hx)
  omega
theorem srt_mono {l : List It} (hs : Srt l) (p : Str) : ∀ (i j : Nat) (x y : It),l[i]? = some x → l[j]? = some y → i ≤ j → 0 ≤ cmpL x.path p → 0 ≤ cmpL y.path p:=fun i j y z hi hj hij h0 => by
 rcases Nat.lt_or_eq_of_le hij with hlt | rfl
 ·have h1:=sorted_up hs hi hj hlt
  rcases Int.lt_or_le (cmpL z.path p) 0 with h2 | h2
  ·have:=cl_lt_trans h1 h2; omega
  ·exact h2
 ·rw [hi] at hj; cases hj; exact h0
theorem idx_le (l : List It) (p : Str) : idxL l p ≤ l.length:=(List.takeWhile_sublist _).length_le
theorem tfind_gen (l : List It) (v : Value) (p : Str) (w : World) (hs : Srt l) (hn2 : l.length ≤ 2000) (hv : RdI w v l) (hx : ∀ x ∈ l,x.path.length ≤ 140737488355328) (hp : p.length ≤ 140737488355328) :
  Calls Tryz.prog 71 #[v,.string ⟨p.toArray⟩] w fun e w' => e = .returned (.tuple #[.int .i64 (idxL l p),.bool (hasL l p)]) ∧ Below w.heap.size w w':=by
 obtain ⟨a,c,rfl,_⟩:=hv.open
 obtain ⟨n,hn⟩:=nmq (l.length)
 rw [← hn] at hv hn2 ⊢
 obtain ⟨w1,hw1⟩:=nmq ((w.alloc (.cells #[.slice a n c] 22)).alloc (.cells #[.string ⟨p.toArray⟩] 9))
 have X2 : Box w1 w.heap.size 22 #[.slice a n c]:=by rw [hw1]; exact box_new.alloc _
 have X3 : Box w1 (w.heap.size + 1) 9 #[.string ⟨p.toArray⟩]:=by rw [hw1,show w.heap.size + 1 = (w.alloc (.cells #[.slice a n c] 22)).heap.size from by simp]; exact box_new
 have HB1 : Hid (Below w.heap.size w w1):=hyq (by rw [hw1]; exact bch (below_new _ _) (below_new _ _))
 have hV1:=hv.on HB1.out
 have HSE:=hyq (search_any l a n c w.heap.size (w.heap.size + 1) ⟨p.toArray⟩ w1 hn hn2 X2 X3 hV1 hx (by show p.toArray.size ≤ _; rw [List.size_toArray]; exact hp) (srt_mono hs p))
 have HSP : Hid (∀ r,Spot l p r → r = idxL l p):=hyq (fun r h => spot_idx hs h)
 obtain ⟨k,hk⟩:=nmq (idxL l p)
 have hkn : k ≤ n:=by rw [hk,hn]; exact idx_le l p
 rw [← hk] at HSP ⊢
 have d2:=X2.cell (k:=0) rfl
 have d3:=X3.cell (k:=0) rfl
 have HD2:=hyq d2
 have HD3:=hyq d3
 obtain ⟨b2,hb2⟩:=nmq (w.heap.size)
 have HB2:=hyq hb2
 have HLT : Hid (w.heap.size + 1 < w1.heap.size):=hyq X3.lt
 have hidx:=hk
 have HN:=hyq hn
 rcases Nat.lt_or_eq_of_le hkn with hlt | rfl
 ·obtain ⟨x,hxk⟩ : ∃ x,l[k]? = some x:=⟨_,List.getElem?_eq_getElem (by rw [← HN.out]; exact hlt)⟩
  obtain ⟨t,ht⟩:=nmq ((x.path == p))
  have HH : Hid (hasL l p = t):=hyq (by unfold hasL; rw [← hidx,hxk,ht])
  have HTT:=hyq ht
  obtain ⟨a',c',e,_,hcm,hc⟩:=hV1.open
  rw [← HN.out] at e
  cases e
  obtain ⟨g,o,rfl,hg,hc⟩:=hc (by rw [← HN.out]; omega)
  obtain ⟨q0,_,_⟩:=hc k x hxk
  have HQ:=hyq q0
  clear hc hk hV1 hs hv X2 X3 q0 d2 d3 hx hb2 hn hidx hxk ht
  rw [HH.out]
  go_enter Tryz.func71,Tryz.ntmps71
  go_upto_region 1 with fail
  rw [← hw1]
  clear hw1
  have d2:=HD2.out
  go_wp2_with fail
  refine HSE.out.mono ?_
  rintro e w2 ⟨r,hsp,rfl,hb⟩
  obtain rfl : r = k:=HSP.out r hsp
  have e2 : w2.cell? ⟨w.heap.size,0,none⟩ = some (.slice (some ⟨g,o,none⟩) n c):=(hb.cell (p:=⟨w.heap.size,0,none⟩) (Nat.lt_of_succ_lt HLT.out)).trans HD2.out
  have e3 : w2.cell? ⟨w.heap.size + 1,0,none⟩ = some (.string ⟨p.toArray⟩):=(hb.cell (p:=⟨w.heap.size + 1,0,none⟩) HLT.out).trans HD3.out
  have e0 : w2.cell? ⟨g,o + r * 3,none⟩ = some (.string ⟨x.path.toArray⟩):=(hb.cell (p:=⟨g,_,none⟩) hg).trans HQ.out
  have HB3:=hyq (bch HB1.out hb)
  have k1 : (r : Int) < (n : Int):=by omega
  have k2 : (0 : Int) ≤ (r : Int):=by omega
  clear hsp hb d2 HSE
  go_upto_region 2 with fail
  go_region
  go_wp2
  go_ret2
  exact ⟨by rw [HTT.out]; rfl,HB3.out.drew⟩
 ·have HH : Hid (hasL l p = false):=hyq (by unfold hasL; rw [← hidx,List.getElem?_eq_none (by rw [← HN.out]; exact Nat.le_refl _)])
  clear hk hV1 hs hv X2 X3 d2 d3 hx hb2 hn hidx
  rw [HH.out]
  go_enter Tryz.func71,Tryz.ntmps71
  go_upto_region 1 with fail
  rw [← hw1]
  clear hw1
  have d2:=HD2.out
  go_wp2_with fail
  refine HSE.out.mono ?_
  rintro e w2 ⟨r,hsp,rfl,hb⟩
  obtain rfl : r = k:=HSP.out r hsp
  have e2 : w2.cell? ⟨w.heap.size,0,none⟩ = some (.slice a r c):=(hb.cell (p:=⟨w.heap.size,0,none⟩) (Nat.lt_of_succ_lt HLT.out)).trans HD2.out
  have HB3:=hyq (bch HB1.out hb)
  have k1 : ¬ ((r : Int) < (r : Int)):=by omega
  clear hsp hb d2 HSE
  go_upto_region 2 with fail
  go_region
  go_wp2
  go_ret2
  exact ⟨by rfl,HB3.out.drew⟩
def GetR (o : Option It) (w : World) (e : Ending) (w' : World) : Prop:=e = .returned (.tuple #[.agg (o.getD .nil).arr,.bool o.isSome]) ∧ Below w.heap.size w w'
theorem tget_gen (l : List It) (v : Value) (p : Str) (w : World) (hs : Srt l) (hn2 : l.length ≤ 2000) (hv : RdI w v l) (hx : ∀ x ∈ l,x.path.length ≤ 140737488355328) (hp : p.length ≤ 140737488355328) (hT : Tabs w) :
  Calls Tryz.prog 49 #[v,.string ⟨p.toArray⟩] w (GetR (getI l p) w):=by
 by_cases hr : p = [47]
 ·subst hr
  refine (tget_root l v w hv hT).mono fun e w' ⟨h1,h2⟩ => ?_
  rw [get_root]
  exact ⟨h1,h2⟩
 rw [has_get hs hr]
 have HV:=hyq hv
 obtain ⟨a,c,rfl,_⟩:=hv.open
 obtain ⟨n,hn⟩:=nmq (l.length)
 obtain ⟨w1,hw1⟩:=nmq (w.alloc (.cells #[.string ⟨#[]⟩,.int .i64 0,.string ⟨#[]⟩] 59))
 have X : Hid (Box w1 w.heap.size 59 It.nil.arr):=hyq (by rw [hw1]; exact box_new)
 have HB : Hid (Below w.heap.size w w1):=hyq (by rw [hw1]; exact below_new _ _)
 have r0:=(hT.on HB.out).r0
 have HFI:=hyq (tfind_gen l (.slice a l.length c) p w1 hs hn2 (HV.out.on HB.out) hx hp)
 have HV1:=hyq (HV.out.on HB.out)
 rw [← hn] at HFI HV1 ⊢
 obtain ⟨k,hk⟩:=nmq (idxL l p)
 obtain ⟨t,ht⟩:=nmq (hasL l p)
 rw [← hk,← ht] at HFI ⊢
 have t1 : ((⟨p.toArray⟩ : ByteArray).toList == [47]) = false:=by rw [Lib.toList_data]; simpa using hr
 have t2 : ¬ p = [47]:=hr
 have t3 : (p == [47]) = false:=by simpa using hr
 have HN:=hyq hn
 cases t with
 | false =>
  clear hv hT hs hx hn hk ht HV HV1 HN hn2
  go_enter Tryz.func49,Tryz.ntmps49
  go_upto_region 1 with fail
  rw [← hw1]
  clear hw1
  go_wp2_with fail
  refine HFI.out.mono ?_
  rintro e w2 ⟨rfl,hb⟩
  have X2:=hyq (X.out.on hb)
  have HB2:=hyq (bch HB.out hb)
  clear hb HFI r0 t1 t2 t3
  go_wp2_with (refine wpList_store_row rfl 59 (.tmp 4) (.tmp 21) rfl w.heap.size It.nil.arr rfl rfl 59 _ X2.out (info35 _) rfl (iarr_one _) ?_)
  exact bodyPost_ret (end_item rfl _ (X2.out.row _) rfl rfl) rfl ⟨rfl,below_row HB2.out (Nat.le_refl _) _⟩
 | true =>
  obtain ⟨x,hxk⟩ : ∃ x,l[k]? = some x:=by
   unfold hasL at ht
   rw [← hk] at ht
   cases h : l[k]? with
   | none => rw [h] at ht; cases ht
   | some x => exact ⟨x,rfl⟩
  have hkn : k < n:=by rw [hn]; exact (List.getElem?_eq_some_iff.1 hxk).1
  rw [if_pos rfl,hxk]
  have HK:=hyq hxk
  clear hv hT hs hx hn hk ht hxk
  go_enter Tryz.func49,Tryz.ntmps49
  go_upto_region 1 with fail
  rw [← hw1]
  clear hw1
  go_wp2_with fail
  refine HFI.out.mono ?_
  rintro e w2 ⟨rfl,hb⟩
  have hV2:=HV1.out.on hb
  obtain ⟨a',c',e,_,_,hc⟩:=hV2.open
  rw [← HN.out] at e
  cases e
  obtain ⟨g,o,rfl,hg,hc⟩:=hc (by rw [← HN.out]; omega)
  obtain ⟨q0,q1,q2⟩:=hc k x HK.out
  have X2:=hyq (X.out.on hb)
  have HB2:=hyq (bch HB.out hb)
  have k1 : (k : Int) < (n : Int):=by omega
  have k2 : (0 : Int) ≤ (k : Int):=by omega
  clear hV2 hc hb HFI r0 t1 t2 t3
  go_wp2_with (refine wpList_store_row rfl 59 (.tmp 4) (.tmp 25) rfl w.heap.size x.arr rfl rfl 59 _ X2.out (info35 _) rfl (iarr_one _) ?_)
  exact bodyPost_ret (end_item rfl _ (X2.out.row _) rfl rfl) rfl ⟨rfl,below_row HB2.out (Nat.le_refl _) _⟩
end Go.Proofs.YtigopecainocgaaGreatDoor
