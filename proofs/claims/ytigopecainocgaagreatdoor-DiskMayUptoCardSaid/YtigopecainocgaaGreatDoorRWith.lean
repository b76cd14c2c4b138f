/- Proved here: with, without, Under and Below of puncheonref06. -/
import Derived.Test.YtigopecainocgaaGreatDoorDMA
import Derived.Test.YtigopecainocgaaGreatDoorRefV
import Derived.Test.YtigopecainocgaaGreatDoorRMath
import Derived.Test.YtigopecainocgaaGreatDoorRBen
set_option maxRecDepth 100000
set_option maxHeartbeats 32000000
namespace Go.Proofs.YtigopecainocgaaGreatDoor
open Go.RowKit Go.Shelf
theorem end_tree1 {fn : Func} {p : Tmp} (h : fn.results = #[.cell p 24]) (tmps : Array Value) {w : World} {g : Nat} {v : Value} (X : Box w g 24 #[v]) (hp : tmps.getD p undef = .pointer (some ⟨g,0,none⟩)) :
  (results fn tmps).run Tryz.prog w = .ok (.agg #[v]) w :=
 results_cell_row h tmps w g 24 #[v] (0,0) _ hp X Tryz.underlying24 rfl (info24 v)
theorem b24x (a : Option Addr) (n c : Nat) : Tryz.prog.built 24 [(0,.slice a n c)] = some #[.slice a n c]:=by kernel_rfl
theorem OwnI.blk {w : World} {B : Nat} {v : Value} {l : List It} (h : OwnI w B v l) : ∀ q,v.ownBlock = some q → B ≤ q:=by
 intro q hq
 rcases h.2 with ⟨rfl,_⟩ | ⟨g,cap,cur,rfl,hg,_⟩
 ·simp [Value.ownBlock] at hq
 ·simp [Value.ownBlock] at hq; omega
theorem OwnI.push {w : World} {B : Nat} {v : Value} {l : List It} {m : Nat} {x : It} (hm : m = l.length) (h : w.ownsRow B 59 3 v (m + 1) (flatI l ++ x.cells)) : OwnI w B v (l ++ [x]):=by
 unfold OwnI
 rw [List.length_append,flatI_append,← hm]
 simpa [flatI] using h
theorem three_new (W : World) (x : It) : ∀ (j : Nat) (u : Value),x.cells[j]? = some u → (W.alloc (.cells x.arr 59)).cell? ((⟨W.heap.size,0,none⟩ : Addr).add j) = some u:=by
 intro j u hu
 rw [add_to,Nat.zero_add]
 exact (box_new (w:=W) (t:=59) (cs:=x.arr)).cell (by rw [← hu,← Array.getElem?_toList]; rfl)
theorem without_one (l : List It) (p : Str) {k : Nat} {x : It} (h : l[k]? = some x) : withoutR (l.take (k + 1)) p = withoutR (l.take k) p ++ (if x.path = p then [] else [x]):=by
 rw [take_one h]
 unfold withoutR
 rw [List.filter_append]
 by_cases e : x.path = p <;> simp [e]
theorem below_one (l : List It) (p : Str) {k : Nat} {x : It} (h : l[k]? = some x) : belowR (l.take (k + 1)) p = belowR (l.take k) p ++ (if x.path = p ∨ underB x.path p = false then [] else [x]):=by
 rw [take_one h]
 unfold belowR
 rw [List.filter_append]
 by_cases e : x.path = p
 ·simp [e]
 ·cases hu : underB x.path p <;> simp [e,hu]
theorem filter_take_len {q : It → Bool} (l : List It) (k : Nat) : ((l.take k).filter q).length ≤ l.length:=Nat.le_trans (List.length_filter_le _ _) (by rw [List.length_take]; omega)
theorem rwithout_any (l : List It) (v : Value) (p : ByteArray) (w : World) (hv : RdI w v l) (hl : l.length ≤ 4000) : Calls Tryz.prog 78 #[.agg #[v],.string p] w fun e w' => ∃ v',e = .returned (.agg #[v']) ∧ OwnI w' w.heap.size v' (withoutR l p.data.toList) ∧ Below w.heap.size w w':=by
 obtain ⟨w1,hw1⟩:=nmq ((w.alloc (.cells #[v] 24)).alloc (.cells #[.slice none 0 0] 24))
 have X : Hid (Box w1 w.heap.size 24 #[v]):=hyq (by rw [hw1]; exact box_new.alloc _)
 obtain ⟨b4,hb4⟩:=nmq (w.heap.size + 1)
 have X4 : Hid (Box w1 b4 24 #[.slice none 0 0]):=hyq (by rw [hw1,hb4,show w.heap.size + 1 = (w.alloc (.cells #[v] 24)).heap.size from by simp]; exact box_new)
 have H4 : Hid (w.heap.size ≤ b4):=hyq (by rw [hb4]; exact Nat.le_succ _)
 have HB1 : Hid (Below w.heap.size w w1):=hyq (by rw [hw1]; exact bch (below_new _ _) (below_new _ _))
 have HV:=hyq (hv.on HB1.out)
 obtain ⟨a,c,rfl,hlc,hcm,_⟩:=hv.open
 obtain ⟨n,hn⟩:=nmq (l.length)
 rw [← hn] at HV X hlc hw1 hl ⊢
 have HN:=hyq hn
 have c0:=X.out.cell (k:=0) rfl
 obtain ⟨i0,hi,hz0,hz1,hz2⟩:=info_parts info35z
 have OS0 : Hid (OwnI w1 w1.heap.size (.slice none 0 0) []):=hyq (World.ownsRow_nil _ _ _ _)
 clear hv hn
 unfold maxLen at hcm
 go_enter Tryz.func78,Tryz.ntmps78
 go_upto_region 1 with fail
 rw [← hw1,← hb4]
 clear hw1 hb4
 go_wp2_with fail
 clear c0
 go_loopw [5,11] (fun s i W => ∃ k : Nat,k ≤ n ∧ i = .int .i64 k ∧ Hid (OwnI W w1.heap.size s (withoutR (l.take k) p.data.toList)) ∧ Hid (Below w1.heap.size w1 W)) (fun s i _ => n - (Lib.intOf i).toNat)
 case atStart => exact ⟨0,Nat.zero_le _,rfl,OS0,hyq (Below.refl _ _)⟩
 case round =>
  clear OS0
  obtain ⟨k,hk,rfl,HO,HBk⟩:=hrel
  obtain ⟨wq,hwq⟩:=nmq (wr)
  rw [← hwq] at HBk HO ⊢
  clear hwq
  obtain ⟨a3,c3,rfl,_,_⟩:=own_slice HO.out
  obtain ⟨m,hm⟩:=nmq ((withoutR (l.take k) p.data.toList).length)
  have hmb : m ≤ 4000:=by have:=filter_take_len (q:=fun y : It => !decide (y.path = p.data.toList)) l k; rw [hm]; unfold withoutR; rw [← HN.out] at this; omega
  rw [← hm] at HO ⊢
  have HM:=hyq hm
  clear hm
  by_cases hlt : k < n
  ·obtain ⟨x,hx⟩ : ∃ x,l[k]? = some x:=⟨_,List.getElem?_eq_getElem (by rw [← HN.out]; exact hlt)⟩
   obtain ⟨a',c',e,_,_,hc⟩:=(HV.out.on HBk.out).open
   rw [← HN.out] at e
   cases e
   obtain ⟨g,o,rfl,hg,hc⟩:=hc (by rw [← HN.out]; omega)
   obtain ⟨q0,q1,q2⟩:=hc k x hx
   have k1 : (k : Int) < (n : Int):=by omega
   have k2 : (0 : Int) ≤ (k : Int):=by omega
   have k4 : IntKind.i64.wrap ((k : Int) + 1) = (k : Int) + 1:=IntWalk.i64_in _ (by omega)
   obtain ⟨w5,hw5⟩:=nmq (wq.alloc (.cells #[.string ⟨x.path.toArray⟩,.int .i64 x.kind,.string ⟨x.data.toArray⟩] 59))
   have hb5 : Below wq.heap.size wq w5:=by rw [hw5]; exact below_new _ _
   have HX5 : Hid (Box w5 wq.heap.size 59 x.arr):=hyq (by rw [hw5]; exact box_new)
   have HB5 : Hid (Below w1.heap.size w1 w5):=hyq (bch HBk.out hb5)
   replace HO:=hyq (HO.out.on hb5)
   have HX:=hyq hx
   clear hc hx hb5 hg
   go_upto_region 5 with fail
   obtain ⟨b7,hb7⟩:=nmq (wq.heap.size)
   rw [← hb7] at HX5 ⊢
   rw [← hw5]
   clear hw5 hb7 q0 q1 q2 HBk
   obtain ⟨d0,d1,d2⟩:=HX5.out.it
   by_cases he : x.path = p.data.toList
   ·have t1 : (x.path == p.toList) = true:=by rw [Lib.toList_data]; simp [he]
    have HR : Hid (withoutR (l.take (k + 1)) p.data.toList = withoutR (l.take k) p.data.toList):=hyq (by rw [without_one l _ HX.out,if_pos he,List.append_nil])
    clear he
    go_wp2_with fail
    go_roundw
    case rel => exact ⟨k + 1,hlt,by go_num,hyq (by rw [HR.out]; exact HO.out),HB5⟩
    case measure => simp [Lib.intOf]; omega
   ·have t1 : (x.path == p.toList) = false:=by rw [Lib.toList_data]; simp [he]
    have HR : Hid (withoutR (l.take (k + 1)) p.data.toList = withoutR (l.take k) p.data.toList ++ [x]):=hyq (by rw [without_one l _ HX.out,if_neg he])
    clear he
    have HNW:=hyq (three_new w5 x)
    have HOF : Hid (w5.ownsRow w1.heap.size 59 3 (.slice a3 m c3) m (flatI (withoutR (l.take k) p.data.toList))):=hyq (by have:=HO.out; unfold OwnI at this; rw [← HM.out] at this; exact this)
    have HBQ:=hyq HO.out.blk
    have hws : w1.heap.size ≤ w5.heap.size:=HB5.out.size
    go_wp2_with (at_builtin; refine wpList_append_own _ rfl _ _ 22 rfl w1.heap.size 59 i0 (.agg It.nil.arr) 3 40 Tryz.underlying22 hi hz0 hz1 hz2 rfl (by decide) _ _ _ rfl (HOF.out.alloc _) ⟨w5.heap.size,0,none⟩ 1 1 x.cells rfl rfl HNW.out (by simp [It.cells,Value.oneCell']) (by unfold maxLen; omega) (by omega) (by simp; omega) ?_)
    intro v9 w9 hown9 hgrow9 _
    have HO9 : Hid (OwnI w9 w1.heap.size v9 (withoutR (l.take k) p.data.toList ++ [x])):=hyq (OwnI.push HM.out hown9)
    have hb9 : Below w1.heap.size w5 w9:=((Below.refl _ _).alloc hws _).grown hgrow9 (by simp; omega) HBQ.out
    clear hown9 hgrow9
    go_wp2_with fail
    go_roundw
    case rel => exact ⟨k + 1,hlt,by go_num,hyq (by rw [HR.out]; exact HO9.out),hyq (HB5.out.trans hb9)⟩
    case measure => simp [Lib.intOf]; omega
  ·have k1 : ¬ ((k : Int) < (n : Int)):=by omega
   have HR : Hid (withoutR l p.data.toList = withoutR (l.take k) p.data.toList):=hyq (by rw [List.take_of_length_le (by have:=HN.out; omega)])
   have X7:=hyq (X4.out.on HBk.out)
   have HB7:=hyq (bch HB1.out HBk.out)
   have bx:=b24x a3 m c3
   go_wp2_with (refine wpList_store_row rfl 24 (.tmp 4) (.tmp 25) rfl b4 #[.slice a3 m c3] rfl rfl 24 _ X7.out (info24 _) rfl (slice_one _ _ _) ?_)
   exact bodyPost_ret (end_tree1 rfl _ (X7.out.row _) rfl) rfl ⟨_,rfl,by rw [HR.out]; exact own_base (own_row HO.out X7.out) HB1.out.size,below_row HB7.out H4.out _⟩
theorem rbelow_any (l : List It) (v : Value) (p : ByteArray) (w : World) (hv : RdI w v l) (hl : l.length ≤ 4000) (hsz : ∀ y ∈ l,y.path.length ≤ 2000000) (hp : p.size ≤ 2000000) : Calls Tryz.prog 76 #[.agg #[v],.string p] w fun e w' => ∃ v',e = .returned (v') ∧ OwnI w' w.heap.size v' (belowR l p.data.toList) ∧ Below w.heap.size w w':=by
 obtain ⟨w1,hw1⟩:=nmq (w.alloc (.cells #[v] 24))
 have X : Hid (Box w1 w.heap.size 24 #[v]):=hyq (by rw [hw1]; exact box_new)
 have HB1 : Hid (Below w.heap.size w w1):=hyq (by rw [hw1]; exact below_new _ _)
 have HV:=hyq (hv.on HB1.out)
 obtain ⟨a,c,rfl,hlc,hcm,_⟩:=hv.open
 obtain ⟨n,hn⟩:=nmq (l.length)
 rw [← hn] at HV X hlc hw1 hl ⊢
 have HN:=hyq hn
 have HSZ:=hyq hsz
 have HP:=hyq hp
 have c0:=X.out.cell (k:=0) rfl
 obtain ⟨i0,hi,hz0,hz1,hz2⟩:=info_parts info35z
 have OS0 : Hid (OwnI w1 w1.heap.size (.slice none 0 0) []):=hyq (World.ownsRow_nil _ _ _ _)
 clear hv hn hsz hp
 unfold maxLen at hcm
 go_enter Tryz.func76,Tryz.ntmps76
 go_upto_region 1 with fail
 rw [← hw1]
 clear hw1
 go_wp2_with fail
 clear c0
 go_loopw [5,11] (fun s i W => ∃ k : Nat,k ≤ n ∧ i = .int .i64 k ∧ Hid (OwnI W w1.heap.size s (belowR (l.take k) p.data.toList)) ∧ Hid (Below w1.heap.size w1 W)) (fun s i _ => n - (Lib.intOf i).toNat)
 case atStart => exact ⟨0,Nat.zero_le _,rfl,OS0,hyq (Below.refl _ _)⟩
 case round =>
  clear OS0
  obtain ⟨k,hk,rfl,HO,HBk⟩:=hrel
  obtain ⟨wq,hwq⟩:=nmq (wr)
  rw [← hwq] at HBk HO ⊢
  clear hwq
  obtain ⟨a3,c3,rfl,_,_⟩:=own_slice HO.out
  obtain ⟨m,hm⟩:=nmq ((belowR (l.take k) p.data.toList).length)
  have hmb : m ≤ 4000:=by have:=filter_take_len (q:=fun y : It => !decide (y.path = p.data.toList) && underB y.path p.data.toList) l k; rw [hm]; unfold belowR; rw [← HN.out] at this; omega
  rw [← hm] at HO ⊢
  have HM:=hyq hm
  clear hm
  by_cases hlt : k < n
  ·obtain ⟨x,hx⟩ : ∃ x,l[k]? = some x:=⟨_,List.getElem?_eq_getElem (by rw [← HN.out]; exact hlt)⟩
   obtain ⟨a',c',e,_,_,hc⟩:=(HV.out.on HBk.out).open
   rw [← HN.out] at e
   cases e
   obtain ⟨g,o,rfl,hg,hc⟩:=hc (by rw [← HN.out]; omega)
   obtain ⟨q0,q1,q2⟩:=hc k x hx
   have k1 : (k : Int) < (n : Int):=by omega
   have k2 : (0 : Int) ≤ (k : Int):=by omega
   have k4 : IntKind.i64.wrap ((k : Int) + 1) = (k : Int) + 1:=IntWalk.i64_in _ (by omega)
   obtain ⟨w5,hw5⟩:=nmq (wq.alloc (.cells #[.string ⟨x.path.toArray⟩,.int .i64 x.kind,.string ⟨x.data.toArray⟩] 59))
   have hb5 : Below wq.heap.size wq w5:=by rw [hw5]; exact below_new _ _
   have HX5 : Hid (Box w5 wq.heap.size 59 x.arr):=hyq (by rw [hw5]; exact box_new)
   have HB5 : Hid (Below w1.heap.size w1 w5):=hyq (bch HBk.out hb5)
   replace HO:=hyq (HO.out.on hb5)
   have HX:=hyq hx
   clear hc hx hb5 hg
   go_upto_region 5 with fail
   obtain ⟨b7,hb7⟩:=nmq (wq.heap.size)
   rw [← hb7] at HX5 ⊢
   rw [← hw5]
   clear hw5 hb7 q0 q1 q2 HBk
   obtain ⟨d0,d1,d2⟩:=HX5.out.it
   have HUN : Hid (Calls Tryz.prog 98 #[.string ⟨x.path.toArray⟩,.string p] w5 fun e w' => e = .returned (.bool (underB x.path p.data.toList)) ∧ Below w5.heap.size w5 w'):=hyq (runder_any ⟨x.path.toArray⟩ p (HSZ.out x (List.mem_of_getElem? HX.out)) HP.out w5)
   obtain ⟨u,hu⟩:=nmq (underB x.path p.data.toList)
   rw [← hu] at HUN
   have HU:=hyq hu
   clear hu
   by_cases he : x.path = p.data.toList
   ·have t1 : (x.path == p.toList) = true:=by rw [Lib.toList_data]; simp [he]
    have HR : Hid (belowR (l.take (k + 1)) p.data.toList = belowR (l.take k) p.data.toList):=hyq (by rw [below_one l _ HX.out,if_pos (.inl he),List.append_nil])
    clear he
    go_wp2_with fail
    go_roundw
    case rel => exact ⟨k + 1,hlt,by go_num,hyq (by rw [HR.out]; exact HO.out),HB5⟩
    case measure => simp [Lib.intOf]; omega
   ·have t1 : (x.path == p.toList) = false:=by rw [Lib.toList_data]; simp [he]
    have HE:=hyq he
    clear he
    go_wp2_with fail
    refine HUN.out.mono ?_
    rintro e w6 ⟨rfl,hb⟩
    replace HO:=hyq (HO.out.on hb)
    have HX6:=hyq (HX5.out.on hb)
    have HB6:=hyq (bch HB5.out hb)
    clear hb HUN d0 d1 d2 HX5 HB5 t1
    obtain ⟨d0,d1,d2⟩:=HX6.out.it
    cases u with
    | false =>
     have HR : Hid (belowR (l.take (k + 1)) p.data.toList = belowR (l.take k) p.data.toList):=hyq (by rw [below_one l _ HX.out,if_pos (.inr HU.out.symm),List.append_nil])
     go_wp2_with fail
     go_roundw
     case rel => exact ⟨k + 1,hlt,by go_num,hyq (by rw [HR.out]; exact HO.out),HB6⟩
     case measure => simp [Lib.intOf]; omega
    | true =>
     have HR : Hid (belowR (l.take (k + 1)) p.data.toList = belowR (l.take k) p.data.toList ++ [x]):=hyq (by rw [below_one l _ HX.out,if_neg (by rintro (h | h); exact HE.out h; rw [← HU.out] at h; cases h)])
     have HNW:=hyq (three_new w6 x)
     have HOF : Hid (w6.ownsRow w1.heap.size 59 3 (.slice a3 m c3) m (flatI (belowR (l.take k) p.data.toList))):=hyq (by have:=HO.out; unfold OwnI at this; rw [← HM.out] at this; exact this)
     have HBQ:=hyq HO.out.blk
     have hws : w1.heap.size ≤ w6.heap.size:=HB6.out.size
     go_wp2_with (at_builtin; refine wpList_append_own _ rfl _ _ 22 rfl w1.heap.size 59 i0 (.agg It.nil.arr) 3 40 Tryz.underlying22 hi hz0 hz1 hz2 rfl (by decide) _ _ _ rfl (HOF.out.alloc _) ⟨w6.heap.size,0,none⟩ 1 1 x.cells rfl rfl HNW.out (by simp [It.cells,Value.oneCell']) (by unfold maxLen; omega) (by omega) (by simp; omega) ?_)
     intro v9 w9 hown9 hgrow9 _
     have HO9 : Hid (OwnI w9 w1.heap.size v9 (belowR (l.take k) p.data.toList ++ [x])):=hyq (OwnI.push HM.out hown9)
     have hb9 : Below w1.heap.size w6 w9:=((Below.refl _ _).alloc hws _).grown hgrow9 (by simp; omega) HBQ.out
     clear hown9 hgrow9
     go_wp2_with fail
     go_roundw
     case rel => exact ⟨k + 1,hlt,by go_num,hyq (by rw [HR.out]; exact HO9.out),hyq (HB6.out.trans hb9)⟩
     case measure => simp [Lib.intOf]; omega
  ·have k1 : ¬ ((k : Int) < (n : Int)):=by omega
   have HR : Hid (belowR l p.data.toList = belowR (l.take k) p.data.toList):=hyq (by rw [List.take_of_length_le (by have:=HN.out; omega)])
   have HB7:=hyq (bch HB1.out HBk.out)
   go_wp2_with fail
   go_ret
   exact ⟨_,rfl,by rw [HR.out]; exact own_base HO.out HB1.out.size,HB7.out⟩
end Go.Proofs.YtigopecainocgaaGreatDoor
