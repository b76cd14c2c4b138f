/- Proved here: Beneath of puncheonref01 for paths of at most two million letters each. -/
import Derived.Test.YtigopecainocgaaGreatDoorNR
import Derived.Laws.AppendOwnNone
set_option maxRecDepth 100000
set_option maxHeartbeats 32000000
namespace Go.Proofs.YtigopecainocgaaGreatDoor
open Go.RowKit Go.Shelf
theorem rben_bad1 (p d : ByteArray) (hp : p.size ≤ 2000000) (hd : d.size ≤ 2000000) (hv : validB p.data.toList = false) (w : World) : Calls Tryz.prog 99 #[.string p,.string d] w (RNo w):=by
 have HV:=hyq hv
 have HD:=hyq (rnames_is d hd _ rfl)
 obtain ⟨b,hb⟩ : ∃ b,validB d.data.toList = b:=⟨_,rfl⟩
 rw [hb] at HD
 clear hv hb
 go_enter Tryz.func99,Tryz.ntmps99
 go_wp2_with fail
 refine ((rnames_any p hp _).2 HV.out).mono ?_
 rintro e w1 ⟨rfl,hb1⟩
 go_wp2_with fail
 refine (HD.out _).mono ?_
 rintro e w2 ⟨a2,n2,c2,rfl,hb2⟩
 have hb3:=chn hb1 hb2
 go_wp2
 go_ret2
 exact ⟨rfl,hb3⟩
theorem rben_bad2 (p d : ByteArray) (hp : p.size ≤ 2000000) (hd : d.size ≤ 2000000) (hv : validB p.data.toList = true) (hv2 : validB d.data.toList = false) (w : World) : Calls Tryz.prog 99 #[.string p,.string d] w (RNo w):=by
 have HV:=hyq hv
 have HD:=hyq hv2
 clear hv hv2
 go_enter Tryz.func99,Tryz.ntmps99
 go_wp2_with fail
 refine (rnames_is p hp _ HV.out _).mono ?_
 rintro e w1 ⟨a2,n2,c2,rfl,hb1⟩
 go_wp2_with fail
 refine ((rnames_any d hd _).2 HD.out).mono ?_
 rintro e w2 ⟨rfl,hb2⟩
 have hb3:=chn hb1 hb2
 go_wp2
 go_ret2
 exact ⟨rfl,hb3⟩
theorem rben_long (p d : ByteArray) (hp : p.size ≤ 2000000) (hd : d.size ≤ 2000000) (hv : validB p.data.toList = true) (hv2 : validB d.data.toList = true) (hl : (namesL p.data.toList).length < (namesL d.data.toList).length) (w : World) : Calls Tryz.prog 99 #[.string p,.string d] w (RNo w):=by
 have HV:=hyq hv
 have HD:=hyq hv2
 obtain ⟨n,hn⟩ : ∃ n,(namesL p.data.toList).length = n:=⟨_,rfl⟩
 obtain ⟨m,hm⟩ : ∃ m,(namesL d.data.toList).length = m:=⟨_,rfl⟩
 rw [hn,hm] at hl
 have HN:=hyq hn
 have HM:=hyq hm
 have e1 : decide ((n : Int) < (m : Int)) = true:=decide_eq_true (by omega)
 clear hv hv2 hn hm
 go_enter Tryz.func99,Tryz.ntmps99
 go_wp2_with fail
 refine ((rnames_any p hp _).1 HV.out).mono ?_
 rintro e w1 ⟨v1,rfl,hr1,hb1⟩
 obtain ⟨a1,c1,rfl,_⟩:=hr1
 rw [HN.out]
 go_wp2_with fail
 refine ((rnames_any d hd _).1 HD.out).mono ?_
 rintro e w2 ⟨v2,rfl,hr2,hb2⟩
 obtain ⟨a2,c2,rfl,_⟩:=hr2
 rw [HM.out]
 have hb3:=chn hb1 hb2
 go_wp2
 go_ret2
 exact ⟨rfl,hb3⟩
theorem rben_miss (p d : ByteArray) (hp : p.size ≤ 2000000) (hd : d.size ≤ 2000000) (hv : validB p.data.toList = true) (hv2 : validB d.data.toList = true) (hl : (namesL d.data.toList).length ≤ (namesL p.data.toList).length)
  (j : Nat) (x y : Str) (hx : (namesL p.data.toList)[j]? = some x) (hy : (namesL d.data.toList)[j]? = some y) (hne : y ≠ x) (w : World) : Calls Tryz.prog 99 #[.string p,.string d] w (RNo w):=by
 have HV:=hyq hv
 have HD:=hyq hv2
 have HX:=hyq hx
 have HY:=hyq hy
 have HNE:=hyq hne
 obtain ⟨n,hn⟩ : ∃ n,(namesL p.data.toList).length = n:=⟨_,rfl⟩
 obtain ⟨m,hm⟩ : ∃ m,(namesL d.data.toList).length = m:=⟨_,rfl⟩
 rw [hn,hm] at hl
 have hjm : j < m:=by rw [← hm]; exact (List.getElem?_eq_some_iff.1 hy).1
 have hm40 : m ≤ 40:=by rw [← hm]; exact (valid_names _ hv2).1
 have HN:=hyq hn
 have HM:=hyq hm
 have e1 : decide ((n : Int) < (m : Int)) = false:=decide_eq_false (by omega)
 clear hv hv2 hn hm hx hy hne
 go_enter Tryz.func99,Tryz.ntmps99
 go_wp2_with fail
 refine ((rnames_any p hp _).1 HV.out).mono ?_
 rintro e w1 ⟨v1,rfl,hr1,hb1⟩
 obtain ⟨a1,c1,rfl,_⟩:=hr1.slice
 rw [HN.out] at hr1 ⊢
 go_wp2_with fail
 refine ((rnames_any d hd _).1 HD.out).mono ?_
 rintro e w2 ⟨v2,rfl,hr2,hb2⟩
 obtain ⟨a2,c2,rfl,_⟩:=hr2.slice
 rw [HM.out] at hr2 ⊢
 have hb3:=chn hb1 hb2
 have hr1:=hr1.below hb2
 go_wp2
 have HB3:=hyq hb3
 have HR1:=hyq hr1
 have HR2:=hyq hr2
 clear hb3 hr1 hr2
 go_loopw [37] (fun i wr => ∃ k : Nat,k ≤ j ∧ i = .int .i64 k ∧ Hid (RdS wr (.slice a1 n c1) (namesL p.data.toList)) ∧ Hid (RdS wr (.slice a2 m c2) (namesL d.data.toList)) ∧ Hid (Below w.heap.size w wr)) (fun i _ => m - (intOf i).toNat)
 case atStart => exact ⟨0,Nat.zero_le _,rfl,HR1,HR2,HB3⟩
 case round =>
  clear HB3 HR1 HR2
  obtain ⟨k,hk,rfl,HR1,HR2,HB3⟩:=hrel
  have hkm : k < m:=by omega
  have hkn : k < n:=by omega
  obtain ⟨x',hx'⟩ : ∃ x',(namesL p.data.toList)[k]? = some x':=⟨_,List.getElem?_eq_getElem (by have:=HN.out; omega)⟩
  obtain ⟨y',hy'⟩ : ∃ y',(namesL d.data.toList)[k]? = some y':=⟨_,List.getElem?_eq_getElem (by have:=HM.out; omega)⟩
  obtain ⟨g1,o1,rfl,_,k1⟩:=HR1.out.cells (by have:=HN.out; omega)
  obtain ⟨g2,o2,rfl,_,k2⟩:=HR2.out.cells (by have:=HM.out; omega)
  have hc1:=k1 k x' hx'
  have hc2:=k2 k y' hy'
  unfold encS at hc1 hc2
  have HX':=hyq hx'
  have HY':=hyq hy'
  clear hx' hy' k1 k2
  by_cases hq : y' = x'
  ·have hkj : k ≠ j:=fun e => by
    subst e
    have h1:=HX'.out
    have h2:=HY'.out
    rw [HX.out] at h1
    rw [HY.out] at h2
    cases h1; cases h2
    exact HNE.out hq
   have q1 : (y' == x') = true:=by simp [hq]
   have q2 : (y' != x') = false:=by simp [hq]
   clear hq
   go_wp2
   go_region
   go_wp2
   go_roundw
   case rel => exact ⟨k + 1,by omega,by go_num,HR1.out.drewN 1,HR2.out.drewN 1,below_drewN HB3.out 1⟩
   case measure => simp [intOf]; omega
  ·have q1 : (y' == x') = false:=by simp [hq]
   have q2 : (y' != x') = true:=by simp [hq]
   clear hq
   go_wp2
   go_region
   go_wp2
   go_ret2
   exact ⟨rfl,below_drewN HB3.out 1⟩
theorem rben_yes (p d : ByteArray) (hp : p.size ≤ 2000000) (hd : d.size ≤ 2000000) (hr : p.data.toList ≠ [47]) (hv : validB p.data.toList = true) (hv2 : validB d.data.toList = true) (hu : namesL d.data.toList <+: namesL p.data.toList) (w : World) :
  Calls Tryz.prog 99 #[.string p,.string d] w (RYes ((namesL p.data.toList).drop (namesL d.data.toList).length) w):=by
 have HV:=hyq hv
 have HD:=hyq hv2
 have HU:=hyq hu
 obtain ⟨n,hn⟩ : ∃ n,(namesL p.data.toList).length = n:=⟨_,rfl⟩
 obtain ⟨m,hm⟩ : ∃ m,(namesL d.data.toList).length = m:=⟨_,rfl⟩
 have hl : m ≤ n:=by rw [← hn,← hm]; exact hu.length_le
 have hm40 : m ≤ 40:=by rw [← hm]; exact (valid_names _ hv2).1
 have hn40 : n ≤ 40:=by rw [← hn]; exact (valid_names _ hv).1
 have hn0 : 0 < n:=by
  rw [← hn]
  exact List.length_pos_iff.2 (fun e => hr ((names_root _ hv).1 e))
 rw [hm]
 have HN:=hyq hn
 have HM:=hyq hm
 have e1 : decide ((n : Int) < (m : Int)) = false:=decide_eq_false (by omega)
 obtain ⟨i0,hi,hz0,hz1,hz2⟩:=info_parts info9
 clear hv hv2 hn hm hu hr
 go_enter Tryz.func99,Tryz.ntmps99
 go_wp2_with fail
 refine ((rnames_any p hp _).1 HV.out).mono ?_
 rintro e w1 ⟨v1,rfl,hr1,hb1⟩
 obtain ⟨a1,c1,rfl,_⟩:=hr1.slice
 rw [HN.out] at hr1 ⊢
 go_wp2_with fail
 refine ((rnames_any d hd _).1 HD.out).mono ?_
 rintro e w2 ⟨v2,rfl,hr2,hb2⟩
 obtain ⟨a2,c2,rfl,_⟩:=hr2.slice
 rw [HM.out] at hr2 ⊢
 have hb3:=chn hb1 hb2
 have hr1:=hr1.below hb2
 obtain ⟨_,hcn,hcm⟩:=hr1.caps
 obtain ⟨g1,o1,rfl,hg1,_⟩:=hr1.cells (by have:=HN.out; omega)
 have HCM:=hyq hcm
 clear hcm
 go_wp2
 have HB3:=hyq hb3
 have HR1:=hyq hr1
 have HR2:=hyq hr2
 clear hb3 hr1 hr2
 go_loopw [37] (fun i wr => ∃ k : Nat,k ≤ m ∧ i = .int .i64 k ∧ Hid (RdS wr (.slice (some ⟨g1,o1,none⟩) n c1) (namesL p.data.toList)) ∧ Hid (RdS wr (.slice a2 m c2) (namesL d.data.toList)) ∧ Hid (Below w.heap.size w wr)) (fun i _ => m - (intOf i).toNat)
 case atStart => exact ⟨0,Nat.zero_le _,rfl,HR1,HR2,HB3⟩
 case round =>
  clear HB3 HR1 HR2
  obtain ⟨k,hk,rfl,HR1,HR2,HB3⟩:=hrel
  by_cases hkm : k < m
  ·have hkn : k < n:=by omega
   obtain ⟨x',hx'⟩ : ∃ x',(namesL p.data.toList)[k]? = some x':=⟨_,List.getElem?_eq_getElem (by have:=HN.out; omega)⟩
   obtain ⟨y',hy'⟩ : ∃ y',(namesL d.data.toList)[k]? = some y':=⟨_,List.getElem?_eq_getElem (by have:=HM.out; omega)⟩
   have hc1:=rd_cell HR1.out k x' hx'
   obtain ⟨g2,o2,rfl,_,k2⟩:=HR2.out.cells (by have:=HM.out; omega)
   have hc2:=k2 k y' hy'
   unfold encS at hc1 hc2
   have hq:=rben_pre _ _ HU.out k x' y' hx' hy'
   clear hx' hy' k2
   have q1 : (y' == x') = true:=by simp [hq]
   have q2 : (y' != x') = false:=by simp [hq]
   clear hq
   go_wp2
   go_region
   go_wp2
   go_roundw
   case rel => exact ⟨k + 1,by omega,by go_num,HR1.out.drewN 1,HR2.out.drewN 1,below_drewN HB3.out 1⟩
   case measure => simp [intOf]; omega
  ·have hc1' : m ≤ c1:=by omega
   have hb3:=HB3.out
   by_cases hcm : c1 = m
   ·have hnm : n = m:=by omega
    obtain ⟨T,hT⟩ : ∃ T : List Value,T = ((namesL p.data.toList).drop m).map encS:=⟨_,rfl⟩
    have H3 : Hid (T.length = n - m):=by rw [Hid,hT,List.length_map,List.length_drop,HN.out]
    have H2 : Hid (∀ u ∈ T,u.oneCell' = true):=by intro u hu; rw [hT] at hu; obtain ⟨x,_,rfl⟩:=List.mem_map.1 hu; simp [encS,Value.oneCell']
    have H4 : Hid (T = ((namesL p.data.toList).drop m).map encS):=hT
    have H1 : Hid (∀ j u,T[j]? = some u → wr.cell? ((⟨g1,o1,none⟩ : Addr).add j) = some u):=by
     intro j u hj
     rw [hT,List.getElem?_map] at hj
     obtain ⟨x,hx,rfl⟩:=Option.map_eq_some_iff.1 hj
     rw [List.drop_of_length_le (by have:=HN.out; omega)] at hx
     cases hx
    clear hT
    go_wp2_with (at_builtin; refine wpList_append_own _ rfl _ _ 69 rfl w.heap.size 9 i0 (.string ⟨#[]⟩) 1 16 Tryz.underlying69 hi hz0 hz1 hz2 rfl (by decide) _ 0 [] rfl (World.ownsRow_nil _ _ _ _) ⟨g1,o1,none⟩ 0 0 T rfl (by rw [H3.out]; omega) H1.out H2.out (by unfold maxLen; omega) (by omega) HB3.out.size ?_; intro v' w2 hown' hgrow _)
    have hrd:=fin_own hown' H4.out
    have HB2:=hyq (HB3.out.grown hgrow HB3.out.size (fun j ej => by cases (show (none : Option Nat) = some j from ej)))
    clear hown' hgrow
    go_wp2
    go_ret2
    exact ⟨v',rfl,hrd,HB2.out⟩
   ·have hnm : ¬ n < m:=by omega
    obtain ⟨T,hT⟩ : ∃ T : List Value,T = ((namesL p.data.toList).drop m).map encS:=⟨_,rfl⟩
    have H3 : Hid (T.length = n - m):=by rw [Hid,hT,List.length_map,List.length_drop,HN.out]
    have H2 : Hid (∀ u ∈ T,u.oneCell' = true):=by intro u hu; rw [hT] at hu; obtain ⟨x,_,rfl⟩:=List.mem_map.1 hu; simp [encS,Value.oneCell']
    have H4 : Hid (T = ((namesL p.data.toList).drop m).map encS):=hT
    have H1 : Hid (∀ j u,T[j]? = some u → wr.cell? ((⟨g1,o1 + m,none⟩ : Addr).add j) = some u):=by
     intro j u hj
     rw [hT,List.getElem?_map] at hj
     obtain ⟨x,hx,rfl⟩:=Option.map_eq_some_iff.1 hj
     rw [add_off]
     exact RdS.drop HR1.out m j x hx
    clear hT
    go_wp2_with (at_builtin; refine wpList_append_own _ rfl _ _ 69 rfl w.heap.size 9 i0 (.string ⟨#[]⟩) 1 16 Tryz.underlying69 hi hz0 hz1 hz2 rfl (by decide) _ 0 [] rfl (World.ownsRow_nil _ _ _ _) ⟨g1,o1 + m,none⟩ (n - m) (c1 - m) T rfl (by rw [H3.out,Nat.mul_one]) H1.out H2.out (by unfold maxLen; omega) (by omega) HB3.out.size ?_; intro v' w2 hown' hgrow _)
    have hrd:=fin_own hown' H4.out
    have HB2:=hyq (HB3.out.grown hgrow HB3.out.size (fun j ej => by cases (show (none : Option Nat) = some j from ej)))
    clear hown' hgrow
    go_wp2
    go_ret2
    exact ⟨v',rfl,hrd,HB2.out⟩
theorem rben_root (w : World) : Calls Tryz.prog 99 #[.string ⟨#[47]⟩,.string ⟨#[47]⟩] w (RYes [] w):=by
 go_enter Tryz.func99,Tryz.ntmps99
 go_wp2_with fail
 refine (rnames_root0 _).mono ?_
 rintro e w1 ⟨rfl,rfl⟩
 go_wp2_with fail
 refine (rnames_root0 _).mono ?_
 rintro e w2 ⟨rfl,rfl⟩
 go_wp2
 go_loopw [37] (fun i wr => i = .int .i64 0 ∧ wr = w) (fun i _ => 0)
 case atStart => exact ⟨rfl,rfl⟩
 case round =>
  obtain ⟨rfl,rfl⟩:=hrel
  go_wp2
  go_ret2
  exact ⟨_,rfl,RdS.nil _,Below.refl _ _⟩
theorem rben_any (p d : ByteArray) (hp : p.size ≤ 2000000) (hd : d.size ≤ 2000000) (w : World) :
  (underB p.data.toList d.data.toList = true → Calls Tryz.prog 99 #[.string p,.string d] w (RYes ((namesL p.data.toList).drop (namesL d.data.toList).length) w)) ∧
  (underB p.data.toList d.data.toList = false → Calls Tryz.prog 99 #[.string p,.string d] w (RNo w)):=by
 by_cases hv : validB p.data.toList = true
 ·by_cases hv2 : validB d.data.toList = true
  ·have hu:=underB_is _ _ hv hv2
   refine ⟨fun h => ?_,fun h => ?_⟩
   ·have h:=hu.1 h
    by_cases hr : p.data.toList = [47]
    ·have e0 : namesL p.data.toList = []:=(names_root _ hv).2 hr
     rw [e0] at h
     have e1 : namesL d.data.toList = []:=List.prefix_nil.1 h
     have hr2:=(names_root _ hv2).1 e1
     rw [e0,e1]
     have ep : p = ⟨#[47]⟩:=ba_eq p [47] hr
     have ed : d = ⟨#[47]⟩:=ba_eq d [47] hr2
     subst ep; subst ed
     exact rben_root w
    ·exact rben_yes p d hp hd hr hv hv2 h w
   ·have h : ¬ namesL d.data.toList <+: namesL p.data.toList:=fun k => by rw [hu.2 k] at h; cases h
    rcases pre_no _ _ h with k | ⟨k,j,x,y,h1,h2,h3⟩
    ·exact rben_long p d hp hd hv hv2 k w
    ·exact rben_miss p d hp hd hv hv2 k j x y h1 h2 h3 w
  ·have hv2:=Bool.eq_false_iff.2 hv2
   refine ⟨fun h => ?_,fun _ => rben_bad2 p d hp hd hv hv2 w⟩
   rw [underB_no2 _ _ hv2] at h; cases h
 ·have hv:=Bool.eq_false_iff.2 hv
  refine ⟨fun h => ?_,fun _ => rben_bad1 p d hp hd hv w⟩
  rw [underB_no1 _ _ hv] at h; cases h
theorem rbeneath_any (p d : ByteArray) (hp : p.size ≤ 2000000) (hd : d.size ≤ 2000000) (w : World) : Calls Tryz.prog 99 #[.string p,.string d] w fun e w' =>
  ∃ a n c,e = .returned (.tuple #[.slice a n c,.bool (underB p.data.toList d.data.toList)]) ∧ (underB p.data.toList d.data.toList = true → RdS w' (.slice a n c) ((namesL p.data.toList).drop (namesL d.data.toList).length)) ∧ Below w.heap.size w w':=by
 cases e : underB p.data.toList d.data.toList with
 | true =>
  refine ((rben_any p d hp hd w).1 e).mono ?_
  rintro e w' ⟨v,rfl,hr,hb⟩
  obtain ⟨a,c,rfl,_⟩:=id hr
  exact ⟨a,_,c,rfl,fun _ => hr,hb⟩
 | false =>
  refine ((rben_any p d hp hd w).2 e).mono ?_
  rintro e w' ⟨rfl,hb⟩
  exact ⟨none,0,0,rfl,(fun h => by cases h),hb⟩
theorem runder_any (a b : ByteArray) (ha : a.size ≤ 2000000) (hb : b.size ≤ 2000000) (w : World) : Calls Tryz.prog 98 #[.string a,.string b] w fun e w' => e = .returned (.bool (underB a.data.toList b.data.toList)) ∧ Below w.heap.size w w':=by
 have HC:=hyq (rbeneath_any a b ha hb w)
 go_enter Tryz.func98,Tryz.ntmps98
 go_wp2_with fail
 refine HC.out.mono ?_
 rintro e w2 ⟨x,n,c,rfl,_,hb⟩
 have HB:=hyq hb
 clear hb
 go_wp2_with fail
 go_ret
 exact ⟨rfl,HB.out⟩
end Go.Proofs.YtigopecainocgaaGreatDoor
