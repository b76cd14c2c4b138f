/- Proved here: Beneath of puncheonref01 again, with what its answer's row looks like. -/
import Derived.Test.YtigopecainocgaaGreatDoorRBen
set_option maxRecDepth 100000
set_option maxHeartbeats 32000000
namespace Go.Proofs.YtigopecainocgaaGreatDoor
open Go.RowKit Go.Shelf
def FormS (v : Value) : Prop:=v = .slice none 0 0 ∨ ∃ g o n c,v = .slice (some ⟨g,o,none⟩) n c
def RYesF (l : List Str) (w : World) (e : Ending) (w' : World) : Prop:=∃ v,e = .returned (.tuple #[v,.bool true]) ∧ RdS w' v l ∧ FormS v ∧ Below w.heap.size w w'
theorem own_formS {w : World} {B e s n : Nat} {v : Value} {xs : List Value} (h : w.ownsRow B e s v n xs) : FormS v:=by
 rcases h.2 with ⟨rfl,_⟩ | ⟨g,cap,cur,rfl,_⟩
 ·exact .inl rfl
 ·exact .inr ⟨_,_,_,_,rfl⟩
theorem rben_yesF (p d : ByteArray) (hp : p.size ≤ 2000000) (hd : d.size ≤ 2000000) (hr : p.data.toList ≠ [47]) (hv : validB p.data.toList = true) (hv2 : validB d.data.toList = true) (hu : namesL d.data.toList <+: namesL p.data.toList) (w : World) :
  Calls Tryz.prog 99 #[.string p,.string d] w (RYesF ((namesL p.data.toList).drop (namesL d.data.toList).length) w):=by
 have HV:=hyq hv
 have HD:=hyq hv2
 have HU:=hyq hu
 obtain ⟨n,hn⟩ : ∃ n,(namesL p.data.toList).length = n:=⟨_,rfl⟩
 obtain ⟨m,hm⟩ : ∃ m,(namesL d.data.toList).length = m:=⟨_,rfl⟩
 have hl : m ≤ n:=by rw [← hn,← hm]; exact hu.length_le
 have hm40 : m ≤ 40:=by rw [← hm]; exact (valid_names _ hv2).1
 have hn40 : n ≤ 40:=by rw [← hn]; exact (valid_names _ hv).1
 have hn0 : 0 < n:=by
  rw [← hn]
  exact List.length_pos_iff.2 (fun e => hr ((names_root _ hv).1 e))
 rw [hm]
 have HN:=hyq hn
 have HM:=hyq hm
 have e1 : decide ((n : Int) < (m : Int)) = false:=decide_eq_false (by omega)
 obtain ⟨i0,hi,hz0,hz1,hz2⟩:=info_parts info9
 clear hv hv2 hn hm hu hr
 go_enter Tryz.func99,Tryz.ntmps99
 go_wp2_with fail
 refine ((rnames_any p hp _).1 HV.out).mono ?_
 rintro e w1 ⟨v1,rfl,hr1,hb1⟩
 obtain ⟨a1,c1,rfl,_⟩:=hr1.slice
 rw [HN.out] at hr1 ⊢
 go_wp2_with fail
 refine ((rnames_any d hd _).1 HD.out).mono ?_
 rintro e w2 ⟨v2,rfl,hr2,hb2⟩
 obtain ⟨a2,c2,rfl,_⟩:=hr2.slice
 rw [HM.out] at hr2 ⊢
 have hb3:=chn hb1 hb2
 have hr1:=hr1.below hb2
 obtain ⟨_,hcn,hcm⟩:=hr1.caps
 obtain ⟨g1,o1,rfl,hg1,_⟩:=hr1.cells (by have:=HN.out; omega)
 have HCM:=hyq hcm
 clear hcm
 go_wp2
 have HB3:=hyq hb3
 have HR1:=hyq hr1
 have HR2:=hyq hr2
 clear hb3 hr1 hr2
 go_loopw [37] (fun i wr => ∃ k : Nat,k ≤ m ∧ i = .int .i64 k ∧ Hid (RdS wr (.slice (some ⟨g1,o1,none⟩) n c1) (namesL p.data.toList)) ∧ Hid (RdS wr (.slice a2 m c2) (namesL d.data.toList)) ∧ Hid (Below w.heap.size w wr)) (fun i _ => m - (intOf i).toNat)
 case atStart => exact ⟨0,Nat.zero_le _,rfl,HR1,HR2,HB3⟩
 case round =>
  clear HB3 HR1 HR2
  obtain ⟨k,hk,rfl,HR1,HR2,HB3⟩:=hrel
  by_cases hkm : k < m
  ·have hkn : k < n:=by omega
   obtain ⟨x',hx'⟩ : ∃ x',(namesL p.data.toList)[k]? = some x':=⟨_,List.getElem?_eq_getElem (by have:=HN.out; omega)⟩
   obtain ⟨y',hy'⟩ : ∃ y',(namesL d.data.toList)[k]? = some y':=⟨_,List.getElem?_eq_getElem (by have:=HM.out; omega)⟩
   have hc1:=rd_cell HR1.out k x' hx'
   obtain ⟨g2,o2,rfl,_,k2⟩:=HR2.out.cells (by have:=HM.out; omega)
   have hc2:=k2 k y' hy'
   unfold encS at hc1 hc2
   have hq:=rben_pre _ _ HU.out k x' y' hx' hy'
   clear hx' hy' k2
   have q1 : (y' == x') = true:=by simp [hq]
   have q2 : (y' != x') = false:=by simp [hq]
   clear hq
   go_wp2
   go_region
   go_wp2
   go_roundw
   case rel => exact ⟨k + 1,by omega,by go_num,HR1.out.drewN 1,HR2.out.drewN 1,below_drewN HB3.out 1⟩
   case measure => simp [intOf]; omega
  ·have hc1' : m ≤ c1:=by omega
   have hb3:=HB3.out
   by_cases hcm : c1 = m
   ·have hnm : n = m:=by omega
    obtain ⟨T,hT⟩ : ∃ T : List Value,T = ((namesL p.data.toList).drop m).map encS:=⟨_,rfl⟩
    have H3 : Hid (T.length = n - m):=by rw [Hid,hT,List.length_map,List.length_drop,HN.out]
    have H2 : Hid (∀ u ∈ T,u.oneCell' = true):=by intro u hu; rw [hT] at hu; obtain ⟨x,_,rfl⟩:=List.mem_map.1 hu; simp [encS,Value.oneCell']
    have H4 : Hid (T = ((namesL p.data.toList).drop m).map encS):=hT
    have H1 : Hid (∀ j u,T[j]? = some u → wr.cell? ((⟨g1,o1,none⟩ : Addr).add j) = some u):=by
     intro j u hj
     rw [hT,List.getElem?_map] at hj
     obtain ⟨x,hx,rfl⟩:=Option.map_eq_some_iff.1 hj
     rw [List.drop_of_length_le (by have:=HN.out; omega)] at hx
     cases hx
    clear hT
    go_wp2_with (at_builtin; refine wpList_append_own _ rfl _ _ 69 rfl w.heap.size 9 i0 (.string ⟨#[]⟩) 1 16 Tryz.underlying69 hi hz0 hz1 hz2 rfl (by decide) _ 0 [] rfl (World.ownsRow_nil _ _ _ _) ⟨g1,o1,none⟩ 0 0 T rfl (by rw [H3.out]; omega) H1.out H2.out (by unfold maxLen; omega) (by omega) HB3.out.size ?_; intro v' w2 hown' hgrow _)
    have hrd:=fin_own hown' H4.out
    have HB2:=hyq (HB3.out.grown hgrow HB3.out.size (fun j ej => by cases (show (none : Option Nat) = some j from ej)))
    have hfm:=hyq (own_formS hown')
    clear hown' hgrow
    go_wp2
    go_ret2
    exact ⟨v',rfl,hrd,hfm.out,HB2.out⟩
   ·have hnm : ¬ n < m:=by omega
    obtain ⟨T,hT⟩ : ∃ T : List Value,T = ((namesL p.data.toList).drop m).map encS:=⟨_,rfl⟩
    have H3 : Hid (T.length = n - m):=by rw [Hid,hT,List.length_map,List.length_drop,HN.out]
    have H2 : Hid (∀ u ∈ T,u.oneCell' = true):=by intro u hu; rw [hT] at hu; obtain ⟨x,_,rfl⟩:=List.mem_map.1 hu; simp [encS,Value.oneCell']
    have H4 : Hid (T = ((namesL p.data.toList).drop m).map encS):=hT
    have H1 : Hid (∀ j u,T[j]? = some u → wr.cell? ((⟨g1,o1 + m,none⟩ : Addr).add j) = some u):=by
     intro j u hj
     rw [hT,List.getElem?_map] at hj
     obtain ⟨x,hx,rfl⟩:=Option.map_eq_some_iff.1 hj
     rw [add_off]
     exact RdS.drop HR1.out m j x hx
    clear hT
    go_wp2_with (at_builtin; refine wpList_append_own _ rfl _ _ 69 rfl w.heap.size 9 i0 (.string ⟨#[]⟩) 1 16 Tryz.underlying69 hi hz0 hz1 hz2 rfl (by decide) _ 0 [] rfl (World.ownsRow_nil _ _ _ _) ⟨g1,o1 + m,none⟩ (n - m) (c1 - m) T rfl (by rw [H3.out,Nat.mul_one]) H1.out H2.out (by unfold maxLen; omega) (by omega) HB3.out.size ?_; intro v' w2 hown' hgrow _)
    have hrd:=fin_own hown' H4.out
    have HB2:=hyq (HB3.out.grown hgrow HB3.out.size (fun j ej => by cases (show (none : Option Nat) = some j from ej)))
    have hfm:=hyq (own_formS hown')
    clear hown' hgrow
    go_wp2
    go_ret2
    exact ⟨v',rfl,hrd,hfm.out,HB2.out⟩
theorem rbeneath_f (p d : ByteArray) (hp : p.size ≤ 2000000) (hd : d.size ≤ 2000000) (w : World) (h47 : p.data.toList ≠ [47]) : Calls Tryz.prog 99 #[.string p,.string d] w fun e w' =>
  ∃ v,e = .returned (.tuple #[v,.bool (underB p.data.toList d.data.toList)]) ∧ (underB p.data.toList d.data.toList = true → RdS w' v ((namesL p.data.toList).drop (namesL d.data.toList).length)) ∧ FormS v ∧ Below w.heap.size w w':=by
 cases e : underB p.data.toList d.data.toList with
 | true =>
  have hv : validB p.data.toList = true:=by
   cases h : validB p.data.toList with
   | true => rfl
   | false => rw [underB_no1 _ _ h] at e; cases e
  have hv2 : validB d.data.toList = true:=by
   cases h : validB d.data.toList with
   | true => rfl
   | false => rw [underB_no2 _ _ h] at e; cases e
  refine (rben_yesF p d hp hd h47 hv hv2 ((underB_is _ _ hv hv2).1 e) w).mono ?_
  rintro e w' ⟨v,rfl,hr,hf,hb⟩
  exact ⟨v,rfl,fun _ => hr,hf,hb⟩
 | false =>
  refine ((rben_any p d hp hd w).2 e).mono ?_
  rintro e w' ⟨rfl,hb⟩
  exact ⟨_,rfl,(fun h => by cases h),.inl rfl,hb⟩
end Go.Proofs.YtigopecainocgaaGreatDoor
