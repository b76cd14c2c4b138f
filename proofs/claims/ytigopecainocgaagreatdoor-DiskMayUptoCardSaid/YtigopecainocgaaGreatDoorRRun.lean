/- Proved here: Same and Run of puncheonref06. -/
import Derived.Test.YtigopecainocgaaGreatDoorRDoo
set_option maxRecDepth 100000
set_option maxHeartbeats 32000000
namespace Go.Proofs.YtigopecainocgaaGreatDoor
open Go.RowKit Go.Shelf
theorem rsame6_any (l m : List It) (v1 v2 : Value) (w : World) (h1 : RdI w v1 l) (h2 : RdI w v2 m) : Calls Tryz.prog 13 #[.agg #[v1],.agg #[v2]] w (EqR (decide (l = m)) w):=by
 obtain ⟨w1,hw1⟩:=nmq ((w.alloc (.cells #[v1] 24)).alloc (.cells #[v2] 24))
 have X : Hid (Box w1 w.heap.size 24 #[v1]):=hyq (by rw [hw1]; exact box_new.alloc _)
 have Y : Hid (Box w1 (w.heap.size + 1) 24 #[v2]):=hyq (by rw [hw1,show w.heap.size + 1 = (w.alloc (.cells #[v1] 24)).heap.size from by simp]; exact box_new)
 have HB : Hid (Below w.heap.size w w1):=hyq (by rw [hw1]; exact bch (below_new _ _) (below_new _ _))
 have H1:=hyq (h1.on HB.out)
 have H2:=hyq (h2.on HB.out)
 obtain ⟨a1,cap1,rfl,hlc1,hcm1,_⟩:=h1.open
 obtain ⟨a2,cap2,rfl,hlc2,hcm2,_⟩:=h2.open
 unfold maxLen at hcm1 hcm2
 by_cases hlen : l.length = m.length
 ·obtain ⟨n,hn⟩:=nmq (l.length)
  have HNM : Hid (n = m.length):=hyq (hn.trans hlen)
  rw [← hlen,← hn] at hlc2 Y H2 hw1
  rw [← hn] at hlc1 X H1
  rw [← hlen,← hn]
  have HN:=hyq hn
  clear hn hlen h1 h2
  have c0:=X.out.cell (k:=0) rfl
  have d0:=Y.out.cell (k:=0) rfl
  have t0 : ((n : Int) != (n : Int)) = false:=by simp
  go_enter Tryz.func13,Tryz.ntmps13
  go_upto_region 1 with fail
  rw [← hw1]
  clear hw1
  go_wp2_with fail
  clear c0 d0 t0
  go_loopw [17] (fun i W => ∃ k : Nat,k ≤ n ∧ i = .int .i64 k ∧ Hid (∀ j,j < k → l[j]? = m[j]?) ∧ Hid (Below w1.heap.size w1 W)) (fun i _ => n - (Lib.intOf i).toNat)
  case atStart => exact ⟨0,Nat.zero_le _,rfl,hyq (fun j h => by omega),hyq (Below.refl _ _)⟩
  case round =>
   obtain ⟨k,hk,rfl,HE,HBk⟩:=hrel
   obtain ⟨wq,hwq⟩:=nmq (wr)
   rw [← hwq] at HBk ⊢
   clear hwq
   by_cases hlt : k < n
   ·obtain ⟨p,hp⟩ : ∃ p,l[k]? = some p:=⟨_,List.getElem?_eq_getElem (by have:=HN.out; omega)⟩
    obtain ⟨q,hq⟩ : ∃ q,m[k]? = some q:=⟨_,List.getElem?_eq_getElem (by have:=HNM.out; omega)⟩
    obtain ⟨a',c',e,_,_,hc1⟩:=(H1.out.on HBk.out).open
    rw [← HN.out] at e
    cases e
    obtain ⟨g1,o1,rfl,hg1,hc1⟩:=hc1 (by have:=HN.out; omega)
    obtain ⟨a',c',e,_,_,hc2⟩:=(H2.out.on HBk.out).open
    rw [← HNM.out] at e
    cases e
    obtain ⟨g2,o2,rfl,hg2,hc2⟩:=hc2 (by have:=HNM.out; omega)
    obtain ⟨q0,q1,q2⟩:=hc1 k p hp
    have k1 : (k : Int) < (n : Int):=by omega
    have k2 : (0 : Int) ≤ (k : Int):=by omega
    have k4 : IntKind.i64.wrap ((k : Int) + 1) = (k : Int) + 1:=IntWalk.i64_in _ (by omega)
    obtain ⟨w5,hw5⟩:=nmq (wq.alloc (.cells #[.string ⟨p.path.toArray⟩,.int .i64 p.kind,.string ⟨p.data.toArray⟩] 59))
    have hb5 : Below wq.heap.size wq w5:=by rw [hw5]; exact below_new _ _
    have HX5 : Hid (Box w5 wq.heap.size 59 p.arr):=hyq (by rw [hw5]; exact box_new)
    have HB5 : Hid (Below w1.heap.size w1 w5):=hyq (bch HBk.out hb5)
    have HQ2:=hyq ((hc2 k q hq).on hg2 hb5)
    have HP:=hyq hp
    have HQ:=hyq hq
    clear hc1 hc2 hp hq hg1 hg2 hb5
    go_upto_region 6 with fail
    obtain ⟨b7,hb7⟩:=nmq (wq.heap.size)
    rw [← hb7] at HX5 ⊢
    rw [← hw5]
    clear hw5 hb7 q0 q1 q2
    obtain ⟨d0,d1,d2⟩:=HX5.out.it
    obtain ⟨s0,s1,s2⟩:=HQ2.out
    have y0:=(Y.out.on HB5.out).cell (k:=0) rfl
    have hgd:=guard35
    by_cases hpq : p = q
    ·have hne:=neq35 p q false (by simp [hpq])
     have HE' : Hid (∀ j,j < k + 1 → l[j]? = m[j]?):=hyq (fun j hj => by
      by_cases e : j = k
      ·subst e; rw [HP.out,HQ.out,hpq]
      ·exact HE.out j (by omega))
     clear hpq
     go_region
     go_wp2
     go_roundw
     case rel => exact ⟨k + 1,hlt,by go_num,HE',hyq HB5.out.drew⟩
     case measure => simp [Lib.intOf]; omega
    ·have hne:=neq35 p q true (by simp [hpq])
     have HD : Hid (decide (l = m) = false):=hyq (decide_eq_false (list_ne HP.out HQ.out hpq))
     clear hpq
     go_region
     go_wp2
     go_ret
     exact ⟨by rw [HD.out]; rfl,(bch HB.out HB5.out).drew⟩
   ·have k1 : ¬ ((k : Int) < (n : Int)):=by omega
    have HD : Hid (decide (l = m) = true):=hyq (decide_eq_true (List.ext_getElem? fun j => by
     by_cases h : j < k
     ·exact HE.out j h
     ·rw [List.getElem?_eq_none (by have:=HN.out; omega),List.getElem?_eq_none (by have:=HNM.out; omega)]))
    go_wp2_with fail
    go_ret
    exact ⟨by rw [HD.out]; rfl,bch HB.out HBk.out⟩
 ·have HD : decide (l = m) = false:=decide_eq_false fun e => hlen (by rw [e])
  obtain ⟨n1,hn1⟩:=nmq (l.length)
  obtain ⟨n2,hn2⟩:=nmq (m.length)
  rw [← hn1,← hn2] at hlen
  rw [← hn1] at X hw1
  rw [← hn2] at Y hw1
  rw [← hn1,← hn2]
  rw [HD]
  have c0:=X.out.cell (k:=0) rfl
  have d0:=Y.out.cell (k:=0) rfl
  have t0 : ((n1 : Int) != (n2 : Int)) = true:=by simp; omega
  have t1 : ¬ (n1 : Int) = (n2 : Int):=by omega
  have t2 : ((n1 : Int) == (n2 : Int)) = false:=by simp; omega
  clear h1 h2 hlen HD hlc1 hlc2 hn1 hn2 H1 H2
  go_enter Tryz.func13,Tryz.ntmps13
  go_upto_region 1 with fail
  rw [← hw1]
  clear hw1
  go_wp2_with fail
  go_ret
  exact ⟨rfl,HB.out⟩
/-! ### Run -/
theorem runR_app (l : List It) (a b : List Opn) (h : (runM l a).2.2 = 0) : runM l (a ++ b) = ((runM (runM l a).1 b).1,a.length + (runM (runM l a).1 b).2.1,(runM (runM l a).1 b).2.2):=by
 induction a generalizing l with
 | nil => simp [runM]
 | cons o a ih =>
  cases e : actM l o with
  | error k =>
   rw [run_no e] at h
   exact absurd h (act_err e)
  | ok l' =>
   rw [run_yes e] at h
   rw [List.cons_append,run_yes e,run_yes e,ih l' h]
   refine Prod.ext rfl (Prod.ext ?_ rfl)
   simp only [List.length_cons]; omega
theorem run_take_yes {l cur l' : List It} {ops : List Opn} {k : Nat} {o : Opn} (ho : ops[k]? = some o) (h : runM l (ops.take k) = (cur,k,0)) (e : actM cur o = .ok l') : runM l (ops.take (k + 1)) = (l',k + 1,0):=by
 have hk : k < ops.length:=(List.getElem?_eq_some_iff.1 ho).1
 rw [List.take_add_one,ho,Option.toList_some,runR_app l _ _ (by rw [h]),h]
 simp only
 rw [run_yes e]
 simp [runM]; omega
theorem run_take_no {l cur : List It} {ops : List Opn} {k : Nat} {o : Opn} {z : Int} (ho : ops[k]? = some o) (h : runM l (ops.take k) = (cur,k,0)) (e : actM cur o = .error z) : runM l ops = (cur,k,z):=by
 have hk : k < ops.length:=(List.getElem?_eq_some_iff.1 ho).1
 have hd : ops = ops.take k ++ o :: ops.drop (k + 1):=by
  have e2:=List.drop_eq_getElem_cons hk
  rw [(List.getElem?_eq_some_iff.1 ho).2] at e2
  rw [← e2,List.take_append_drop]
 rw [hd,runR_app l _ _ (by rw [h]),h]
 simp only
 rw [run_no e]
 simp; omega
theorem rd_row {W : World} {b : Nat} {v : Value} {l : List It} {a : Option Addr} {m c : Nat} {cs : Array Value} (h : RdI W v l) (X : Box W b 24 #[.slice a m c]) : RdI (W.setRow b cs) v l:=by
 obtain ⟨a',c',h1,h2,h3,h4⟩:=h
 refine ⟨a',c',h1,h2,h3,fun h0 => ?_⟩
 obtain ⟨g,o,e,hg,hc⟩:=h4 h0
 obtain ⟨x,r,hl⟩ : ∃ x r,l = x :: r:=by cases l with | nil => exact absurd h0 (by simp) | cons x r => exact ⟨x,r,rfl⟩
 have hne : g ≠ b:=fun e2 => by
  subst e2
  have q:=hc 0 (.string ⟨x.path.toArray⟩) (by rw [hl,flatI_cons]; rfl)
  have q2:=cell_of_row W g (o + 0) #[.slice a m c] 24 (0,0) X
  rw [q2] at q
  cases ho : o + 0 with
  | zero => rw [ho] at q; simp at q
  | succ j => rw [ho] at q; simp at q
 refine ⟨g,o,e,by rw [setRow_size]; exact hg,fun j u hu => ?_⟩
 have:=hc j u hu
 unfold World.cell? at this ⊢
 rw [setRow_other W b g cs hne]
 exact this
def ROpR (l : List It) (ops : List Opn) (w : World) (e : Ending) (w' : World) : Prop:=∃ v',e = .returned (.tuple #[.agg #[v'],.int .i64 ((runM l ops).2.1 : Nat),.int .i64 (runM l ops).2.2]) ∧ RdI w' v' (runM l ops).1 ∧ Below w.heap.size w w'
theorem rrun_any (l : List It) (v vo : Value) (ops : List Opn) (w : World) (hv : RdI w v l) (h : TreeOk l) (ho : RdO w vo ops) (hso : ∀ o ∈ ops,o.path.length ≤ 2000000 ∧ o.to.length ≤ 2000000) :
  Calls Tryz.prog 31 #[.agg #[v],vo] w (ROpR l ops w):=by
 obtain ⟨w1,hw1⟩:=nmq ((w.alloc (.cells #[v] 24)).alloc (.cells #[.slice none 0 0] 24))
 obtain ⟨b2,hb2⟩:=nmq (w.heap.size)
 have X2 : Hid (Box w1 b2 24 #[v]):=hyq (by rw [hw1,hb2]; exact box_new.alloc _)
 have X4 : Hid (Box w1 (b2 + 1) 24 #[.slice none 0 0]):=hyq (by rw [hw1,hb2,show w.heap.size + 1 = (w.alloc (.cells #[v] 24)).heap.size from by simp]; exact box_new)
 have HB : Hid (Below w.heap.size w w1):=hyq (by rw [hw1]; exact bch (below_new _ _) (below_new _ _))
 have H2 : Hid (w.heap.size ≤ b2):=hyq (by omega)
 have H4 : Hid (w.heap.size ≤ b2 + 1):=hyq (by omega)
 have HV:=hyq (hv.on HB.out)
 have HO : Hid (RdO w vo ops):=hyq ho
 have HOK:=hyq h
 have HSO:=hyq hso
 have HBE:=hyq hb2
 obtain ⟨a,c,rfl,hlc,hcm,_⟩:=hv.open
 obtain ⟨ao,co,rfl,hlo,hcmo,_⟩:=ho.open
 obtain ⟨m,hm⟩:=nmq (l.length)
 rw [← hm] at HV X2 hw1 ⊢
 obtain ⟨n,hn⟩:=nmq (ops.length)
 rw [← hn] at HO hlo ⊢
 have HN:=hyq hn
 unfold maxLen at hcmo
 clear hv h ho hso hb2 hm hn hlc
 go_enter Tryz.func31,Tryz.ntmps31
 go_upto_region 1 with fail
 rw [← HBE.out,← hw1]
 clear hw1
 go_wp2_with fail
 go_loopw [13] (fun i W => ∃ (k : Nat) (cur : List It) (a3 : Option Addr) (m3 c3 : Nat),k ≤ n ∧ i = .int .i64 k ∧ Hid (runM l (ops.take k) = (cur,k,0)) ∧ Hid (TreeOk cur) ∧ Hid (Box W b2 24 #[.slice a3 m3 c3]) ∧ Hid (RdI W (.slice a3 m3 c3) cur) ∧ Hid (Below w.heap.size w W) ∧ Hid (Box W (b2 + 1) 24 #[.slice none 0 0])) (fun i _ => n - (Lib.intOf i).toNat)
 case atStart => exact ⟨0,l,a,m,c,Nat.zero_le _,rfl,hyq (by simp [runM]),HOK,X2,HV,HB,X4⟩
 case round =>
  clear X2 X4 HV HB
  obtain ⟨k,cur,a3,m3,c3,hk,rfl,HR,HCK,X2,HV,HB,X4⟩:=hrel
  obtain ⟨wq,hwq⟩:=nmq (wr)
  rw [← hwq] at X2 HV HB X4 ⊢
  clear hwq
  by_cases hlt : k < n
  ·obtain ⟨o,ho⟩ : ∃ x,ops[k]? = some x:=⟨_,List.getElem?_eq_getElem (by rw [← HN.out]; exact hlt)⟩
   obtain ⟨a',c',e,_,_,hc⟩:=RdO.open (l:=ops) (RdF.on HO.out HB.out)
   rw [← HN.out] at e
   cases e
   obtain ⟨g,q,rfl,hg,hc⟩:=hc (by rw [← HN.out]; omega)
   obtain ⟨q0,q1,q2,q3⟩:=hc k o ho
   have k1 : (k : Int) < (n : Int):=by omega
   have k2 : (0 : Int) ≤ (k : Int):=by omega
   have k4 : IntKind.i64.wrap ((k : Int) + 1) = (k : Int) + 1:=IntWalk.i64_in _ (by omega)
   obtain ⟨w5,hw5⟩:=nmq (wq.alloc (.cells #[.int .i64 o.kind,.string ⟨o.path.toArray⟩,.string ⟨o.to.toArray⟩,.string ⟨o.data.toArray⟩] 46))
   have hb5 : Below wq.heap.size wq w5:=by rw [hw5]; exact below_new _ _
   have HO5 : Hid (Box w5 wq.heap.size 46 o.arr):=hyq (by rw [hw5]; exact box_new)
   have X25:=hyq (X2.out.on hb5)
   have X45:=hyq (X4.out.on hb5)
   have HV5:=hyq (HV.out.on hb5)
   have HB5:=hyq (bch HB.out hb5)
   obtain ⟨r,hr⟩:=nmq (doR cur o)
   have HRA : Hid (r = actM cur o):=hyq (by rw [hr]; exact do_is HCK.out o)
   have HDO : Hid (Calls Tryz.prog 52 #[.agg #[.slice a3 m3 c3],.agg #[.int .i64 o.kind,.string ⟨o.path.toArray⟩,.string ⟨o.to.toArray⟩,.string ⟨o.data.toArray⟩]] w5 (TreeE r w5)):=hyq (rdo_any cur (.slice a3 m3 c3) o w5 HV5.out HCK.out (HSO.out o (List.mem_of_getElem? ho)) r hr.symm)
   have HOO:=hyq ho
   clear hc hg ho hb5 hr
   go_upto_region 4 with fail
   obtain ⟨b8,hb8⟩:=nmq (wq.heap.size)
   rw [← hb8] at HO5 ⊢
   rw [← hw5]
   clear hw5 hb8 q0 q1 q2 q3
   have m0 : w5.cell? ⟨b8,0,none⟩ = some (.int .i64 o.kind):=HO5.out.cell (k:=0) rfl
   have m1 : w5.cell? ⟨b8,1,none⟩ = some (.string ⟨o.path.toArray⟩):=HO5.out.cell (k:=1) rfl
   have m2 : w5.cell? ⟨b8,2,none⟩ = some (.string ⟨o.to.toArray⟩):=HO5.out.cell (k:=2) rfl
   have m3' : w5.cell? ⟨b8,3,none⟩ = some (.string ⟨o.data.toArray⟩):=HO5.out.cell (k:=3) rfl
   have p0:=X25.out.cell (k:=0) rfl
   go_wp2_with fail
   clear m0 m1 m2 m3' p0
   refine HDO.out.mono ?_
   rintro e w6 ⟨hb,hcs⟩
   have X26:=hyq (X25.out.on hb)
   have X46:=hyq (X45.out.on hb)
   have HV6:=hyq (HV5.out.on hb)
   have HB6:=hyq (bch HB5.out hb)
   clear hb HDO
   rcases hcs with ⟨z,hz,rfl⟩ | ⟨l',v5,hz,rfl,hown⟩
   ·have HAE : Hid (actM cur o = .error z):=hyq (by rw [← HRA.out]; exact hz)
    have hzn : z ≠ 0:=act_err HAE.out
    have t1 : (z == 0) = false:=by simpa using hzn
    have t2 : (z != 0) = true:=by simpa using hzn
    have HF:=hyq (run_take_no HOO.out HR.out HAE.out)
    clear hz hzn
    obtain ⟨VE,hVE⟩:=nmq ((w6.alloc (.cells #[.slice none 0 0] 24)).setRow w6.heap.size #[.slice none 0 0])
    obtain ⟨bE,hbE⟩:=nmq (w6.heap.size)
    have hnE : Below w6.heap.size w6 VE:=by rw [hVE]; exact below_row (below_new _ _) (Nat.le_refl _) _
    have HVE:=hyq hVE
    have HWE:=hyq hbE
    have X27:=hyq (X26.out.on hnE)
    have X47:=hyq (X46.out.on hnE)
    have HV7:=hyq (HV6.out.on hnE)
    have HB7:=hyq (bch HB6.out hnE)
    have p0:=X27.out.cell (k:=0) rfl
    clear hVE hbE hnE
    go_wp2_with (first
     | (refine wpList_store_row rfl 24 (.tmp 9) (.tmp 22) rfl w6.heap.size #[.slice none 0 0] rfl rfl 24 #[.slice none 0 0] box_new (info24 _) rfl (slice_one _ _ _) ?_; rw [← HVE.out,← HWE.out])
     | (refine wpList_store_row rfl 24 (.tmp 4) (.tmp 26) rfl (b2 + 1) #[.slice a3 m3 c3] rfl rfl 24 _ X47.out (info24 _) rfl (slice_one _ _ _) ?_)
     | fail)
    exact bodyPost_ret (end_tree rfl _ (X47.out.row _) rfl rfl rfl) rfl ⟨_,by rw [HF.out]; rfl,by rw [HF.out]; exact rd_row HV7.out X47.out,below_row HB7.out H4.out _⟩
   ·have HAE : Hid (actM cur o = .ok l'):=hyq (by rw [← HRA.out]; exact hz)
    have HF:=hyq (run_take_yes HOO.out HR.out HAE.out)
    have HOK' : Hid (TreeOk l'):=hyq (act_goes HCK.out HAE.out).2.ok
    obtain ⟨a5,n5,c5,rfl⟩:=own_any hown
    have HW6:=hyq hown.rd
    clear hz hown
    obtain ⟨VE,hVE⟩:=nmq ((w6.alloc (.cells #[.slice none 0 0] 24)).setRow w6.heap.size #[.slice a5 n5 c5])
    obtain ⟨bE,hbE⟩:=nmq (w6.heap.size)
    have hnE : Below w6.heap.size w6 VE:=by rw [hVE]; exact below_row (below_new _ _) (Nat.le_refl _) _
    have XE : Hid (Box VE bE 24 #[.slice a5 n5 c5]):=hyq (by rw [hVE,hbE]; exact Box.row (box_new (w:=w6) (t:=24) (cs:=#[.slice none 0 0])) _)
    have HVE:=hyq hVE
    have HWE:=hyq hbE
    have X27:=hyq (X26.out.on hnE)
    have X47:=hyq (X46.out.on hnE)
    have HV7:=hyq (HW6.out.on hnE)
    have HB7:=hyq (bch HB6.out hnE)
    have p0:=XE.out.cell (k:=0) rfl
    clear hVE hbE hnE
    go_wp2_with (first
     | (refine wpList_store_row rfl 24 (.tmp 9) (.tmp 22) rfl w6.heap.size #[.slice a5 n5 c5] rfl rfl 24 #[.slice none 0 0] box_new (info24 _) rfl (slice_one _ _ _) ?_; rw [← HVE.out,← HWE.out])
     | (refine wpList_store_row rfl 24 (.tmp 2) (.tmp 29) rfl b2 #[.slice a5 n5 c5] rfl rfl 24 _ X27.out (info24 _) rfl (slice_one _ _ _) ?_)
     | fail)
    go_roundw
    case rel => exact ⟨k + 1,l',a5,n5,c5,hlt,by go_num,HF,HOK',hyq (X27.out.row _),hyq (rd_row HV7.out X27.out),hyq (below_row HB7.out H2.out _),hyq (X47.out.far_row (by omega) _)⟩
    case measure => simp [Lib.intOf]; omega
  ·have k1 : ¬ ((k : Int) < (n : Int)):=by omega
   have hkn : k = n:=by omega
   have HF : Hid (runM l ops = (cur,n,0)):=hyq (by
    have:=HR.out
    rw [List.take_of_length_le (by have:=HN.out; omega),hkn] at this
    exact this)
   clear hkn
   have p0:=X2.out.cell (k:=0) rfl
   go_wp2_with (first
    | (refine wpList_store_row rfl 24 (.tmp 4) (.tmp 31) rfl (b2 + 1) #[.slice a3 m3 c3] rfl rfl 24 _ X4.out (info24 _) rfl (slice_one _ _ _) ?_)
    | fail)
   exact bodyPost_ret (end_tree rfl _ (X4.out.row _) rfl rfl rfl) rfl ⟨_,by rw [HF.out]; rfl,by rw [HF.out]; exact rd_row HV.out X4.out,below_row HB.out H4.out _⟩
end Go.Proofs.YtigopecainocgaaGreatDoor
