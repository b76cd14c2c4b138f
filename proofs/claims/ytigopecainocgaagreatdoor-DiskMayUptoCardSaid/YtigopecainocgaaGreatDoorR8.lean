/- Proved here: Needs, SameOps, Same, Now and Right of puncheonref08. -/
import Derived.Test.YtigopecainocgaaGreatDoorRRun
import Derived.Test.YtigopecainocgaaGreatDoorDMB
set_option maxRecDepth 100000
set_option maxHeartbeats 32000000
namespace Go.Proofs.YtigopecainocgaaGreatDoor
open Go.RowKit Go.Shelf
theorem oat_on {w w' : World} {g o : Nat} {b : Opn} (h : OAt w g o b) (hg : g < w.heap.size) (hb : Below w.heap.size w w') : OAt w' g o b :=
 have k : ∀ r u,w.cell? ⟨g,r,none⟩ = some u → w'.cell? ⟨g,r,none⟩ = some u:=fun _ _ hu => (hb.cell (p:=⟨g,_,none⟩) hg).trans hu
 ⟨k _ _ h.1,k _ _ h.2,k _ _ h.3,k _ _ h.4⟩
theorem rsameops_any (l m : List Opn) (v1 v2 : Value) (w : World) (h1 : RdO w v1 l) (h2 : RdO w v2 m) : Calls Tryz.prog 37 #[v1,v2] w (EqR (decide (l = m)) w):=by
 have H1 : Hid (RdO w v1 l):=hyq h1
 have H2 : Hid (RdO w v2 m):=hyq h2
 have HB : Hid (Below w.heap.size w w):=hyq (Below.refl _ _)
 obtain ⟨a1,cap1,rfl,hlc1,hcm1,_⟩:=h1.open
 obtain ⟨a2,cap2,rfl,hlc2,hcm2,_⟩:=h2.open
 unfold maxLen at hcm1 hcm2
 by_cases hlen : l.length = m.length
 ·obtain ⟨n,hn⟩:=nmq (l.length)
  have HNM : Hid (n = m.length):=hyq (hn.trans hlen)
  rw [← hlen,← hn] at hlc2 H2
  rw [← hn] at hlc1 H1
  rw [← hlen,← hn]
  have HN:=hyq hn
  clear hn hlen h1 h2
  have t0 : ((n : Int) != (n : Int)) = false:=by simp
  go_enter Tryz.func37,Tryz.ntmps37
  go_wp2_with fail
  clear t0
  go_loopw [14] (fun i W => ∃ k : Nat,k ≤ n ∧ i = .int .i64 k ∧ Hid (∀ j,j < k → l[j]? = m[j]?) ∧ Hid (Below w.heap.size w W)) (fun i _ => n - (Lib.intOf i).toNat)
  case atStart => exact ⟨0,Nat.zero_le _,rfl,hyq (fun j h => by omega),hyq (Below.refl _ _)⟩
  case round =>
   obtain ⟨k,hk,rfl,HE,HBk⟩:=hrel
   obtain ⟨wq,hwq⟩:=nmq (wr)
   rw [← hwq] at HBk ⊢
   clear hwq
   by_cases hlt : k < n
   ·obtain ⟨p,hp⟩ : ∃ p,l[k]? = some p:=⟨_,List.getElem?_eq_getElem (by have:=HN.out; omega)⟩
    obtain ⟨q,hq⟩ : ∃ q,m[k]? = some q:=⟨_,List.getElem?_eq_getElem (by have:=HNM.out; omega)⟩
    obtain ⟨a',c',e,_,_,hc1⟩:=RdO.open (l:=l) (RdF.on H1.out HBk.out)
    rw [← HN.out] at e
    cases e
    obtain ⟨g1,o1,rfl,hg1,hc1⟩:=hc1 (by have:=HN.out; omega)
    obtain ⟨a',c',e,_,_,hc2⟩:=RdO.open (l:=m) (RdF.on H2.out HBk.out)
    rw [← HNM.out] at e
    cases e
    obtain ⟨g2,o2,rfl,hg2,hc2⟩:=hc2 (by have:=HNM.out; omega)
    obtain ⟨q0,q1,q2,q3⟩:=hc1 k p hp
    have k1 : (k : Int) < (n : Int):=by omega
    have k2 : (0 : Int) ≤ (k : Int):=by omega
    have k4 : IntKind.i64.wrap ((k : Int) + 1) = (k : Int) + 1:=IntWalk.i64_in _ (by omega)
    obtain ⟨w5,hw5⟩:=nmq (wq.alloc (.cells #[.int .i64 p.kind,.string ⟨p.path.toArray⟩,.string ⟨p.to.toArray⟩,.string ⟨p.data.toArray⟩] 46))
    have hb5 : Below wq.heap.size wq w5:=by rw [hw5]; exact below_new _ _
    have HX5 : Hid (Box w5 wq.heap.size 46 p.arr):=hyq (by rw [hw5]; exact box_new)
    have HB5 : Hid (Below w.heap.size w w5):=hyq (bch HBk.out hb5)
    have HQ2:=hyq (oat_on (hc2 k q hq) hg2 hb5)
    have HP:=hyq hp
    have HQ:=hyq hq
    clear hc1 hc2 hp hq hg1 hg2 hb5
    go_upto_region 6 with fail
    obtain ⟨b7,hb7⟩:=nmq (wq.heap.size)
    rw [← hb7] at HX5 ⊢
    rw [← hw5]
    clear hw5 hb7 q0 q1 q2 q3
    have d0 : w5.cell? ⟨b7,0,none⟩ = some (.int .i64 p.kind):=HX5.out.cell (k:=0) rfl
    have d1 : w5.cell? ⟨b7,1,none⟩ = some (.string ⟨p.path.toArray⟩):=HX5.out.cell (k:=1) rfl
    have d2 : w5.cell? ⟨b7,2,none⟩ = some (.string ⟨p.to.toArray⟩):=HX5.out.cell (k:=2) rfl
    have d3 : w5.cell? ⟨b7,3,none⟩ = some (.string ⟨p.data.toArray⟩):=HX5.out.cell (k:=3) rfl
    obtain ⟨s0,s1,s2,s3⟩:=HQ2.out
    have hgd:=guard46
    by_cases hpq : p = q
    ·have hne:=neq46 p q false (by simp [hpq])
     have HE' : Hid (∀ j,j < k + 1 → l[j]? = m[j]?):=hyq (fun j hj => by
      by_cases e : j = k
      ·subst e; rw [HP.out,HQ.out,hpq]
      ·exact HE.out j (by omega))
     clear hpq
     go_region
     go_wp2
     go_roundw
     case rel => exact ⟨k + 1,hlt,by go_num,HE',hyq HB5.out.drew⟩
     case measure => simp [Lib.intOf]; omega
    ·have hne:=neq46 p q true (by simp [hpq])
     have HD : Hid (decide (l = m) = false):=hyq (decide_eq_false (list_ne HP.out HQ.out hpq))
     clear hpq
     go_region
     go_wp2
     go_ret
     exact ⟨by rw [HD.out]; rfl,(bch HB.out HB5.out).drew⟩
   ·have k1 : ¬ ((k : Int) < (n : Int)):=by omega
    have HD : Hid (decide (l = m) = true):=hyq (decide_eq_true (List.ext_getElem? fun j => by
     by_cases h : j < k
     ·exact HE.out j h
     ·rw [List.getElem?_eq_none (by have:=HN.out; omega),List.getElem?_eq_none (by have:=HNM.out; omega)]))
    go_wp2_with fail
    go_ret
    exact ⟨by rw [HD.out]; rfl,bch HB.out HBk.out⟩
 ·have HD : decide (l = m) = false:=decide_eq_false fun e => hlen (by rw [e])
  obtain ⟨n1,hn1⟩:=nmq (l.length)
  obtain ⟨n2,hn2⟩:=nmq (m.length)
  rw [← hn1,← hn2] at hlen
  rw [← hn1,← hn2]
  rw [HD]
  have t0 : ((n1 : Int) != (n2 : Int)) = true:=by simp; omega
  have t1 : ¬ (n1 : Int) = (n2 : Int):=by omega
  have t2 : ((n1 : Int) == (n2 : Int)) = false:=by simp; omega
  clear h1 h2 hlen HD hlc1 hlc2 hn1 hn2 H1 H2
  go_enter Tryz.func37,Tryz.ntmps37
  go_wp2_with fail
  go_ret
  exact ⟨rfl,HB.out⟩
theorem rneeds_is (o : Opn) (b : Bool) (hb : needsB o = b) (w : World) : Calls Tryz.prog 20 #[.agg #[.int .i64 o.kind,.string ⟨o.path.toArray⟩,.string ⟨o.to.toArray⟩,.string ⟨o.data.toArray⟩]] w (EqR b w):=by
 obtain ⟨w1,hw1⟩:=nmq (w.alloc (.cells #[.int .i64 o.kind,.string ⟨o.path.toArray⟩,.string ⟨o.to.toArray⟩,.string ⟨o.data.toArray⟩] 46))
 have X : Box w1 w.heap.size 46 o.arr:=by rw [hw1]; exact box_new
 have HB : Hid (Below w.heap.size w w1):=hyq (by rw [hw1]; exact below_new _ _)
 have m0 : w1.cell? ⟨w.heap.size,0,none⟩ = some (.int .i64 o.kind):=X.cell (k:=0) rfl
 have HR : Hid (b = decide (1 ≤ o.kind ∧ o.kind ≤ 4)):=hyq (by rw [← hb]; unfold needsB; exact decide_eq_decide.2 (by omega))
 clear X hb
 go_enter Tryz.func20,Tryz.ntmps20
 go_upto_region 1 with fail
 rw [← hw1]
 clear hw1
 by_cases h1 : o.kind ≥ 1
 ·have d1 : decide (o.kind ≥ 1) = true:=decide_eq_true h1
  by_cases h4 : o.kind ≤ 4
  ·have d4 : decide (o.kind ≤ 4) = true:=decide_eq_true h4
   have HE : Hid (b = true):=hyq (by rw [HR.out]; exact decide_eq_true ⟨h1,h4⟩)
   clear h1 h4
   go_wp2_with fail
   go_ret
   exact ⟨by rw [HE.out]; rfl,HB.out⟩
  ·have d4 : decide (o.kind ≤ 4) = false:=decide_eq_false h4
   have HE : Hid (b = false):=hyq (by rw [HR.out]; exact decide_eq_false (fun h => h4 h.2))
   clear h1 h4
   go_wp2_with fail
   go_ret
   exact ⟨by rw [HE.out]; rfl,HB.out⟩
 ·have d1 : decide (o.kind ≥ 1) = false:=decide_eq_false h1
  have HE : Hid (b = false):=hyq (by rw [HR.out]; exact decide_eq_false (fun h => h1 h.1))
  clear h1
  go_wp2_with fail
  go_ret
  exact ⟨by rw [HE.out]; rfl,HB.out⟩
theorem dsk_eq (d e : Dsk) : d = e ↔ d.safe = e.safe ∧ d.wait = e.wait ∧ d.room = e.room:=by
 cases d; cases e; simp
theorem rsame8_any (d e : Dsk) (iv wv iv2 wv2 : Value) (w : World) (h : RdD w iv wv d) (h2 : RdD w iv2 wv2 e) (b : Bool) (hb : b = true ↔ d = e) :
  Calls Tryz.prog 17 #[.agg #[iv,wv,.int .i64 d.room],.agg #[iv2,wv2,.int .i64 e.room]] w (EqR b w):=by
 obtain ⟨w1,hw1⟩:=nmq ((w.alloc (.cells #[iv,wv,.int .i64 d.room] 27)).alloc (.cells #[iv2,wv2,.int .i64 e.room] 27))
 have X : Hid (Box w1 w.heap.size 27 #[iv,wv,.int .i64 d.room]):=hyq (by rw [hw1]; exact box_new.alloc _)
 have Y : Hid (Box w1 (w.heap.size + 1) 27 #[iv2,wv2,.int .i64 e.room]):=hyq (by rw [hw1,show w.heap.size + 1 = (w.alloc (.cells #[iv,wv,.int .i64 d.room] 27)).heap.size from by simp]; exact box_new)
 have HB : Hid (Below w.heap.size w w1):=hyq (by rw [hw1]; exact bch (below_new _ _) (below_new _ _))
 obtain ⟨b1,hb1⟩:=nmq (decide (d.safe = e.safe))
 obtain ⟨b2,hb2⟩:=nmq (decide (d.wait = e.wait))
 have HS : Hid (Calls Tryz.prog 13 #[.agg #[iv],.agg #[iv2]] w1 (EqR b1 w1)):=hyq (by rw [hb1]; exact rsame6_any _ _ _ _ w1 (h.items.on HB.out) (h2.items.on HB.out))
 have HW : Hid (∀ W,Below w1.heap.size w1 W → Calls Tryz.prog 37 #[wv,wv2] W (EqR b2 W)):=hyq (fun W hW => by rw [hb2]; exact rsameops_any _ _ _ _ W ((h.on HB.out).on hW).wait ((h2.on HB.out).on hW).wait)
 have HBE : Hid (b = (b1 && (b2 && decide (d.room = e.room)))):=hyq (by
  rw [Bool.eq_iff_iff,hb,dsk_eq,hb1,hb2]
  simp)
 obtain ⟨a1,c1,rfl,_⟩:=h.items.open
 obtain ⟨a2,c2,rfl,_⟩:=h2.items.open
 obtain ⟨a3,c3,rfl,_⟩:=h.wait.open
 obtain ⟨a4,c4,rfl,_⟩:=h2.wait.open
 have x0:=X.out.cell (k:=0) rfl
 have y0:=Y.out.cell (k:=0) rfl
 clear h h2 hb hb1 hb2
 go_enter Tryz.func17,Tryz.ntmps17
 go_upto_region 1 with fail
 rw [← hw1]
 clear hw1
 go_wp2_with fail
 refine HS.out.mono ?_
 rintro e' w2 ⟨rfl,hb⟩
 have HB2:=hyq hb
 clear hb x0 y0 HS
 cases b1 with
 | false =>
  go_wp2_with fail
  go_ret
  exact ⟨by rw [HBE.out]; rfl,bch HB.out HB2.out⟩
 | true =>
  have x1:=(X.out.on HB2.out).cell (k:=1) rfl
  have y1:=(Y.out.on HB2.out).cell (k:=1) rfl
  go_wp2_with fail
  refine (HW.out w2 HB2.out).mono ?_
  rintro e' w3 ⟨rfl,hb⟩
  have HB3:=hyq (bch HB2.out hb)
  clear hb x1 y1 HW
  cases b2 with
  | false =>
   go_wp2_with fail
   go_ret
   exact ⟨by rw [HBE.out]; rfl,bch HB.out HB3.out⟩
  | true =>
   have x2:=(X.out.on HB3.out).cell (k:=2) rfl
   have y2:=(Y.out.on HB3.out).cell (k:=2) rfl
   by_cases hr : d.room = e.room
   ·have t1 : (d.room == e.room) = true:=by simp [hr]
    have HE : Hid (b = true):=hyq (by rw [HBE.out]; simp [hr])
    clear hr
    go_wp2_with fail
    go_ret
    exact ⟨by rw [HE.out]; rfl,bch HB.out HB3.out⟩
   ·have t1 : (d.room == e.room) = false:=by simp [hr]
    have HE : Hid (b = false):=hyq (by rw [HBE.out]; simp [hr])
    clear hr
    go_wp2_with fail
    go_ret
    exact ⟨by rw [HE.out]; rfl,bch HB.out HB3.out⟩
end Go.Proofs.YtigopecainocgaaGreatDoor
