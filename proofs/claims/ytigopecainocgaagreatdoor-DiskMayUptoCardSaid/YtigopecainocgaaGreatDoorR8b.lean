/- Proved here: Now and Right of puncheonref08. -/
import Derived.Test.YtigopecainocgaaGreatDoorR8
set_option maxRecDepth 100000
set_option maxHeartbeats 32000000
namespace Go.Proofs.YtigopecainocgaaGreatDoor
open Go.RowKit Go.Shelf
theorem rnow8_any (d : Dsk) (iv wv : Value) (w : World) (h : RdD w iv wv d) (ht : TreeOk d.safe) (hz : ∀ o ∈ d.wait,o.path.length ≤ 2000000 ∧ o.to.length ≤ 2000000) (b : Bool) (hb : b = decide ((runM d.safe d.wait).2.2 = 0)) :
  Calls Tryz.prog 11 #[.agg #[iv,wv,.int .i64 d.room]] w fun e w' => ∃ v',e = .returned (.tuple #[.agg #[v'],.bool b]) ∧ RdI w' v' (runM d.safe d.wait).1 ∧ Below w.heap.size w w':=by
 obtain ⟨w1,hw1⟩:=nmq ((w.alloc (.cells #[iv,wv,.int .i64 d.room] 27)).alloc (.cells #[.slice none 0 0] 24))
 obtain ⟨b1,hb1⟩:=nmq (w.heap.size)
 have X1 : Hid (Box w1 b1 27 #[iv,wv,.int .i64 d.room]):=hyq (by rw [hw1,hb1]; exact box_new.alloc _)
 have X2 : Hid (Box w1 (b1 + 1) 24 #[.slice none 0 0]):=hyq (by rw [hw1,hb1,show w.heap.size + 1 = (w.alloc (.cells #[iv,wv,.int .i64 d.room] 27)).heap.size from by simp]; exact box_new)
 have HB : Hid (Below w.heap.size w w1):=hyq (by rw [hw1]; exact bch (below_new _ _) (below_new _ _))
 have H2 : Hid (w.heap.size ≤ b1 + 1):=hyq (by omega)
 obtain ⟨er,her⟩:=nmq ((runM d.safe d.wait).2.2)
 obtain ⟨mn,hmn⟩:=nmq ((runM d.safe d.wait).2.1)
 have HRU : Hid (Calls Tryz.prog 31 #[.agg #[iv],wv] w1 fun e w' => ∃ v',e = .returned (.tuple #[.agg #[v'],.int .i64 (mn : Nat),.int .i64 er]) ∧ RdI w' v' (runM d.safe d.wait).1 ∧ Below w1.heap.size w1 w'):=hyq (by rw [her,hmn]; exact rrun_any _ _ _ _ w1 (h.on HB.out).items ht (h.on HB.out).wait hz)
 rw [← her] at hb
 have HBB:=hyq hb
 obtain ⟨ia,ic,rfl,_⟩:=h.items.open
 obtain ⟨wa,wc,rfl,_⟩:=h.wait.open
 obtain ⟨ni,hni⟩:=nmq (d.safe.length)
 obtain ⟨nw,hnw⟩:=nmq (d.wait.length)
 rw [← hni,← hnw] at X1 HRU hw1 ⊢
 have HBE:=hyq hb1
 have p0:=X1.out.cell (k:=0) rfl
 have p1:=X1.out.cell (k:=1) rfl
 clear h ht hz hb her hmn hni hnw hb1
 go_enter Tryz.func11,Tryz.ntmps11
 go_upto_region 1 with fail
 rw [← HBE.out,← hw1]
 clear hw1
 go_wp2_with fail
 clear p0 p1
 refine HRU.out.mono ?_
 rintro e w2 ⟨v',rfl,hr,hb⟩
 obtain ⟨a2,c2,rfl,_⟩:=id hr.open
 obtain ⟨n2,hn2⟩:=nmq ((runM d.safe d.wait).1.length)
 rw [← hn2] at hr ⊢
 clear hn2
 obtain ⟨VE,hVE⟩:=nmq ((w2.alloc (.cells #[.slice none 0 0] 24)).setRow w2.heap.size #[.slice a2 n2 c2])
 obtain ⟨bE,hbE⟩:=nmq (w2.heap.size)
 have hnE : Below w2.heap.size w2 VE:=by rw [hVE]; exact below_row (below_new _ _) (Nat.le_refl _) _
 have XE : Hid (Box VE bE 24 #[.slice a2 n2 c2]):=hyq (by rw [hVE,hbE]; exact box_new.row _)
 have HVE:=hyq hVE
 have HWE:=hyq hbE
 have hcar : Below w1.heap.size w1 VE:=bch hb hnE
 have X2:=hyq (X2.out.on hcar)
 have HB:=hyq (bch HB.out hcar)
 clear hcar
 have RE : Hid (RdI VE (.slice a2 n2 c2) (runM d.safe d.wait).1):=hyq (hr.on hnE)
 clear hr hb hnE HRU
 have p0:=XE.out.cell (k:=0) rfl
 clear hVE hbE
 by_cases he : er = 0
 ·have t1 : (er == 0) = true:=by simp [he]
  have HE : Hid (b = true):=hyq (by rw [HBB.out]; simp [he])
  clear he
  go_wp2_with (first | (refine wpList_store_row rfl 24 (.tmp 4) (.tmp 13) rfl w2.heap.size #[.slice a2 n2 c2] rfl rfl 24 #[.slice none 0 0] box_new (info24 _) rfl (slice_one _ _ _) ?_; rw [← HVE.out,← HWE.out]) | (refine wpList_store_row rfl 24 (.tmp 2) (.tmp 16) rfl (b1 + 1) #[.slice a2 n2 c2] rfl rfl 24 _ X2.out (info24 _) rfl (slice_one _ _ _) ?_) | fail)
  exact bodyPost_ret (end_tree2 rfl _ (X2.out.row _) rfl rfl) rfl ⟨_,by rw [HE.out]; rfl,rd_row RE.out X2.out,below_row HB.out H2.out _⟩
 ·have t1 : (er == 0) = false:=by simp [he]
  have HE : Hid (b = false):=hyq (by rw [HBB.out]; simp [he])
  clear he
  go_wp2_with (first | (refine wpList_store_row rfl 24 (.tmp 4) (.tmp 13) rfl w2.heap.size #[.slice a2 n2 c2] rfl rfl 24 #[.slice none 0 0] box_new (info24 _) rfl (slice_one _ _ _) ?_; rw [← HVE.out,← HWE.out]) | (refine wpList_store_row rfl 24 (.tmp 2) (.tmp 16) rfl (b1 + 1) #[.slice a2 n2 c2] rfl rfl 24 _ X2.out (info24 _) rfl (slice_one _ _ _) ?_) | fail)
  exact bodyPost_ret (end_tree2 rfl _ (X2.out.row _) rfl rfl) rfl ⟨_,by rw [HE.out]; rfl,rd_row RE.out X2.out,below_row HB.out H2.out _⟩
theorem now_is_some {d : Dsk} : (nowM d).isSome = (validT d.safe && (decide (d.wait.length ≤ 8000) && (decide (-1 ≤ d.room) && decide ((runM d.safe d.wait).2.2 = 0)))):=by
 rw [Bool.eq_iff_iff]
 simp only [Bool.and_eq_true,decide_eq_true_iff]
 constructor
 ·intro h
  obtain ⟨t,ht⟩:=Option.isSome_iff_exists.1 h
  obtain ⟨h1,h2,h3,h4,_⟩:=now_some ht
  exact ⟨h3,h1,h2,h4⟩
 ·rintro ⟨h3,h1,h2,h4⟩
  rw [now_of h1 h2 h3 h4]; rfl
theorem rright8_any (d : Dsk) (iv wv : Value) (w : World) (h : RdD w iv wv d) (hx : ∀ x ∈ d.safe,x.path.length ≤ 2000000) (hz : ∀ o ∈ d.wait,o.path.length ≤ 2000000 ∧ o.to.length ≤ 2000000) (b : Bool) (hb : b = (nowM d).isSome) :
  Calls Tryz.prog 9 #[.agg #[iv,wv,.int .i64 d.room]] w (EqR b w):=by
 obtain ⟨w1,hw1⟩:=nmq (w.alloc (.cells #[iv,wv,.int .i64 d.room] 27))
 have X1 : Hid (Box w1 w.heap.size 27 #[iv,wv,.int .i64 d.room]):=hyq (by rw [hw1]; exact box_new)
 have HB : Hid (Below w.heap.size w w1):=hyq (by rw [hw1]; exact below_new _ _)
 obtain ⟨vb,hvb⟩:=nmq (validT d.safe)
 obtain ⟨eb,heb⟩:=nmq (decide ((runM d.safe d.wait).2.2 = 0))
 have RD : Hid (RdD w1 iv wv d):=hyq (h.on HB.out)
 have HRI : Hid (Calls Tryz.prog 15 #[.agg #[iv]] w1 fun e w' => e = .returned (.bool vb) ∧ Below w1.heap.size w1 w'):=hyq (by rw [hvb]; exact rtree_any _ _ w1 (h.on HB.out).items hx)
 have HNO : Hid (vb = true → ∀ W,Below w1.heap.size w1 W → Calls Tryz.prog 11 #[.agg #[iv,wv,.int .i64 d.room]] W fun e w' => ∃ v',e = .returned (.tuple #[.agg #[v'],.bool eb]) ∧ RdI w' v' (runM d.safe d.wait).1 ∧ Below W.heap.size W w'):=hyq (fun hv W hW => rnow8_any d iv wv W (RD.out.on hW) (tree_ok (by rw [← hvb]; exact hv)) hz eb heb)
 have HBB : Hid (b = (vb && (decide (d.wait.length ≤ 8000) && (decide (-1 ≤ d.room) && eb)))):=hyq (by rw [hb,now_is_some,hvb,heb])
 obtain ⟨ia,ic,rfl,_⟩:=h.items.open
 obtain ⟨wa,wc,rfl,_⟩:=h.wait.open
 obtain ⟨ni,hni⟩:=nmq (d.safe.length)
 obtain ⟨nw,hnw⟩:=nmq (d.wait.length)
 rw [← hni] at X1 HRI HNO RD hw1 ⊢
 rw [← hnw] at X1 HNO RD hw1 ⊢
 rw [← hnw] at HBB
 clear h hx hz hb hvb heb hni hnw
 have p0:=X1.out.cell (k:=0) rfl
 go_enter Tryz.func9,Tryz.ntmps9
 go_upto_region 1 with fail
 rw [← hw1]
 clear hw1
 go_wp2_with fail
 clear p0
 refine HRI.out.mono ?_
 rintro e w2 ⟨rfl,hb⟩
 have HA:=hyq hb
 replace X1:=hyq (X1.out.on hb)
 replace HB:=hyq (bch HB.out hb)
 clear hb HRI
 cases vb with
 | false =>
  have HE : Hid (b = false):=hyq (by rw [HBB.out]; rfl)
  go_wp2_with fail
  go_ret
  exact ⟨by rw [HE.out]; rfl,HB.out⟩
 | true =>
  have p0:=X1.out.cell (k:=0) rfl
  have p1:=X1.out.cell (k:=1) rfl
  have p2:=X1.out.cell (k:=2) rfl
  by_cases h8 : nw ≤ 8000
  ·have t1 : decide ((nw : Int) > 8000) = false:=decide_eq_false (by omega)
   by_cases hr : -1 ≤ d.room
   ·have t2 : decide (d.room < -1) = false:=decide_eq_false (by omega)
    have HE : Hid (b = eb):=hyq (by rw [HBB.out,decide_eq_true h8,decide_eq_true hr]; rfl)
    have HN:=hyq (HNO.out rfl w2 HA.out)
    clear h8 hr
    go_wp2_with fail
    clear p0 p1 p2
    refine HN.out.mono ?_
    rintro e w3 ⟨v',rfl,hr,hb⟩
    obtain ⟨a2,c2,rfl,_⟩:=id hr.open
    obtain ⟨n2,hn2⟩:=nmq ((runM d.safe d.wait).1.length)
    rw [← hn2]
    clear hn2 hr
    obtain ⟨VE,hVE⟩:=nmq ((w3.alloc (.cells #[.slice none 0 0] 24)).setRow w3.heap.size #[.slice a2 n2 c2])
    obtain ⟨bE,hbE⟩:=nmq (w3.heap.size)
    have hnE : Below w3.heap.size w3 VE:=by rw [hVE]; exact below_row (below_new _ _) (Nat.le_refl _) _
    have XE : Hid (Box VE bE 24 #[.slice a2 n2 c2]):=hyq (by rw [hVE,hbE]; exact box_new.row _)
    have HVE:=hyq hVE
    have HWE:=hyq hbE
    have hcar : Below w2.heap.size w2 VE:=bch hb hnE
    have HB:=hyq (bch HB.out hcar)
    clear hcar
    clear hb hnE
    clear hVE hbE
    go_wp2_with (first | (refine wpList_store_row rfl 24 (.tmp 3) (.tmp 23) rfl w3.heap.size #[.slice a2 n2 c2] rfl rfl 24 #[.slice none 0 0] box_new (info24 _) rfl (slice_one _ _ _) ?_; rw [← HVE.out,← HWE.out]) | fail)
    go_ret
    exact ⟨by rw [HE.out]; rfl,HB.out⟩
   ·have t2 : decide (d.room < -1) = true:=decide_eq_true (by omega)
    have HE : Hid (b = false):=hyq (by rw [HBB.out,decide_eq_true h8,decide_eq_false hr]; rfl)
    clear h8 hr
    go_wp2_with fail
    go_ret
    exact ⟨by rw [HE.out]; rfl,HB.out⟩
  ·have t1 : decide ((nw : Int) > 8000) = true:=decide_eq_true (by omega)
   have HE : Hid (b = false):=hyq (by rw [HBB.out,decide_eq_false h8]; rfl)
   clear h8
   go_wp2_with fail
   go_ret
   exact ⟨by rw [HE.out]; rfl,HB.out⟩
end Go.Proofs.YtigopecainocgaaGreatDoor
