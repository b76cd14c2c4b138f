/- Proved here: CheckOp of package tree. -/
import Derived.Test.YtigopecainocgaaGreatDoorOMove
set_option maxRecDepth 100000
set_option maxHeartbeats 32000000
namespace Go.Proofs.YtigopecainocgaaGreatDoor
open Go.RowKit Go.Shelf
def shapesL : List Value:=[.bool false,.int .i64 0,.int .i64 0,.bool false,.int .i64 0,.int .i64 0,.bool false,.int .i64 0,.int .i64 524288,.bool false,.int .i64 0,.int .i64 524288,.bool false,.int .i64 1,.int .i64 2000,.bool true,.int .i64 0,.int .i64 0,.bool false,.int .i64 0,.int .i64 0,.bool false,.int .i64 0,.int .i64 0]
structure TabS (w : World) : Prop where
 tab : Tabs w
 sh : ∀ (j : Nat) (v : Value),shapesL[j]? = some v → w.cell? ⟨1,j,none⟩ = some v
theorem TabS.on {w w' : World} (h : TabS w) (hb : Below w.heap.size w w') : TabS w' :=
 ⟨h.tab.on hb,fun j v hj => (hb.cell (p:=⟨1,j,none⟩) (by have:=h.tab.one; show 1 < _; omega)).trans (h.sh j v hj)⟩
def ChkR (c : Int) (w : World) (e : Ending) (w' : World) : Prop:=e = .returned (.int .i64 c) ∧ Below w.heap.size w w'
theorem chk_is (p : Str) (hp : p.length ≤ 140737488355328) (b : Bool) (hb : validB p = b) (W : World) : Calls Tryz.prog 70 #[.string ⟨p.toArray⟩] W fun e w' => e = .returned (.int .i64 (if b = true then 0 else 110)) ∧ Below W.heap.size W w':=by
 have:=check_any ⟨p.toArray⟩ (by show p.toArray.size ≤ _; rw [List.size_toArray]; exact hp) W
 rw [← hb]
 exact this
theorem keepO {W W' : World} {bo : Nat} {o : Opn} (X : Box W bo 46 o.arr) (hb : Below W.heap.size W W') : W'.cell? ⟨bo,0,none⟩ = some (.int .i64 o.kind) ∧ W'.cell? ⟨bo,1,none⟩ = some (.string ⟨o.path.toArray⟩) ∧ W'.cell? ⟨bo,2,none⟩ = some (.string ⟨o.to.toArray⟩) ∧ W'.cell? ⟨bo,3,none⟩ = some (.string ⟨o.data.toArray⟩) :=
 ⟨(X.on hb).cell (k:=0) rfl,(X.on hb).cell (k:=1) rfl,(X.on hb).cell (k:=2) rfl,(X.on hb).cell (k:=3) rfl⟩
theorem checkop_1 (o : Opn) (hk : o.kind = 1) (hpl : o.path.length ≤ 140737488355328) (_ : o.to.length ≤ 140737488355328) (w : World) (hT : TabS w) : Calls Tryz.prog 47 #[.agg o.arr] w (ChkR (checkM o) w):=by
 obtain ⟨w1,hw1⟩:=nmq (w.alloc (.cells o.arr 46))
 obtain ⟨bo,hbo⟩:=nmq (w.heap.size)
 have X1 : Hid (Box w1 bo 46 o.arr):=hyq (by rw [hw1,hbo]; exact box_new)
 have HB0 : Hid (Below w.heap.size w w1):=hyq (by rw [hw1]; exact below_new _ _)
 have HT1 : Hid (TabS w1):=hyq (hT.on HB0.out)
 have s0:=HT1.out.sh 3 _ rfl
 have s1:=HT1.out.sh 4 _ rfl
 have s2:=HT1.out.sh 5 _ rfl
 have m0 : w1.cell? ⟨bo,0,none⟩ = some (.int .i64 1):=by rw [← hk]; exact X1.out.cell (k:=0) rfl
 obtain ⟨w2,hw2⟩:=nmq (w1.alloc (.cells #[.bool false,.int .i64 0,.int .i64 0] 97))
 obtain ⟨bs,hbs⟩:=nmq (w1.heap.size)
 have hb12 : Below w1.heap.size w1 w2:=by rw [hw2]; exact below_new _ _
 have XO0 : Hid (Box w2 bo 46 o.arr):=hyq (X1.out.on hb12)
 have XS0 : Hid (Box w2 bs 97 #[.bool false,.int .i64 0,.int .i64 0]):=hyq (by rw [hw2,hbs]; exact box_new)
 have HB2 : Hid (Below w.heap.size w w2):=hyq (bch HB0.out hb12)
 have M1 : Hid (w2.cell? ⟨bo,1,none⟩ = some (.string ⟨o.path.toArray⟩)):=hyq (XO0.out.cell (k:=1) rfl)
 have M2 : Hid (w2.cell? ⟨bo,2,none⟩ = some (.string ⟨o.to.toArray⟩)):=hyq (XO0.out.cell (k:=2) rfl)
 have M3 : Hid (w2.cell? ⟨bo,3,none⟩ = some (.string ⟨o.data.toArray⟩)):=hyq (XO0.out.cell (k:=3) rfl)
 clear hT hb12
 by_cases ht : o.to = []
 ·skip
  by_cases hd : o.data = []
  ·skip
   by_cases hv : validB o.path = true
   ·skip
    have HC : Hid (checkM o = 0):=hyq (by unfold checkM mostM leastM; simp [hk,ht,hd,hv])
    have e1 : (o.to == []) = true:=by simp [ht]
    have e2 : (o.to != []) = false:=by simp [ht]
    have d1 : (o.data == []) = true:=by simp [hd]
    have d2 : (o.data != []) = false:=by simp [hd]
    have d3 : o.data.length = 0:=by simp [hd]
    have HP : Hid (∀ W,Calls Tryz.prog 70 #[.string ⟨o.path.toArray⟩] W (ChkR 0 W)):=hyq (chk_is o.path hpl true hv)
    rw [HC.out]
    clear hk ht hd hv
    go_enter Tryz.func47,Tryz.ntmps47
    go_upto_region 1 with fail
    rw [← hw1,← hbo]
    clear hw1 hbo
    go_upto_region 4 with fail
    rw [← hw2,← hbs]
    clear hw2 hbs m0 s0 s1 s2
    have m1:=M1.out
    have m2:=M2.out
    have m3:=M3.out
    have g0:=XS0.out.cell (k:=0) rfl
    have g1:=XS0.out.cell (k:=1) rfl
    have g2:=XS0.out.cell (k:=2) rfl
    go_wp2_with fail
    refine (HP.out _).mono ?_
    rintro e wc0 ⟨rfl,hb0⟩
    have HC1:=hyq (bch HB2.out hb0)
    obtain ⟨_,n1,n2,n3⟩:=keepO XO0.out hb0
    have XO1:=hyq (XO0.out.on hb0)
    have XS1:=hyq (XS0.out.on hb0)
    have g0:=XS1.out.cell (k:=0) rfl
    have g1:=XS1.out.cell (k:=1) rfl
    have g2:=XS1.out.cell (k:=2) rfl
    clear hb0
    go_wp2_with fail
    go_ret
    exact ⟨rfl,HC1.out⟩
   ·skip
    have HC : Hid (checkM o = 110):=hyq (by unfold checkM mostM leastM; simp [hk,ht,hd,hv])
    have e1 : (o.to == []) = true:=by simp [ht]
    have e2 : (o.to != []) = false:=by simp [ht]
    have d1 : (o.data == []) = true:=by simp [hd]
    have d2 : (o.data != []) = false:=by simp [hd]
    have d3 : o.data.length = 0:=by simp [hd]
    have HP : Hid (∀ W,Calls Tryz.prog 70 #[.string ⟨o.path.toArray⟩] W (ChkR 110 W)):=hyq (chk_is o.path hpl false (by simpa using hv))
    rw [HC.out]
    clear hk ht hd hv
    go_enter Tryz.func47,Tryz.ntmps47
    go_upto_region 1 with fail
    rw [← hw1,← hbo]
    clear hw1 hbo
    go_upto_region 4 with fail
    rw [← hw2,← hbs]
    clear hw2 hbs m0 s0 s1 s2
    have m1:=M1.out
    have m2:=M2.out
    have m3:=M3.out
    have g0:=XS0.out.cell (k:=0) rfl
    have g1:=XS0.out.cell (k:=1) rfl
    have g2:=XS0.out.cell (k:=2) rfl
    go_wp2_with fail
    refine (HP.out _).mono ?_
    rintro e wc0 ⟨rfl,hb0⟩
    have HC1:=hyq (bch HB2.out hb0)
    obtain ⟨_,n1,n2,n3⟩:=keepO XO0.out hb0
    have XO1:=hyq (XO0.out.on hb0)
    have XS1:=hyq (XS0.out.on hb0)
    have g0:=XS1.out.cell (k:=0) rfl
    have g1:=XS1.out.cell (k:=1) rfl
    have g2:=XS1.out.cell (k:=2) rfl
    clear hb0
    go_wp2_with fail
    go_ret
    exact ⟨rfl,HC1.out⟩
  ·skip
   have HC : Hid (checkM o = 2):=hyq (by unfold checkM mostM leastM; simp [hk,ht,hd])
   have e1 : (o.to == []) = true:=by simp [ht]
   have e2 : (o.to != []) = false:=by simp [ht]
   have d1 : (o.data == []) = false:=by simpa using hd
   have d2 : (o.data != []) = true:=by simpa using hd
   rw [HC.out]
   clear hk ht hd
   go_enter Tryz.func47,Tryz.ntmps47
   go_upto_region 1 with fail
   rw [← hw1,← hbo]
   clear hw1 hbo
   go_upto_region 4 with fail
   rw [← hw2,← hbs]
   clear hw2 hbs m0 s0 s1 s2
   have m1:=M1.out
   have m2:=M2.out
   have m3:=M3.out
   have g0:=XS0.out.cell (k:=0) rfl
   have g1:=XS0.out.cell (k:=1) rfl
   have g2:=XS0.out.cell (k:=2) rfl
   go_wp2_with fail
   go_ret
   exact ⟨rfl,HB2.out⟩
 ·skip
  have HC : Hid (checkM o = 2):=hyq (by unfold checkM mostM leastM; simp [hk,ht])
  have e1 : (o.to == []) = false:=by simpa using ht
  have e2 : (o.to != []) = true:=by simpa using ht
  have e3 : ¬ (o.to = []):=ht
  rw [HC.out]
  clear hk ht
  go_enter Tryz.func47,Tryz.ntmps47
  go_upto_region 1 with fail
  rw [← hw1,← hbo]
  clear hw1 hbo
  go_upto_region 4 with fail
  rw [← hw2,← hbs]
  clear hw2 hbs m0 s0 s1 s2
  have m1:=M1.out
  have m2:=M2.out
  have m3:=M3.out
  have g0:=XS0.out.cell (k:=0) rfl
  have g1:=XS0.out.cell (k:=1) rfl
  have g2:=XS0.out.cell (k:=2) rfl
  go_wp2_with fail
  go_ret
  exact ⟨rfl,HB2.out⟩
theorem checkop_2 (o : Opn) (hk : o.kind = 2) (hpl : o.path.length ≤ 140737488355328) (_ : o.to.length ≤ 140737488355328) (w : World) (hT : TabS w) : Calls Tryz.prog 47 #[.agg o.arr] w (ChkR (checkM o) w):=by
 obtain ⟨w1,hw1⟩:=nmq (w.alloc (.cells o.arr 46))
 obtain ⟨bo,hbo⟩:=nmq (w.heap.size)
 have X1 : Hid (Box w1 bo 46 o.arr):=hyq (by rw [hw1,hbo]; exact box_new)
 have HB0 : Hid (Below w.heap.size w w1):=hyq (by rw [hw1]; exact below_new _ _)
 have HT1 : Hid (TabS w1):=hyq (hT.on HB0.out)
 have s0:=HT1.out.sh 6 _ rfl
 have s1:=HT1.out.sh 7 _ rfl
 have s2:=HT1.out.sh 8 _ rfl
 have m0 : w1.cell? ⟨bo,0,none⟩ = some (.int .i64 2):=by rw [← hk]; exact X1.out.cell (k:=0) rfl
 obtain ⟨w2,hw2⟩:=nmq (w1.alloc (.cells #[.bool false,.int .i64 0,.int .i64 524288] 97))
 obtain ⟨bs,hbs⟩:=nmq (w1.heap.size)
 have hb12 : Below w1.heap.size w1 w2:=by rw [hw2]; exact below_new _ _
 have XO0 : Hid (Box w2 bo 46 o.arr):=hyq (X1.out.on hb12)
 have XS0 : Hid (Box w2 bs 97 #[.bool false,.int .i64 0,.int .i64 524288]):=hyq (by rw [hw2,hbs]; exact box_new)
 have HB2 : Hid (Below w.heap.size w w2):=hyq (bch HB0.out hb12)
 have M1 : Hid (w2.cell? ⟨bo,1,none⟩ = some (.string ⟨o.path.toArray⟩)):=hyq (XO0.out.cell (k:=1) rfl)
 have M2 : Hid (w2.cell? ⟨bo,2,none⟩ = some (.string ⟨o.to.toArray⟩)):=hyq (XO0.out.cell (k:=2) rfl)
 have M3 : Hid (w2.cell? ⟨bo,3,none⟩ = some (.string ⟨o.data.toArray⟩)):=hyq (XO0.out.cell (k:=3) rfl)
 clear hT hb12
 by_cases ht : o.to = []
 ·skip
  by_cases hv : validB o.path = true
  ·skip
   by_cases hl : 524288 < o.data.length
   ·skip
    have HC : Hid (checkM o = 3):=hyq (by unfold checkM mostM leastM; simp [hk,ht,hv,hl])
    have e1 : (o.to == []) = true:=by simp [ht]
    have e2 : (o.to != []) = false:=by simp [ht]
    have HP : Hid (∀ W,Calls Tryz.prog 70 #[.string ⟨o.path.toArray⟩] W (ChkR 0 W)):=hyq (chk_is o.path hpl true hv)
    have l3 : (524288 : Int) < (o.data.length : Int):=by omega
    rw [HC.out]
    clear hk ht hv hl
    go_enter Tryz.func47,Tryz.ntmps47
    go_upto_region 1 with fail
    rw [← hw1,← hbo]
    clear hw1 hbo
    go_upto_region 4 with fail
    rw [← hw2,← hbs]
    clear hw2 hbs m0 s0 s1 s2
    have m1:=M1.out
    have m2:=M2.out
    have m3:=M3.out
    have g0:=XS0.out.cell (k:=0) rfl
    have g1:=XS0.out.cell (k:=1) rfl
    have g2:=XS0.out.cell (k:=2) rfl
    go_wp2_with fail
    refine (HP.out _).mono ?_
    rintro e wc0 ⟨rfl,hb0⟩
    have HC1:=hyq (bch HB2.out hb0)
    obtain ⟨_,n1,n2,n3⟩:=keepO XO0.out hb0
    have XO1:=hyq (XO0.out.on hb0)
    have XS1:=hyq (XS0.out.on hb0)
    have g0:=XS1.out.cell (k:=0) rfl
    have g1:=XS1.out.cell (k:=1) rfl
    have g2:=XS1.out.cell (k:=2) rfl
    clear hb0
    go_wp2_with fail
    go_ret
    exact ⟨rfl,HC1.out⟩
   ·skip
    have HC : Hid (checkM o = 0):=hyq (by unfold checkM mostM leastM; simp [hk,ht,hv,hl])
    have e1 : (o.to == []) = true:=by simp [ht]
    have e2 : (o.to != []) = false:=by simp [ht]
    have HP : Hid (∀ W,Calls Tryz.prog 70 #[.string ⟨o.path.toArray⟩] W (ChkR 0 W)):=hyq (chk_is o.path hpl true hv)
    have l3 : ¬ (524288 : Int) < (o.data.length : Int):=by omega
    rw [HC.out]
    clear hk ht hv hl
    go_enter Tryz.func47,Tryz.ntmps47
    go_upto_region 1 with fail
    rw [← hw1,← hbo]
    clear hw1 hbo
    go_upto_region 4 with fail
    rw [← hw2,← hbs]
    clear hw2 hbs m0 s0 s1 s2
    have m1:=M1.out
    have m2:=M2.out
    have m3:=M3.out
    have g0:=XS0.out.cell (k:=0) rfl
    have g1:=XS0.out.cell (k:=1) rfl
    have g2:=XS0.out.cell (k:=2) rfl
    go_wp2_with fail
    refine (HP.out _).mono ?_
    rintro e wc0 ⟨rfl,hb0⟩
    have HC1:=hyq (bch HB2.out hb0)
    obtain ⟨_,n1,n2,n3⟩:=keepO XO0.out hb0
    have XO1:=hyq (XO0.out.on hb0)
    have XS1:=hyq (XS0.out.on hb0)
    have g0:=XS1.out.cell (k:=0) rfl
    have g1:=XS1.out.cell (k:=1) rfl
    have g2:=XS1.out.cell (k:=2) rfl
    clear hb0
    go_wp2_with fail
    go_ret
    exact ⟨rfl,HC1.out⟩
  ·skip
   have HC : Hid (checkM o = 110):=hyq (by unfold checkM mostM leastM; simp [hk,ht,hv])
   have e1 : (o.to == []) = true:=by simp [ht]
   have e2 : (o.to != []) = false:=by simp [ht]
   have HP : Hid (∀ W,Calls Tryz.prog 70 #[.string ⟨o.path.toArray⟩] W (ChkR 110 W)):=hyq (chk_is o.path hpl false (by simpa using hv))
   rw [HC.out]
   clear hk ht hv
   go_enter Tryz.func47,Tryz.ntmps47
   go_upto_region 1 with fail
   rw [← hw1,← hbo]
   clear hw1 hbo
   go_upto_region 4 with fail
   rw [← hw2,← hbs]
   clear hw2 hbs m0 s0 s1 s2
   have m1:=M1.out
   have m2:=M2.out
   have m3:=M3.out
   have g0:=XS0.out.cell (k:=0) rfl
   have g1:=XS0.out.cell (k:=1) rfl
   have g2:=XS0.out.cell (k:=2) rfl
   go_wp2_with fail
   refine (HP.out _).mono ?_
   rintro e wc0 ⟨rfl,hb0⟩
   have HC1:=hyq (bch HB2.out hb0)
   obtain ⟨_,n1,n2,n3⟩:=keepO XO0.out hb0
   have XO1:=hyq (XO0.out.on hb0)
   have XS1:=hyq (XS0.out.on hb0)
   have g0:=XS1.out.cell (k:=0) rfl
   have g1:=XS1.out.cell (k:=1) rfl
   have g2:=XS1.out.cell (k:=2) rfl
   clear hb0
   go_wp2_with fail
   go_ret
   exact ⟨rfl,HC1.out⟩
 ·skip
  have HC : Hid (checkM o = 2):=hyq (by unfold checkM mostM leastM; simp [hk,ht])
  have e1 : (o.to == []) = false:=by simpa using ht
  have e2 : (o.to != []) = true:=by simpa using ht
  have e3 : ¬ (o.to = []):=ht
  rw [HC.out]
  clear hk ht
  go_enter Tryz.func47,Tryz.ntmps47
  go_upto_region 1 with fail
  rw [← hw1,← hbo]
  clear hw1 hbo
  go_upto_region 4 with fail
  rw [← hw2,← hbs]
  clear hw2 hbs m0 s0 s1 s2
  have m1:=M1.out
  have m2:=M2.out
  have m3:=M3.out
  have g0:=XS0.out.cell (k:=0) rfl
  have g1:=XS0.out.cell (k:=1) rfl
  have g2:=XS0.out.cell (k:=2) rfl
  go_wp2_with fail
  go_ret
  exact ⟨rfl,HB2.out⟩
theorem checkop_3 (o : Opn) (hk : o.kind = 3) (hpl : o.path.length ≤ 140737488355328) (_ : o.to.length ≤ 140737488355328) (w : World) (hT : TabS w) : Calls Tryz.prog 47 #[.agg o.arr] w (ChkR (checkM o) w):=by
 obtain ⟨w1,hw1⟩:=nmq (w.alloc (.cells o.arr 46))
 obtain ⟨bo,hbo⟩:=nmq (w.heap.size)
 have X1 : Hid (Box w1 bo 46 o.arr):=hyq (by rw [hw1,hbo]; exact box_new)
 have HB0 : Hid (Below w.heap.size w w1):=hyq (by rw [hw1]; exact below_new _ _)
 have HT1 : Hid (TabS w1):=hyq (hT.on HB0.out)
 have s0:=HT1.out.sh 9 _ rfl
 have s1:=HT1.out.sh 10 _ rfl
 have s2:=HT1.out.sh 11 _ rfl
 have m0 : w1.cell? ⟨bo,0,none⟩ = some (.int .i64 3):=by rw [← hk]; exact X1.out.cell (k:=0) rfl
 obtain ⟨w2,hw2⟩:=nmq (w1.alloc (.cells #[.bool false,.int .i64 0,.int .i64 524288] 97))
 obtain ⟨bs,hbs⟩:=nmq (w1.heap.size)
 have hb12 : Below w1.heap.size w1 w2:=by rw [hw2]; exact below_new _ _
 have XO0 : Hid (Box w2 bo 46 o.arr):=hyq (X1.out.on hb12)
 have XS0 : Hid (Box w2 bs 97 #[.bool false,.int .i64 0,.int .i64 524288]):=hyq (by rw [hw2,hbs]; exact box_new)
 have HB2 : Hid (Below w.heap.size w w2):=hyq (bch HB0.out hb12)
 have M1 : Hid (w2.cell? ⟨bo,1,none⟩ = some (.string ⟨o.path.toArray⟩)):=hyq (XO0.out.cell (k:=1) rfl)
 have M2 : Hid (w2.cell? ⟨bo,2,none⟩ = some (.string ⟨o.to.toArray⟩)):=hyq (XO0.out.cell (k:=2) rfl)
 have M3 : Hid (w2.cell? ⟨bo,3,none⟩ = some (.string ⟨o.data.toArray⟩)):=hyq (XO0.out.cell (k:=3) rfl)
 clear hT hb12
 by_cases ht : o.to = []
 ·skip
  by_cases hv : validB o.path = true
  ·skip
   by_cases hl : 524288 < o.data.length
   ·skip
    have HC : Hid (checkM o = 3):=hyq (by unfold checkM mostM leastM; simp [hk,ht,hv,hl])
    have e1 : (o.to == []) = true:=by simp [ht]
    have e2 : (o.to != []) = false:=by simp [ht]
    have HP : Hid (∀ W,Calls Tryz.prog 70 #[.string ⟨o.path.toArray⟩] W (ChkR 0 W)):=hyq (chk_is o.path hpl true hv)
    have l3 : (524288 : Int) < (o.data.length : Int):=by omega
    rw [HC.out]
    clear hk ht hv hl
    go_enter Tryz.func47,Tryz.ntmps47
    go_upto_region 1 with fail
    rw [← hw1,← hbo]
    clear hw1 hbo
    go_upto_region 4 with fail
    rw [← hw2,← hbs]
    clear hw2 hbs m0 s0 s1 s2
    have m1:=M1.out
    have m2:=M2.out
    have m3:=M3.out
    have g0:=XS0.out.cell (k:=0) rfl
    have g1:=XS0.out.cell (k:=1) rfl
    have g2:=XS0.out.cell (k:=2) rfl
    go_wp2_with fail
    refine (HP.out _).mono ?_
    rintro e wc0 ⟨rfl,hb0⟩
    have HC1:=hyq (bch HB2.out hb0)
    obtain ⟨_,n1,n2,n3⟩:=keepO XO0.out hb0
    have XO1:=hyq (XO0.out.on hb0)
    have XS1:=hyq (XS0.out.on hb0)
    have g0:=XS1.out.cell (k:=0) rfl
    have g1:=XS1.out.cell (k:=1) rfl
    have g2:=XS1.out.cell (k:=2) rfl
    clear hb0
    go_wp2_with fail
    go_ret
    exact ⟨rfl,HC1.out⟩
   ·skip
    have HC : Hid (checkM o = 0):=hyq (by unfold checkM mostM leastM; simp [hk,ht,hv,hl])
    have e1 : (o.to == []) = true:=by simp [ht]
    have e2 : (o.to != []) = false:=by simp [ht]
    have HP : Hid (∀ W,Calls Tryz.prog 70 #[.string ⟨o.path.toArray⟩] W (ChkR 0 W)):=hyq (chk_is o.path hpl true hv)
    have l3 : ¬ (524288 : Int) < (o.data.length : Int):=by omega
    rw [HC.out]
    clear hk ht hv hl
    go_enter Tryz.func47,Tryz.ntmps47
    go_upto_region 1 with fail
    rw [← hw1,← hbo]
    clear hw1 hbo
    go_upto_region 4 with fail
    rw [← hw2,← hbs]
    clear hw2 hbs m0 s0 s1 s2
    have m1:=M1.out
    have m2:=M2.out
    have m3:=M3.out
    have g0:=XS0.out.cell (k:=0) rfl
    have g1:=XS0.out.cell (k:=1) rfl
    have g2:=XS0.out.cell (k:=2) rfl
    go_wp2_with fail
    refine (HP.out _).mono ?_
    rintro e wc0 ⟨rfl,hb0⟩
    have HC1:=hyq (bch HB2.out hb0)
    obtain ⟨_,n1,n2,n3⟩:=keepO XO0.out hb0
    have XO1:=hyq (XO0.out.on hb0)
    have XS1:=hyq (XS0.out.on hb0)
    have g0:=XS1.out.cell (k:=0) rfl
    have g1:=XS1.out.cell (k:=1) rfl
    have g2:=XS1.out.cell (k:=2) rfl
    clear hb0
    go_wp2_with fail
    go_ret
    exact ⟨rfl,HC1.out⟩
  ·skip
   have HC : Hid (checkM o = 110):=hyq (by unfold checkM mostM leastM; simp [hk,ht,hv])
   have e1 : (o.to == []) = true:=by simp [ht]
   have e2 : (o.to != []) = false:=by simp [ht]
   have HP : Hid (∀ W,Calls Tryz.prog 70 #[.string ⟨o.path.toArray⟩] W (ChkR 110 W)):=hyq (chk_is o.path hpl false (by simpa using hv))
   rw [HC.out]
   clear hk ht hv
   go_enter Tryz.func47,Tryz.ntmps47
   go_upto_region 1 with fail
   rw [← hw1,← hbo]
   clear hw1 hbo
   go_upto_region 4 with fail
   rw [← hw2,← hbs]
   clear hw2 hbs m0 s0 s1 s2
   have m1:=M1.out
   have m2:=M2.out
   have m3:=M3.out
   have g0:=XS0.out.cell (k:=0) rfl
   have g1:=XS0.out.cell (k:=1) rfl
   have g2:=XS0.out.cell (k:=2) rfl
   go_wp2_with fail
   refine (HP.out _).mono ?_
   rintro e wc0 ⟨rfl,hb0⟩
   have HC1:=hyq (bch HB2.out hb0)
   obtain ⟨_,n1,n2,n3⟩:=keepO XO0.out hb0
   have XO1:=hyq (XO0.out.on hb0)
   have XS1:=hyq (XS0.out.on hb0)
   have g0:=XS1.out.cell (k:=0) rfl
   have g1:=XS1.out.cell (k:=1) rfl
   have g2:=XS1.out.cell (k:=2) rfl
   clear hb0
   go_wp2_with fail
   go_ret
   exact ⟨rfl,HC1.out⟩
 ·skip
  have HC : Hid (checkM o = 2):=hyq (by unfold checkM mostM leastM; simp [hk,ht])
  have e1 : (o.to == []) = false:=by simpa using ht
  have e2 : (o.to != []) = true:=by simpa using ht
  have e3 : ¬ (o.to = []):=ht
  rw [HC.out]
  clear hk ht
  go_enter Tryz.func47,Tryz.ntmps47
  go_upto_region 1 with fail
  rw [← hw1,← hbo]
  clear hw1 hbo
  go_upto_region 4 with fail
  rw [← hw2,← hbs]
  clear hw2 hbs m0 s0 s1 s2
  have m1:=M1.out
  have m2:=M2.out
  have m3:=M3.out
  have g0:=XS0.out.cell (k:=0) rfl
  have g1:=XS0.out.cell (k:=1) rfl
  have g2:=XS0.out.cell (k:=2) rfl
  go_wp2_with fail
  go_ret
  exact ⟨rfl,HB2.out⟩
theorem checkop_4 (o : Opn) (hk : o.kind = 4) (hpl : o.path.length ≤ 140737488355328) (_ : o.to.length ≤ 140737488355328) (w : World) (hT : TabS w) : Calls Tryz.prog 47 #[.agg o.arr] w (ChkR (checkM o) w):=by
 obtain ⟨w1,hw1⟩:=nmq (w.alloc (.cells o.arr 46))
 obtain ⟨bo,hbo⟩:=nmq (w.heap.size)
 have X1 : Hid (Box w1 bo 46 o.arr):=hyq (by rw [hw1,hbo]; exact box_new)
 have HB0 : Hid (Below w.heap.size w w1):=hyq (by rw [hw1]; exact below_new _ _)
 have HT1 : Hid (TabS w1):=hyq (hT.on HB0.out)
 have s0:=HT1.out.sh 12 _ rfl
 have s1:=HT1.out.sh 13 _ rfl
 have s2:=HT1.out.sh 14 _ rfl
 have m0 : w1.cell? ⟨bo,0,none⟩ = some (.int .i64 4):=by rw [← hk]; exact X1.out.cell (k:=0) rfl
 obtain ⟨w2,hw2⟩:=nmq (w1.alloc (.cells #[.bool false,.int .i64 1,.int .i64 2000] 97))
 obtain ⟨bs,hbs⟩:=nmq (w1.heap.size)
 have hb12 : Below w1.heap.size w1 w2:=by rw [hw2]; exact below_new _ _
 have XO0 : Hid (Box w2 bo 46 o.arr):=hyq (X1.out.on hb12)
 have XS0 : Hid (Box w2 bs 97 #[.bool false,.int .i64 1,.int .i64 2000]):=hyq (by rw [hw2,hbs]; exact box_new)
 have HB2 : Hid (Below w.heap.size w w2):=hyq (bch HB0.out hb12)
 have M1 : Hid (w2.cell? ⟨bo,1,none⟩ = some (.string ⟨o.path.toArray⟩)):=hyq (XO0.out.cell (k:=1) rfl)
 have M2 : Hid (w2.cell? ⟨bo,2,none⟩ = some (.string ⟨o.to.toArray⟩)):=hyq (XO0.out.cell (k:=2) rfl)
 have M3 : Hid (w2.cell? ⟨bo,3,none⟩ = some (.string ⟨o.data.toArray⟩)):=hyq (XO0.out.cell (k:=3) rfl)
 clear hT hb12
 by_cases ht : o.to = []
 ·skip
  by_cases hd : o.data.length < 1
  ·skip
   have HC : Hid (checkM o = 2):=hyq (by unfold checkM mostM leastM; simp [hk,ht,hd])
   have e1 : (o.to == []) = true:=by simp [ht]
   have e2 : (o.to != []) = false:=by simp [ht]
   have d3 : (o.data.length : Int) < 1:=by omega
   rw [HC.out]
   clear hk ht hd
   go_enter Tryz.func47,Tryz.ntmps47
   go_upto_region 1 with fail
   rw [← hw1,← hbo]
   clear hw1 hbo
   go_upto_region 4 with fail
   rw [← hw2,← hbs]
   clear hw2 hbs m0 s0 s1 s2
   have m1:=M1.out
   have m2:=M2.out
   have m3:=M3.out
   have g0:=XS0.out.cell (k:=0) rfl
   have g1:=XS0.out.cell (k:=1) rfl
   have g2:=XS0.out.cell (k:=2) rfl
   go_wp2_with fail
   go_ret
   exact ⟨rfl,HB2.out⟩
  ·skip
   by_cases hv : validB o.path = true
   ·skip
    by_cases hl : 2000 < o.data.length
    ·skip
     have HC : Hid (checkM o = 3):=hyq (by unfold checkM mostM leastM; simp [hk,ht,hd,hv,hl])
     have e1 : (o.to == []) = true:=by simp [ht]
     have e2 : (o.to != []) = false:=by simp [ht]
     have d3 : ¬ (o.data.length : Int) < 1:=by omega
     have HP : Hid (∀ W,Calls Tryz.prog 70 #[.string ⟨o.path.toArray⟩] W (ChkR 0 W)):=hyq (chk_is o.path hpl true hv)
     have l3 : (2000 : Int) < (o.data.length : Int):=by omega
     rw [HC.out]
     clear hk ht hd hv hl
     go_enter Tryz.func47,Tryz.ntmps47
     go_upto_region 1 with fail
     rw [← hw1,← hbo]
     clear hw1 hbo
     go_upto_region 4 with fail
     rw [← hw2,← hbs]
     clear hw2 hbs m0 s0 s1 s2
     have m1:=M1.out
     have m2:=M2.out
     have m3:=M3.out
     have g0:=XS0.out.cell (k:=0) rfl
     have g1:=XS0.out.cell (k:=1) rfl
     have g2:=XS0.out.cell (k:=2) rfl
     go_wp2_with fail
     refine (HP.out _).mono ?_
     rintro e wc0 ⟨rfl,hb0⟩
     have HC1:=hyq (bch HB2.out hb0)
     obtain ⟨_,n1,n2,n3⟩:=keepO XO0.out hb0
     have XO1:=hyq (XO0.out.on hb0)
     have XS1:=hyq (XS0.out.on hb0)
     have g0:=XS1.out.cell (k:=0) rfl
     have g1:=XS1.out.cell (k:=1) rfl
     have g2:=XS1.out.cell (k:=2) rfl
     clear hb0
     go_wp2_with fail
     go_ret
     exact ⟨rfl,HC1.out⟩
    ·skip
     have HC : Hid (checkM o = 0):=hyq (by unfold checkM mostM leastM; simp [hk,ht,hd,hv,hl])
     have e1 : (o.to == []) = true:=by simp [ht]
     have e2 : (o.to != []) = false:=by simp [ht]
     have d3 : ¬ (o.data.length : Int) < 1:=by omega
     have HP : Hid (∀ W,Calls Tryz.prog 70 #[.string ⟨o.path.toArray⟩] W (ChkR 0 W)):=hyq (chk_is o.path hpl true hv)
     have l3 : ¬ (2000 : Int) < (o.data.length : Int):=by omega
     rw [HC.out]
     clear hk ht hd hv hl
     go_enter Tryz.func47,Tryz.ntmps47
     go_upto_region 1 with fail
     rw [← hw1,← hbo]
     clear hw1 hbo
     go_upto_region 4 with fail
     rw [← hw2,← hbs]
     clear hw2 hbs m0 s0 s1 s2
     have m1:=M1.out
     have m2:=M2.out
     have m3:=M3.out
     have g0:=XS0.out.cell (k:=0) rfl
     have g1:=XS0.out.cell (k:=1) rfl
     have g2:=XS0.out.cell (k:=2) rfl
     go_wp2_with fail
     refine (HP.out _).mono ?_
     rintro e wc0 ⟨rfl,hb0⟩
     have HC1:=hyq (bch HB2.out hb0)
     obtain ⟨_,n1,n2,n3⟩:=keepO XO0.out hb0
     have XO1:=hyq (XO0.out.on hb0)
     have XS1:=hyq (XS0.out.on hb0)
     have g0:=XS1.out.cell (k:=0) rfl
     have g1:=XS1.out.cell (k:=1) rfl
     have g2:=XS1.out.cell (k:=2) rfl
     clear hb0
     go_wp2_with fail
     go_ret
     exact ⟨rfl,HC1.out⟩
   ·skip
    have HC : Hid (checkM o = 110):=hyq (by unfold checkM mostM leastM; simp [hk,ht,hd,hv])
    have e1 : (o.to == []) = true:=by simp [ht]
    have e2 : (o.to != []) = false:=by simp [ht]
    have d3 : ¬ (o.data.length : Int) < 1:=by omega
    have HP : Hid (∀ W,Calls Tryz.prog 70 #[.string ⟨o.path.toArray⟩] W (ChkR 110 W)):=hyq (chk_is o.path hpl false (by simpa using hv))
    rw [HC.out]
    clear hk ht hd hv
    go_enter Tryz.func47,Tryz.ntmps47
    go_upto_region 1 with fail
    rw [← hw1,← hbo]
    clear hw1 hbo
    go_upto_region 4 with fail
    rw [← hw2,← hbs]
    clear hw2 hbs m0 s0 s1 s2
    have m1:=M1.out
    have m2:=M2.out
    have m3:=M3.out
    have g0:=XS0.out.cell (k:=0) rfl
    have g1:=XS0.out.cell (k:=1) rfl
    have g2:=XS0.out.cell (k:=2) rfl
    go_wp2_with fail
    refine (HP.out _).mono ?_
    rintro e wc0 ⟨rfl,hb0⟩
    have HC1:=hyq (bch HB2.out hb0)
    obtain ⟨_,n1,n2,n3⟩:=keepO XO0.out hb0
    have XO1:=hyq (XO0.out.on hb0)
    have XS1:=hyq (XS0.out.on hb0)
    have g0:=XS1.out.cell (k:=0) rfl
    have g1:=XS1.out.cell (k:=1) rfl
    have g2:=XS1.out.cell (k:=2) rfl
    clear hb0
    go_wp2_with fail
    go_ret
    exact ⟨rfl,HC1.out⟩
 ·skip
  have HC : Hid (checkM o = 2):=hyq (by unfold checkM mostM leastM; simp [hk,ht])
  have e1 : (o.to == []) = false:=by simpa using ht
  have e2 : (o.to != []) = true:=by simpa using ht
  have e3 : ¬ (o.to = []):=ht
  rw [HC.out]
  clear hk ht
  go_enter Tryz.func47,Tryz.ntmps47
  go_upto_region 1 with fail
  rw [← hw1,← hbo]
  clear hw1 hbo
  go_upto_region 4 with fail
  rw [← hw2,← hbs]
  clear hw2 hbs m0 s0 s1 s2
  have m1:=M1.out
  have m2:=M2.out
  have m3:=M3.out
  have g0:=XS0.out.cell (k:=0) rfl
  have g1:=XS0.out.cell (k:=1) rfl
  have g2:=XS0.out.cell (k:=2) rfl
  go_wp2_with fail
  go_ret
  exact ⟨rfl,HB2.out⟩
theorem checkop_5 (o : Opn) (hk : o.kind = 5) (hpl : o.path.length ≤ 140737488355328) (htl : o.to.length ≤ 140737488355328) (w : World) (hT : TabS w) : Calls Tryz.prog 47 #[.agg o.arr] w (ChkR (checkM o) w):=by
 obtain ⟨w1,hw1⟩:=nmq (w.alloc (.cells o.arr 46))
 obtain ⟨bo,hbo⟩:=nmq (w.heap.size)
 have X1 : Hid (Box w1 bo 46 o.arr):=hyq (by rw [hw1,hbo]; exact box_new)
 have HB0 : Hid (Below w.heap.size w w1):=hyq (by rw [hw1]; exact below_new _ _)
 have HT1 : Hid (TabS w1):=hyq (hT.on HB0.out)
 have s0:=HT1.out.sh 15 _ rfl
 have s1:=HT1.out.sh 16 _ rfl
 have s2:=HT1.out.sh 17 _ rfl
 have m0 : w1.cell? ⟨bo,0,none⟩ = some (.int .i64 5):=by rw [← hk]; exact X1.out.cell (k:=0) rfl
 obtain ⟨w2,hw2⟩:=nmq (w1.alloc (.cells #[.bool true,.int .i64 0,.int .i64 0] 97))
 obtain ⟨bs,hbs⟩:=nmq (w1.heap.size)
 have hb12 : Below w1.heap.size w1 w2:=by rw [hw2]; exact below_new _ _
 have XO0 : Hid (Box w2 bo 46 o.arr):=hyq (X1.out.on hb12)
 have XS0 : Hid (Box w2 bs 97 #[.bool true,.int .i64 0,.int .i64 0]):=hyq (by rw [hw2,hbs]; exact box_new)
 have HB2 : Hid (Below w.heap.size w w2):=hyq (bch HB0.out hb12)
 have M1 : Hid (w2.cell? ⟨bo,1,none⟩ = some (.string ⟨o.path.toArray⟩)):=hyq (XO0.out.cell (k:=1) rfl)
 have M2 : Hid (w2.cell? ⟨bo,2,none⟩ = some (.string ⟨o.to.toArray⟩)):=hyq (XO0.out.cell (k:=2) rfl)
 have M3 : Hid (w2.cell? ⟨bo,3,none⟩ = some (.string ⟨o.data.toArray⟩)):=hyq (XO0.out.cell (k:=3) rfl)
 clear hT hb12
 by_cases hd : o.data = []
 ·skip
  by_cases hv : validB o.path = true
  ·skip
   by_cases hu : validB o.to = true
   ·skip
    have HC : Hid (checkM o = 0):=hyq (by unfold checkM mostM leastM; simp [hk,hd,hv,hu])
    have d1 : (o.data == []) = true:=by simp [hd]
    have d2 : (o.data != []) = false:=by simp [hd]
    have d3 : o.data.length = 0:=by simp [hd]
    have HP : Hid (∀ W,Calls Tryz.prog 70 #[.string ⟨o.path.toArray⟩] W (ChkR 0 W)):=hyq (chk_is o.path hpl true hv)
    have HT : Hid (∀ W,Calls Tryz.prog 70 #[.string ⟨o.to.toArray⟩] W (ChkR 0 W)):=hyq (chk_is o.to htl true hu)
    rw [HC.out]
    clear hk hd hv hu
    go_enter Tryz.func47,Tryz.ntmps47
    go_upto_region 1 with fail
    rw [← hw1,← hbo]
    clear hw1 hbo
    go_upto_region 4 with fail
    rw [← hw2,← hbs]
    clear hw2 hbs m0 s0 s1 s2
    have m1:=M1.out
    have m2:=M2.out
    have m3:=M3.out
    have g0:=XS0.out.cell (k:=0) rfl
    have g1:=XS0.out.cell (k:=1) rfl
    have g2:=XS0.out.cell (k:=2) rfl
    go_wp2_with fail
    refine (HP.out _).mono ?_
    rintro e wc0 ⟨rfl,hb0⟩
    have HC1:=hyq (bch HB2.out hb0)
    obtain ⟨_,n1,n2,n3⟩:=keepO XO0.out hb0
    have XO1:=hyq (XO0.out.on hb0)
    have XS1:=hyq (XS0.out.on hb0)
    have g0:=XS1.out.cell (k:=0) rfl
    have g1:=XS1.out.cell (k:=1) rfl
    have g2:=XS1.out.cell (k:=2) rfl
    clear hb0
    go_wp2_with fail
    refine (HT.out _).mono ?_
    rintro e wc1 ⟨rfl,hb1⟩
    have HC2:=hyq (bch HC1.out hb1)
    obtain ⟨_,n1,n2,n3⟩:=keepO XO1.out hb1
    have XO2:=hyq (XO1.out.on hb1)
    have XS2:=hyq (XS1.out.on hb1)
    have g0:=XS2.out.cell (k:=0) rfl
    have g1:=XS2.out.cell (k:=1) rfl
    have g2:=XS2.out.cell (k:=2) rfl
    clear hb1
    go_wp2_with fail
    go_ret
    exact ⟨rfl,HC2.out⟩
   ·skip
    have HC : Hid (checkM o = 110):=hyq (by unfold checkM mostM leastM; simp [hk,hd,hv,hu])
    have d1 : (o.data == []) = true:=by simp [hd]
    have d2 : (o.data != []) = false:=by simp [hd]
    have d3 : o.data.length = 0:=by simp [hd]
    have HP : Hid (∀ W,Calls Tryz.prog 70 #[.string ⟨o.path.toArray⟩] W (ChkR 0 W)):=hyq (chk_is o.path hpl true hv)
    have HT : Hid (∀ W,Calls Tryz.prog 70 #[.string ⟨o.to.toArray⟩] W (ChkR 110 W)):=hyq (chk_is o.to htl false (by simpa using hu))
    rw [HC.out]
    clear hk hd hv hu
    go_enter Tryz.func47,Tryz.ntmps47
    go_upto_region 1 with fail
    rw [← hw1,← hbo]
    clear hw1 hbo
    go_upto_region 4 with fail
    rw [← hw2,← hbs]
    clear hw2 hbs m0 s0 s1 s2
    have m1:=M1.out
    have m2:=M2.out
    have m3:=M3.out
    have g0:=XS0.out.cell (k:=0) rfl
    have g1:=XS0.out.cell (k:=1) rfl
    have g2:=XS0.out.cell (k:=2) rfl
    go_wp2_with fail
    refine (HP.out _).mono ?_
    rintro e wc0 ⟨rfl,hb0⟩
    have HC1:=hyq (bch HB2.out hb0)
    obtain ⟨_,n1,n2,n3⟩:=keepO XO0.out hb0
    have XO1:=hyq (XO0.out.on hb0)
    have XS1:=hyq (XS0.out.on hb0)
    have g0:=XS1.out.cell (k:=0) rfl
    have g1:=XS1.out.cell (k:=1) rfl
    have g2:=XS1.out.cell (k:=2) rfl
    clear hb0
    go_wp2_with fail
    refine (HT.out _).mono ?_
    rintro e wc1 ⟨rfl,hb1⟩
    have HC2:=hyq (bch HC1.out hb1)
    obtain ⟨_,n1,n2,n3⟩:=keepO XO1.out hb1
    have XO2:=hyq (XO1.out.on hb1)
    have XS2:=hyq (XS1.out.on hb1)
    have g0:=XS2.out.cell (k:=0) rfl
    have g1:=XS2.out.cell (k:=1) rfl
    have g2:=XS2.out.cell (k:=2) rfl
    clear hb1
    go_wp2_with fail
    go_ret
    exact ⟨rfl,HC2.out⟩
  ·skip
   have HC : Hid (checkM o = 110):=hyq (by unfold checkM mostM leastM; simp [hk,hd,hv])
   have d1 : (o.data == []) = true:=by simp [hd]
   have d2 : (o.data != []) = false:=by simp [hd]
   have d3 : o.data.length = 0:=by simp [hd]
   have HP : Hid (∀ W,Calls Tryz.prog 70 #[.string ⟨o.path.toArray⟩] W (ChkR 110 W)):=hyq (chk_is o.path hpl false (by simpa using hv))
   rw [HC.out]
   clear hk hd hv
   go_enter Tryz.func47,Tryz.ntmps47
   go_upto_region 1 with fail
   rw [← hw1,← hbo]
   clear hw1 hbo
   go_upto_region 4 with fail
   rw [← hw2,← hbs]
   clear hw2 hbs m0 s0 s1 s2
   have m1:=M1.out
   have m2:=M2.out
   have m3:=M3.out
   have g0:=XS0.out.cell (k:=0) rfl
   have g1:=XS0.out.cell (k:=1) rfl
   have g2:=XS0.out.cell (k:=2) rfl
   go_wp2_with fail
   refine (HP.out _).mono ?_
   rintro e wc0 ⟨rfl,hb0⟩
   have HC1:=hyq (bch HB2.out hb0)
   obtain ⟨_,n1,n2,n3⟩:=keepO XO0.out hb0
   have XO1:=hyq (XO0.out.on hb0)
   have XS1:=hyq (XS0.out.on hb0)
   have g0:=XS1.out.cell (k:=0) rfl
   have g1:=XS1.out.cell (k:=1) rfl
   have g2:=XS1.out.cell (k:=2) rfl
   clear hb0
   go_wp2_with fail
   go_ret
   exact ⟨rfl,HC1.out⟩
 ·skip
  have HC : Hid (checkM o = 2):=hyq (by unfold checkM mostM leastM; simp [hk,hd])
  have d1 : (o.data == []) = false:=by simpa using hd
  have d2 : (o.data != []) = true:=by simpa using hd
  rw [HC.out]
  clear hk hd
  go_enter Tryz.func47,Tryz.ntmps47
  go_upto_region 1 with fail
  rw [← hw1,← hbo]
  clear hw1 hbo
  go_upto_region 4 with fail
  rw [← hw2,← hbs]
  clear hw2 hbs m0 s0 s1 s2
  have m1:=M1.out
  have m2:=M2.out
  have m3:=M3.out
  have g0:=XS0.out.cell (k:=0) rfl
  have g1:=XS0.out.cell (k:=1) rfl
  have g2:=XS0.out.cell (k:=2) rfl
  go_wp2_with fail
  go_ret
  exact ⟨rfl,HB2.out⟩
theorem checkop_6 (o : Opn) (hk : o.kind = 6) (hpl : o.path.length ≤ 140737488355328) (_ : o.to.length ≤ 140737488355328) (w : World) (hT : TabS w) : Calls Tryz.prog 47 #[.agg o.arr] w (ChkR (checkM o) w):=by
 obtain ⟨w1,hw1⟩:=nmq (w.alloc (.cells o.arr 46))
 obtain ⟨bo,hbo⟩:=nmq (w.heap.size)
 have X1 : Hid (Box w1 bo 46 o.arr):=hyq (by rw [hw1,hbo]; exact box_new)
 have HB0 : Hid (Below w.heap.size w w1):=hyq (by rw [hw1]; exact below_new _ _)
 have HT1 : Hid (TabS w1):=hyq (hT.on HB0.out)
 have s0:=HT1.out.sh 18 _ rfl
 have s1:=HT1.out.sh 19 _ rfl
 have s2:=HT1.out.sh 20 _ rfl
 have m0 : w1.cell? ⟨bo,0,none⟩ = some (.int .i64 6):=by rw [← hk]; exact X1.out.cell (k:=0) rfl
 obtain ⟨w2,hw2⟩:=nmq (w1.alloc (.cells #[.bool false,.int .i64 0,.int .i64 0] 97))
 obtain ⟨bs,hbs⟩:=nmq (w1.heap.size)
 have hb12 : Below w1.heap.size w1 w2:=by rw [hw2]; exact below_new _ _
 have XO0 : Hid (Box w2 bo 46 o.arr):=hyq (X1.out.on hb12)
 have XS0 : Hid (Box w2 bs 97 #[.bool false,.int .i64 0,.int .i64 0]):=hyq (by rw [hw2,hbs]; exact box_new)
 have HB2 : Hid (Below w.heap.size w w2):=hyq (bch HB0.out hb12)
 have M1 : Hid (w2.cell? ⟨bo,1,none⟩ = some (.string ⟨o.path.toArray⟩)):=hyq (XO0.out.cell (k:=1) rfl)
 have M2 : Hid (w2.cell? ⟨bo,2,none⟩ = some (.string ⟨o.to.toArray⟩)):=hyq (XO0.out.cell (k:=2) rfl)
 have M3 : Hid (w2.cell? ⟨bo,3,none⟩ = some (.string ⟨o.data.toArray⟩)):=hyq (XO0.out.cell (k:=3) rfl)
 clear hT hb12
 by_cases ht : o.to = []
 ·skip
  by_cases hd : o.data = []
  ·skip
   by_cases hv : validB o.path = true
   ·skip
    have HC : Hid (checkM o = 0):=hyq (by unfold checkM mostM leastM; simp [hk,ht,hd,hv])
    have e1 : (o.to == []) = true:=by simp [ht]
    have e2 : (o.to != []) = false:=by simp [ht]
    have d1 : (o.data == []) = true:=by simp [hd]
    have d2 : (o.data != []) = false:=by simp [hd]
    have d3 : o.data.length = 0:=by simp [hd]
    have HP : Hid (∀ W,Calls Tryz.prog 70 #[.string ⟨o.path.toArray⟩] W (ChkR 0 W)):=hyq (chk_is o.path hpl true hv)
    rw [HC.out]
    clear hk ht hd hv
    go_enter Tryz.func47,Tryz.ntmps47
    go_upto_region 1 with fail
    rw [← hw1,← hbo]
    clear hw1 hbo
    go_upto_region 4 with fail
    rw [← hw2,← hbs]
    clear hw2 hbs m0 s0 s1 s2
    have m1:=M1.out
    have m2:=M2.out
    have m3:=M3.out
    have g0:=XS0.out.cell (k:=0) rfl
    have g1:=XS0.out.cell (k:=1) rfl
    have g2:=XS0.out.cell (k:=2) rfl
    go_wp2_with fail
    refine (HP.out _).mono ?_
    rintro e wc0 ⟨rfl,hb0⟩
    have HC1:=hyq (bch HB2.out hb0)
    obtain ⟨_,n1,n2,n3⟩:=keepO XO0.out hb0
    have XO1:=hyq (XO0.out.on hb0)
    have XS1:=hyq (XS0.out.on hb0)
    have g0:=XS1.out.cell (k:=0) rfl
    have g1:=XS1.out.cell (k:=1) rfl
    have g2:=XS1.out.cell (k:=2) rfl
    clear hb0
    go_wp2_with fail
    go_ret
    exact ⟨rfl,HC1.out⟩
   ·skip
    have HC : Hid (checkM o = 110):=hyq (by unfold checkM mostM leastM; simp [hk,ht,hd,hv])
    have e1 : (o.to == []) = true:=by simp [ht]
    have e2 : (o.to != []) = false:=by simp [ht]
    have d1 : (o.data == []) = true:=by simp [hd]
    have d2 : (o.data != []) = false:=by simp [hd]
    have d3 : o.data.length = 0:=by simp [hd]
    have HP : Hid (∀ W,Calls Tryz.prog 70 #[.string ⟨o.path.toArray⟩] W (ChkR 110 W)):=hyq (chk_is o.path hpl false (by simpa using hv))
    rw [HC.out]
    clear hk ht hd hv
    go_enter Tryz.func47,Tryz.ntmps47
    go_upto_region 1 with fail
    rw [← hw1,← hbo]
    clear hw1 hbo
    go_upto_region 4 with fail
    rw [← hw2,← hbs]
    clear hw2 hbs m0 s0 s1 s2
    have m1:=M1.out
    have m2:=M2.out
    have m3:=M3.out
    have g0:=XS0.out.cell (k:=0) rfl
    have g1:=XS0.out.cell (k:=1) rfl
    have g2:=XS0.out.cell (k:=2) rfl
    go_wp2_with fail
    refine (HP.out _).mono ?_
    rintro e wc0 ⟨rfl,hb0⟩
    have HC1:=hyq (bch HB2.out hb0)
    obtain ⟨_,n1,n2,n3⟩:=keepO XO0.out hb0
    have XO1:=hyq (XO0.out.on hb0)
    have XS1:=hyq (XS0.out.on hb0)
    have g0:=XS1.out.cell (k:=0) rfl
    have g1:=XS1.out.cell (k:=1) rfl
    have g2:=XS1.out.cell (k:=2) rfl
    clear hb0
    go_wp2_with fail
    go_ret
    exact ⟨rfl,HC1.out⟩
  ·skip
   have HC : Hid (checkM o = 2):=hyq (by unfold checkM mostM leastM; simp [hk,ht,hd])
   have e1 : (o.to == []) = true:=by simp [ht]
   have e2 : (o.to != []) = false:=by simp [ht]
   have d1 : (o.data == []) = false:=by simpa using hd
   have d2 : (o.data != []) = true:=by simpa using hd
   rw [HC.out]
   clear hk ht hd
   go_enter Tryz.func47,Tryz.ntmps47
   go_upto_region 1 with fail
   rw [← hw1,← hbo]
   clear hw1 hbo
   go_upto_region 4 with fail
   rw [← hw2,← hbs]
   clear hw2 hbs m0 s0 s1 s2
   have m1:=M1.out
   have m2:=M2.out
   have m3:=M3.out
   have g0:=XS0.out.cell (k:=0) rfl
   have g1:=XS0.out.cell (k:=1) rfl
   have g2:=XS0.out.cell (k:=2) rfl
   go_wp2_with fail
   go_ret
   exact ⟨rfl,HB2.out⟩
 ·skip
  have HC : Hid (checkM o = 2):=hyq (by unfold checkM mostM leastM; simp [hk,ht])
  have e1 : (o.to == []) = false:=by simpa using ht
  have e2 : (o.to != []) = true:=by simpa using ht
  have e3 : ¬ (o.to = []):=ht
  rw [HC.out]
  clear hk ht
  go_enter Tryz.func47,Tryz.ntmps47
  go_upto_region 1 with fail
  rw [← hw1,← hbo]
  clear hw1 hbo
  go_upto_region 4 with fail
  rw [← hw2,← hbs]
  clear hw2 hbs m0 s0 s1 s2
  have m1:=M1.out
  have m2:=M2.out
  have m3:=M3.out
  have g0:=XS0.out.cell (k:=0) rfl
  have g1:=XS0.out.cell (k:=1) rfl
  have g2:=XS0.out.cell (k:=2) rfl
  go_wp2_with fail
  go_ret
  exact ⟨rfl,HB2.out⟩
theorem checkop_7 (o : Opn) (hk : o.kind = 7) (hpl : o.path.length ≤ 140737488355328) (_ : o.to.length ≤ 140737488355328) (w : World) (hT : TabS w) : Calls Tryz.prog 47 #[.agg o.arr] w (ChkR (checkM o) w):=by
 obtain ⟨w1,hw1⟩:=nmq (w.alloc (.cells o.arr 46))
 obtain ⟨bo,hbo⟩:=nmq (w.heap.size)
 have X1 : Hid (Box w1 bo 46 o.arr):=hyq (by rw [hw1,hbo]; exact box_new)
 have HB0 : Hid (Below w.heap.size w w1):=hyq (by rw [hw1]; exact below_new _ _)
 have HT1 : Hid (TabS w1):=hyq (hT.on HB0.out)
 have s0:=HT1.out.sh 21 _ rfl
 have s1:=HT1.out.sh 22 _ rfl
 have s2:=HT1.out.sh 23 _ rfl
 have m0 : w1.cell? ⟨bo,0,none⟩ = some (.int .i64 7):=by rw [← hk]; exact X1.out.cell (k:=0) rfl
 obtain ⟨w2,hw2⟩:=nmq (w1.alloc (.cells #[.bool false,.int .i64 0,.int .i64 0] 97))
 obtain ⟨bs,hbs⟩:=nmq (w1.heap.size)
 have hb12 : Below w1.heap.size w1 w2:=by rw [hw2]; exact below_new _ _
 have XO0 : Hid (Box w2 bo 46 o.arr):=hyq (X1.out.on hb12)
 have XS0 : Hid (Box w2 bs 97 #[.bool false,.int .i64 0,.int .i64 0]):=hyq (by rw [hw2,hbs]; exact box_new)
 have HB2 : Hid (Below w.heap.size w w2):=hyq (bch HB0.out hb12)
 have M1 : Hid (w2.cell? ⟨bo,1,none⟩ = some (.string ⟨o.path.toArray⟩)):=hyq (XO0.out.cell (k:=1) rfl)
 have M2 : Hid (w2.cell? ⟨bo,2,none⟩ = some (.string ⟨o.to.toArray⟩)):=hyq (XO0.out.cell (k:=2) rfl)
 have M3 : Hid (w2.cell? ⟨bo,3,none⟩ = some (.string ⟨o.data.toArray⟩)):=hyq (XO0.out.cell (k:=3) rfl)
 clear hT hb12
 by_cases ht : o.to = []
 ·skip
  by_cases hd : o.data = []
  ·skip
   by_cases hv : validB o.path = true
   ·skip
    have HC : Hid (checkM o = 0):=hyq (by unfold checkM mostM leastM; simp [hk,ht,hd,hv])
    have e1 : (o.to == []) = true:=by simp [ht]
    have e2 : (o.to != []) = false:=by simp [ht]
    have d1 : (o.data == []) = true:=by simp [hd]
    have d2 : (o.data != []) = false:=by simp [hd]
    have d3 : o.data.length = 0:=by simp [hd]
    have HP : Hid (∀ W,Calls Tryz.prog 70 #[.string ⟨o.path.toArray⟩] W (ChkR 0 W)):=hyq (chk_is o.path hpl true hv)
    rw [HC.out]
    clear hk ht hd hv
    go_enter Tryz.func47,Tryz.ntmps47
    go_upto_region 1 with fail
    rw [← hw1,← hbo]
    clear hw1 hbo
    go_upto_region 4 with fail
    rw [← hw2,← hbs]
    clear hw2 hbs m0 s0 s1 s2
    have m1:=M1.out
    have m2:=M2.out
    have m3:=M3.out
    have g0:=XS0.out.cell (k:=0) rfl
    have g1:=XS0.out.cell (k:=1) rfl
    have g2:=XS0.out.cell (k:=2) rfl
    go_wp2_with fail
    refine (HP.out _).mono ?_
    rintro e wc0 ⟨rfl,hb0⟩
    have HC1:=hyq (bch HB2.out hb0)
    obtain ⟨_,n1,n2,n3⟩:=keepO XO0.out hb0
    have XO1:=hyq (XO0.out.on hb0)
    have XS1:=hyq (XS0.out.on hb0)
    have g0:=XS1.out.cell (k:=0) rfl
    have g1:=XS1.out.cell (k:=1) rfl
    have g2:=XS1.out.cell (k:=2) rfl
    clear hb0
    go_wp2_with fail
    go_ret
    exact ⟨rfl,HC1.out⟩
   ·skip
    have HC : Hid (checkM o = 110):=hyq (by unfold checkM mostM leastM; simp [hk,ht,hd,hv])
    have e1 : (o.to == []) = true:=by simp [ht]
    have e2 : (o.to != []) = false:=by simp [ht]
    have d1 : (o.data == []) = true:=by simp [hd]
    have d2 : (o.data != []) = false:=by simp [hd]
    have d3 : o.data.length = 0:=by simp [hd]
    have HP : Hid (∀ W,Calls Tryz.prog 70 #[.string ⟨o.path.toArray⟩] W (ChkR 110 W)):=hyq (chk_is o.path hpl false (by simpa using hv))
    rw [HC.out]
    clear hk ht hd hv
    go_enter Tryz.func47,Tryz.ntmps47
    go_upto_region 1 with fail
    rw [← hw1,← hbo]
    clear hw1 hbo
    go_upto_region 4 with fail
    rw [← hw2,← hbs]
    clear hw2 hbs m0 s0 s1 s2
    have m1:=M1.out
    have m2:=M2.out
    have m3:=M3.out
    have g0:=XS0.out.cell (k:=0) rfl
    have g1:=XS0.out.cell (k:=1) rfl
    have g2:=XS0.out.cell (k:=2) rfl
    go_wp2_with fail
    refine (HP.out _).mono ?_
    rintro e wc0 ⟨rfl,hb0⟩
    have HC1:=hyq (bch HB2.out hb0)
    obtain ⟨_,n1,n2,n3⟩:=keepO XO0.out hb0
    have XO1:=hyq (XO0.out.on hb0)
    have XS1:=hyq (XS0.out.on hb0)
    have g0:=XS1.out.cell (k:=0) rfl
    have g1:=XS1.out.cell (k:=1) rfl
    have g2:=XS1.out.cell (k:=2) rfl
    clear hb0
    go_wp2_with fail
    go_ret
    exact ⟨rfl,HC1.out⟩
  ·skip
   have HC : Hid (checkM o = 2):=hyq (by unfold checkM mostM leastM; simp [hk,ht,hd])
   have e1 : (o.to == []) = true:=by simp [ht]
   have e2 : (o.to != []) = false:=by simp [ht]
   have d1 : (o.data == []) = false:=by simpa using hd
   have d2 : (o.data != []) = true:=by simpa using hd
   rw [HC.out]
   clear hk ht hd
   go_enter Tryz.func47,Tryz.ntmps47
   go_upto_region 1 with fail
   rw [← hw1,← hbo]
   clear hw1 hbo
   go_upto_region 4 with fail
   rw [← hw2,← hbs]
   clear hw2 hbs m0 s0 s1 s2
   have m1:=M1.out
   have m2:=M2.out
   have m3:=M3.out
   have g0:=XS0.out.cell (k:=0) rfl
   have g1:=XS0.out.cell (k:=1) rfl
   have g2:=XS0.out.cell (k:=2) rfl
   go_wp2_with fail
   go_ret
   exact ⟨rfl,HB2.out⟩
 ·skip
  have HC : Hid (checkM o = 2):=hyq (by unfold checkM mostM leastM; simp [hk,ht])
  have e1 : (o.to == []) = false:=by simpa using ht
  have e2 : (o.to != []) = true:=by simpa using ht
  have e3 : ¬ (o.to = []):=ht
  rw [HC.out]
  clear hk ht
  go_enter Tryz.func47,Tryz.ntmps47
  go_upto_region 1 with fail
  rw [← hw1,← hbo]
  clear hw1 hbo
  go_upto_region 4 with fail
  rw [← hw2,← hbs]
  clear hw2 hbs m0 s0 s1 s2
  have m1:=M1.out
  have m2:=M2.out
  have m3:=M3.out
  have g0:=XS0.out.cell (k:=0) rfl
  have g1:=XS0.out.cell (k:=1) rfl
  have g2:=XS0.out.cell (k:=2) rfl
  go_wp2_with fail
  go_ret
  exact ⟨rfl,HB2.out⟩
end Go.Proofs.YtigopecainocgaaGreatDoor
