/- Proved here: dir, open and makes of puncheonref06. -/
import Derived.Test.YtigopecainocgaaGreatDoorRWith2
set_option maxRecDepth 100000
set_option maxHeartbeats 32000000
namespace Go.Proofs.YtigopecainocgaaGreatDoor
open Go.RowKit Go.Shelf
theorem info59r {a b c : Value} : (Tryz.prog.info? 59).map (·.size) = some (#[a,b,c] : Array Value).size:=by show _ = some 3; kernel_rfl
theorem ref_get (l : List It) (p : Str) : refG l p = ((getI l p).getD .nil,(getI l p).isSome):=by
 unfold refG getI
 by_cases h : p = [47]
 ·rw [if_pos h,if_pos h]; rfl
 ·rw [if_neg h,if_neg h]
  cases l.find? (fun x => x.path == p) <;> rfl
theorem rget_is (l : List It) (v : Value) (p : Str) (w : World) (hv : RdI w v l) (hl : l.length ≤ 1000000) (y : It) (b : Bool) (hy : y = (getI l p).getD .nil) (hb : b = (getI l p).isSome) :
  Calls Tryz.prog 73 #[.agg #[v],.string ⟨p.toArray⟩] w fun e w' => e = .returned (.tuple #[.agg #[.string ⟨y.path.toArray⟩,.int .i64 y.kind,.string ⟨y.data.toArray⟩],.bool b]) ∧ Below w.heap.size w w':=by
 refine (rget_any l v ⟨p.toArray⟩ w hv hl).mono ?_
 rintro e w' ⟨rfl,hb'⟩
 refine ⟨?_,hb'⟩
 rw [show refG l (⟨p.toArray⟩ : ByteArray).data.toList = (y,b) from by rw [hy,hb]; exact ref_get l p]
 rfl
def dirB (l : List It) (p : Str) : Bool:=match getI l p with
 | some d => decide (d.kind = 1)
 | none => false
theorem dir_no {l : List It} {p : Str} {b : Bool} (hb : b = (getI l p).isSome) (h : b = false) : dirB l p = false:=by
 unfold dirB
 cases e : getI l p with
 | none => rfl
 | some d => rw [e,h] at hb; cases hb
theorem dir_yes {l : List It} {p : Str} {y : It} {b : Bool} (hb : b = (getI l p).isSome) (hy : y = (getI l p).getD .nil) (h : b = true) : dirB l p = decide (y.kind = 1):=by
 unfold dirB
 cases e : getI l p with
 | none => rw [e,h] at hb; cases hb
 | some d => rw [e] at hy; subst hy; rfl
theorem open_dir {l : List It} {p : Str} (h : dirB l (upL p) = true) : openM l p = 0:=by
 unfold dirB at h
 unfold openM
 cases e : getI l (upL p) with
 | none => rw [e] at h; cases h
 | some d => rw [e] at h; simp only at h ⊢; rw [if_pos (of_decide_eq_true h)]
theorem open_not {l : List It} {p : Str} {b : Bool} (h : dirB l (upL p) = false) (hb : b = (getI l (upL p)).isSome) : openM l p = if b = true then 161 else 4:=by
 unfold dirB at h
 unfold openM
 cases e : getI l (upL p) with
 | none => rw [e] at hb; subst hb; rfl
 | some d => rw [e] at h hb; subst hb; simp only at h ⊢; rw [if_neg (of_decide_eq_false h)]; rfl
theorem rdir_any (l : List It) (v : Value) (p : Str) (w : World) (hv : RdI w v l) (hl : l.length ≤ 1000000) : Calls Tryz.prog 114 #[.agg #[v],.string ⟨p.toArray⟩] w fun e w' => e = .returned (.bool (dirB l p)) ∧ Below w.heap.size w w':=by
 obtain ⟨w1,hw1⟩:=nmq (w.alloc (.cells #[v] 24))
 have X : Hid (Box w1 w.heap.size 24 #[v]):=hyq (by rw [hw1]; exact box_new)
 have HB : Hid (Below w.heap.size w w1):=hyq (by rw [hw1]; exact below_new _ _)
 obtain ⟨y,hy⟩:=nmq ((getI l p).getD .nil)
 obtain ⟨b,hb⟩:=nmq ((getI l p).isSome)
 have HG:=hyq (rget_is l v p w1 (hv.on HB.out) hl y b hy hb)
 have HY:=hyq hy
 have HBB:=hyq hb
 obtain ⟨a,c,rfl,_⟩:=hv.open
 have c0:=X.out.cell (k:=0) rfl
 clear hv hy hb
 go_enter Tryz.func114,Tryz.ntmps114
 go_upto_region 1 with fail
 rw [← hw1]
 clear hw1
 go_wp2_with fail
 refine (HG.out).mono ?_
 rintro e w2 ⟨rfl,hb⟩
 obtain ⟨VE,hVE⟩:=nmq ((w2.alloc (.cells #[.string ⟨#[]⟩,.int .i64 0,.string ⟨#[]⟩] 59)).setRow w2.heap.size #[.string ⟨y.path.toArray⟩,.int .i64 y.kind,.string ⟨y.data.toArray⟩])
 obtain ⟨bE,hbE⟩:=nmq (w2.heap.size)
 have hnE : Below w2.heap.size w2 VE:=by rw [hVE]; exact below_row (below_new _ _) (Nat.le_refl _) _
 have XE : Hid (Box VE bE 59 #[.string ⟨y.path.toArray⟩,.int .i64 y.kind,.string ⟨y.data.toArray⟩]):=hyq (by rw [hVE,hbE]; exact box_new.row _)
 have HVE:=hyq hVE
 have HWE:=hyq hbE
 have hcar : Below w1.heap.size w1 VE:=bch hb hnE
 have HB:=hyq (bch HB.out hcar)
 clear hcar
 clear hb hnE c0
 cases b with
 | false =>
  have HR : Hid (dirB l p = false):=hyq (dir_no HBB.out rfl)
  clear hVE hbE
  go_wp2_with (first | (refine wpList_store_row rfl 59 (.tmp 5) (.tmp 11) rfl w2.heap.size #[.string ⟨y.path.toArray⟩,.int .i64 y.kind,.string ⟨y.data.toArray⟩] rfl rfl 59 #[.string ⟨#[]⟩,.int .i64 0,.string ⟨#[]⟩] box_new info59r rfl (by simp [Value.oneCell']) ?_; rw [← HVE.out,← HWE.out]) | fail)
  go_ret
  exact ⟨by rw [HR.out]; rfl,HB.out⟩
 | true =>
  have HR:=hyq (dir_yes HBB.out HY.out rfl)
  have p1:=XE.out.cell (k:=1) rfl
  by_cases hk : y.kind = 1
  ·have t1 : (y.kind == 1) = true:=by simp [hk]
   have HR2 : Hid (dirB l p = true):=hyq (by rw [HR.out]; simp [hk])
   clear hk
   clear hVE hbE
   go_wp2_with (first | (refine wpList_store_row rfl 59 (.tmp 5) (.tmp 11) rfl w2.heap.size #[.string ⟨y.path.toArray⟩,.int .i64 y.kind,.string ⟨y.data.toArray⟩] rfl rfl 59 #[.string ⟨#[]⟩,.int .i64 0,.string ⟨#[]⟩] box_new info59r rfl (by simp [Value.oneCell']) ?_; rw [← HVE.out,← HWE.out]) | fail)
   go_ret
   exact ⟨by rw [HR2.out]; rfl,HB.out⟩
  ·have t1 : (y.kind == 1) = false:=by simp [hk]
   have HR2 : Hid (dirB l p = false):=hyq (by rw [HR.out]; simp [hk])
   clear hk
   clear hVE hbE
   go_wp2_with (first | (refine wpList_store_row rfl 59 (.tmp 5) (.tmp 11) rfl w2.heap.size #[.string ⟨y.path.toArray⟩,.int .i64 y.kind,.string ⟨y.data.toArray⟩] rfl rfl 59 #[.string ⟨#[]⟩,.int .i64 0,.string ⟨#[]⟩] box_new info59r rfl (by simp [Value.oneCell']) ?_; rw [← HVE.out,← HWE.out]) | fail)
   go_ret
   exact ⟨by rw [HR2.out]; rfl,HB.out⟩
theorem ropen_any (l : List It) (v : Value) (p : Str) (w : World) (hv : RdI w v l) (hl : l.length ≤ 1000000) (hp : p.length ≤ 2000000) (er : Int) (her : openM l p = er) : Calls Tryz.prog 97 #[.agg #[v],.string ⟨p.toArray⟩] w fun e w' => e = .returned (.int .i64 er) ∧ Below w.heap.size w w':=by
 obtain ⟨w1,hw1⟩:=nmq (w.alloc (.cells #[v] 24))
 have X : Hid (Box w1 w.heap.size 24 #[v]):=hyq (by rw [hw1]; exact box_new)
 have HB : Hid (Below w.heap.size w w1):=hyq (by rw [hw1]; exact below_new _ _)
 obtain ⟨u,hu⟩:=nmq (upL p)
 obtain ⟨y,hy⟩:=nmq ((getI l u).getD .nil)
 obtain ⟨b,hb⟩:=nmq ((getI l u).isSome)
 obtain ⟨db,hdb⟩:=nmq (dirB l u)
 have HV:=hyq (hv.on HB.out)
 have HUP : Hid (Calls Tryz.prog 35 #[.string ⟨p.toArray⟩] w1 fun e w' => e = .returned (.string ⟨u.toArray⟩) ∧ Below w1.heap.size w1 w'):=hyq (by rw [hu]; exact rup_any ⟨p.toArray⟩ hp w1)
 have HD : Hid (∀ W,Below w1.heap.size w1 W → Calls Tryz.prog 114 #[.agg #[v],.string ⟨u.toArray⟩] W fun e w' => e = .returned (.bool db) ∧ Below W.heap.size W w'):=hyq (fun W hW => by rw [hdb]; exact rdir_any l v u W (HV.out.on hW) hl)
 have HG : Hid (∀ W,Below w1.heap.size w1 W → Calls Tryz.prog 73 #[.agg #[v],.string ⟨u.toArray⟩] W fun e w' => e = .returned (.tuple #[.agg #[.string ⟨y.path.toArray⟩,.int .i64 y.kind,.string ⟨y.data.toArray⟩],.bool b]) ∧ Below W.heap.size W w'):=hyq (fun W hW => rget_is l v u W (HV.out.on hW) hl y b hy hb)
 have H0 : Hid (db = true → er = 0):=hyq (fun h => by rw [← her]; rw [hdb,hu] at h; exact open_dir h)
 have H1 : Hid (db = false → er = if b = true then 161 else 4):=hyq (fun h => by rw [← her]; rw [hdb,hu] at h; exact open_not h (by rw [hb,hu]))
 obtain ⟨a,c,rfl,_⟩:=hv.open
 clear hv hy hb hu hdb her
 go_enter Tryz.func97,Tryz.ntmps97
 go_upto_region 1 with fail
 rw [← hw1]
 clear hw1
 go_wp2_with fail
 refine HUP.out.mono ?_
 rintro e w2 ⟨rfl,hb⟩
 have HB2:=hyq hb
 have c0:=(X.out.on hb).cell (k:=0) rfl
 clear hb HUP
 go_wp2_with fail
 refine (HD.out w2 HB2.out).mono ?_
 rintro e w3 ⟨rfl,hb⟩
 have HB3:=hyq (bch HB2.out hb)
 clear hb HD c0
 cases db with
 | true =>
  have HR:=hyq (H0.out rfl)
  go_wp2_with fail
  go_ret
  exact ⟨by rw [HR.out]; rfl,bch HB.out HB3.out⟩
 | false =>
  have HR:=hyq (H1.out rfl)
  have c0:=(X.out.on HB3.out).cell (k:=0) rfl
  go_wp2_with fail
  clear c0
  refine (HG.out w3 HB3.out).mono ?_
  rintro e w4 ⟨rfl,hb⟩
  have HB:=hyq (bch HB.out HB3.out)
  obtain ⟨VE,hVE⟩:=nmq ((w4.alloc (.cells #[.string ⟨#[]⟩,.int .i64 0,.string ⟨#[]⟩] 59)).setRow w4.heap.size #[.string ⟨y.path.toArray⟩,.int .i64 y.kind,.string ⟨y.data.toArray⟩])
  obtain ⟨bE,hbE⟩:=nmq (w4.heap.size)
  have hnE : Below w4.heap.size w4 VE:=by rw [hVE]; exact below_row (below_new _ _) (Nat.le_refl _) _
  have XE : Hid (Box VE bE 59 #[.string ⟨y.path.toArray⟩,.int .i64 y.kind,.string ⟨y.data.toArray⟩]):=hyq (by rw [hVE,hbE]; exact box_new.row _)
  have HVE:=hyq hVE
  have HWE:=hyq hbE
  have hcar : Below w3.heap.size w3 VE:=bch hb hnE
  have HB:=hyq (bch HB.out hcar)
  clear hcar
  clear hb hnE
  cases b with
  | false =>
   have HR2 : Hid (er = 4):=hyq HR.out
   clear hVE hbE
   go_wp2_with (first | (refine wpList_store_row rfl 59 (.tmp 6) (.tmp 17) rfl w4.heap.size #[.string ⟨y.path.toArray⟩,.int .i64 y.kind,.string ⟨y.data.toArray⟩] rfl rfl 59 #[.string ⟨#[]⟩,.int .i64 0,.string ⟨#[]⟩] box_new info59r rfl (by simp [Value.oneCell']) ?_; rw [← HVE.out,← HWE.out]) | fail)
   go_ret
   exact ⟨by rw [HR2.out]; rfl,HB.out⟩
  | true =>
   have HR2 : Hid (er = 161):=hyq HR.out
   clear hVE hbE
   go_wp2_with (first | (refine wpList_store_row rfl 59 (.tmp 6) (.tmp 17) rfl w4.heap.size #[.string ⟨y.path.toArray⟩,.int .i64 y.kind,.string ⟨y.data.toArray⟩] rfl rfl 59 #[.string ⟨#[]⟩,.int .i64 0,.string ⟨#[]⟩] box_new info59r rfl (by simp [Value.oneCell']) ?_; rw [← HVE.out,← HWE.out]) | fail)
   go_ret
   exact ⟨by rw [HR2.out]; rfl,HB.out⟩
def TreeE (r : Except Int (List It)) (w : World) (e : Ending) (w' : World) : Prop:=Below w.heap.size w w' ∧ ((∃ z,r = .error z ∧ e = .returned (.tuple #[.agg #[.slice none 0 0],.int .i64 z])) ∨ ∃ l' v',r = .ok l' ∧ e = .returned (.tuple #[.agg #[v'],.int .i64 0]) ∧ OwnI w' w.heap.size v' l')
theorem rmakes_any (l : List It) (v : Value) (x : It) (over : Bool) (w : World) (hv : RdI w v l) (hl : l.length ≤ 4000) (hsz : ∀ y ∈ l,y.path.length ≤ 2000000) (hx : x.path.length ≤ 2000000) (r : Except Int (List It)) (hr : makesR l x over = r) :
  Calls Tryz.prog 74 #[.agg #[v],.agg #[.string ⟨x.path.toArray⟩,.int .i64 x.kind,.string ⟨x.data.toArray⟩],.bool over] w (TreeE r w):=by
 obtain ⟨w1,hw1⟩:=nmq (((w.alloc (.cells #[v] 24)).alloc (.cells #[.string ⟨x.path.toArray⟩,.int .i64 x.kind,.string ⟨x.data.toArray⟩] 59)).alloc (.cells #[.slice none 0 0] 24))
 obtain ⟨b3,hb3⟩:=nmq (w.heap.size)
 have X3 : Hid (Box w1 b3 24 #[v]):=hyq (by rw [hw1,hb3]; exact (box_new.alloc _).alloc _)
 have X4 : Hid (Box w1 (b3 + 1) 59 x.arr):=hyq (by rw [hw1,hb3,show w.heap.size + 1 = (w.alloc (.cells #[v] 24)).heap.size from by simp]; exact box_new.alloc _)
 have X6 : Hid (Box w1 (b3 + 1 + 1) 24 #[.slice none 0 0]):=hyq (by rw [hw1,hb3,show w.heap.size + 1 + 1 = ((w.alloc (.cells #[v] 24)).alloc (.cells #[.string ⟨x.path.toArray⟩,.int .i64 x.kind,.string ⟨x.data.toArray⟩] 59)).heap.size from by simp]; exact box_new)
 have HB : Hid (Below w.heap.size w w1):=hyq (by rw [hw1]; exact bch (bch (below_new _ _) (below_new _ _)) (below_new _ _))
 have H6 : Hid (w.heap.size ≤ b3 + 1 + 1):=hyq (by omega)
 have HV:=hyq (hv.on HB.out)
 obtain ⟨er,her⟩:=nmq (openM l x.path)
 obtain ⟨y,hy⟩:=nmq ((getI l x.path).getD .nil)
 obtain ⟨b,hb⟩:=nmq ((getI l x.path).isSome)
 have HOP : Hid (Calls Tryz.prog 97 #[.agg #[v],.string ⟨x.path.toArray⟩] w1 fun e w' => e = .returned (.int .i64 er) ∧ Below w1.heap.size w1 w'):=hyq (ropen_any l v x.path w1 HV.out (by omega) hx er her.symm)
 have HG : Hid (∀ W,Below w1.heap.size w1 W → Calls Tryz.prog 73 #[.agg #[v],.string ⟨x.path.toArray⟩] W fun e w' => e = .returned (.tuple #[.agg #[.string ⟨y.path.toArray⟩,.int .i64 y.kind,.string ⟨y.data.toArray⟩],.bool b]) ∧ Below W.heap.size W w'):=hyq (fun W hW => rget_is l v x.path W (HV.out.on hW) (by omega) y b hy hb)
 have HWI : Hid (∀ W,Below w1.heap.size w1 W → Calls Tryz.prog 77 #[.agg #[v],.agg #[.string ⟨x.path.toArray⟩,.int .i64 x.kind,.string ⟨x.data.toArray⟩]] W fun e w' => ∃ v',e = .returned (.agg #[v']) ∧ OwnI w' W.heap.size v' (withR l x) ∧ Below W.heap.size W w'):=hyq (fun W hW => rwith_any l v x W (HV.out.on hW) hl hsz hx)
 have HE0 : Hid (er ≠ 0 → r = .error er):=hyq (fun h => by rw [← hr]; unfold makesR; rw [her] at h ⊢; rw [if_pos h])
 have HE1 : Hid (er = 0 → b = true → over = false → r = .error 5):=hyq (fun h h2 h3 => by
  rw [her] at h; rw [hb] at h2; rw [← hr]; unfold makesR
  rw [if_neg (not_not_intro h)]
  cases e : getI l x.path with
  | none => rw [e] at h2; cases h2
  | some z => simp [h3])
 have HE2 : Hid (er = 0 → b = true → over = true → r = if y.kind ≠ 2 then .error 161 else .ok (withR l x)):=hyq (fun h h2 h3 => by
  rw [her] at h; rw [hb] at h2; rw [← hr]; unfold makesR
  rw [if_neg (not_not_intro h)]
  cases e : getI l x.path with
  | none => rw [e] at h2; cases h2
  | some z => rw [e] at hy; subst hy; simp [h3])
 have HE3 : Hid (er = 0 → b = false → r = if l.length = 2000 then .error 6 else .ok (withR l x)):=hyq (fun h h2 => by
  rw [her] at h; rw [hb] at h2; rw [← hr]; unfold makesR
  rw [if_neg (not_not_intro h)]
  cases e : getI l x.path with
  | none => rfl
  | some z => rw [e] at h2; cases h2)
 obtain ⟨a,c,rfl,_⟩:=hv.open
 obtain ⟨n,hn⟩:=nmq (l.length)
 have HN:=hyq hn
 rw [← hn] at HV X3 HOP HG HWI hw1 ⊢
 have k0:=b24
 have HBE:=hyq hb3
 clear hv hy hb her hr hn hl hsz hx hb3
 have p0:=X3.out.cell (k:=0) rfl
 have p1 : w1.cell? ⟨b3 + 1,0,none⟩ = some (.string ⟨x.path.toArray⟩):=X4.out.cell (k:=0) rfl
 go_enter Tryz.func74,Tryz.ntmps74
 go_upto_region 1 with fail
 rw [← HBE.out,← hw1]
 clear hw1
 go_wp2_with fail
 clear p0 p1
 refine (HOP.out).mono ?_
 rintro e w2 ⟨rfl,hb⟩
 have HA:=hyq hb
 have hcar : Below w1.heap.size w1 w2:=hb
 have X3:=hyq (X3.out.on hcar)
 have X4:=hyq (X4.out.on hcar)
 have X6:=hyq (X6.out.on hcar)
 have HB:=hyq (bch HB.out hcar)
 clear hcar
 clear hb HOP
 by_cases he : er = 0
 ·subst he
  have p0:=X3.out.cell (k:=0) rfl
  have p1 : w2.cell? ⟨b3 + 1,0,none⟩ = some (.string ⟨x.path.toArray⟩):=X4.out.cell (k:=0) rfl
  go_wp2_with fail
  clear p0 p1
  refine ((HG.out w2 HA.out)).mono ?_
  rintro e w3 ⟨rfl,hb⟩
  obtain ⟨VE,hVE⟩:=nmq ((w3.alloc (.cells #[.string ⟨#[]⟩,.int .i64 0,.string ⟨#[]⟩] 59)).setRow w3.heap.size #[.string ⟨y.path.toArray⟩,.int .i64 y.kind,.string ⟨y.data.toArray⟩])
  obtain ⟨bE,hbE⟩:=nmq (w3.heap.size)
  have hnE : Below w3.heap.size w3 VE:=by rw [hVE]; exact below_row (below_new _ _) (Nat.le_refl _) _
  have XE : Hid (Box VE bE 59 #[.string ⟨y.path.toArray⟩,.int .i64 y.kind,.string ⟨y.data.toArray⟩]):=hyq (by rw [hVE,hbE]; exact box_new.row _)
  have HVE:=hyq hVE
  have HWE:=hyq hbE
  have hcar : Below w2.heap.size w2 VE:=bch hb hnE
  have X3:=hyq (X3.out.on hcar)
  have X4:=hyq (X4.out.on hcar)
  have X6:=hyq (X6.out.on hcar)
  have HB:=hyq (bch HB.out hcar)
  clear hcar
  have HAE:=hyq (bch HA.out (bch hb hnE))
  clear hb hnE HG
  cases b with
  | true =>
   cases over with
   | false =>
    have HD:=hyq (HE1.out (by trivial) rfl rfl)
    clear hVE hbE
    go_wp2_with (first | (refine wpList_store_row rfl 59 (.tmp 9) (.tmp 24) rfl w3.heap.size #[.string ⟨y.path.toArray⟩,.int .i64 y.kind,.string ⟨y.data.toArray⟩] rfl rfl 59 #[.string ⟨#[]⟩,.int .i64 0,.string ⟨#[]⟩] box_new info59r rfl (by simp [Value.oneCell']) ?_; rw [← HVE.out,← HWE.out]) | (refine wpList_store_row rfl 24 (.tmp 6) (.tmp 32) rfl (b3 + 1 + 1) #[.slice none 0 0] rfl rfl 24 _ X6.out (info24 _) rfl (slice_one _ _ _) ?_) | fail)
    exact bodyPost_ret (end_tree2 rfl _ (X6.out.row _) rfl rfl) rfl ⟨below_row HB.out H6.out _,.inl ⟨_,HD.out,rfl⟩⟩
   | true =>
    have HD0:=hyq (HE2.out (by trivial) rfl rfl)
    have p1:=XE.out.cell (k:=1) rfl
    by_cases hk : y.kind = 2
    ·have t1 : (y.kind == 2) = true:=by simp [hk]
     have t2 : (y.kind != 2) = false:=by simp [hk]
     have HD : Hid (r = .ok (withR l x)):=hyq (by rw [HD0.out,if_neg (not_not_intro hk)])
     rw [hk] at p1
     clear hk
     have p0:=X3.out.cell (k:=0) rfl
     have q0 : VE.cell? ⟨b3 + 1,0,none⟩ = some (.string ⟨x.path.toArray⟩):=X4.out.cell (k:=0) rfl
     have q1 : VE.cell? ⟨b3 + 1,1,none⟩ = some (.int .i64 x.kind):=X4.out.cell (k:=1) rfl
     have q2 : VE.cell? ⟨b3 + 1,2,none⟩ = some (.string ⟨x.data.toArray⟩):=X4.out.cell (k:=2) rfl
     clear hVE hbE
     go_wp2_with (first | (refine wpList_store_row rfl 59 (.tmp 9) (.tmp 24) rfl w3.heap.size #[.string ⟨y.path.toArray⟩,.int .i64 y.kind,.string ⟨y.data.toArray⟩] rfl rfl 59 #[.string ⟨#[]⟩,.int .i64 0,.string ⟨#[]⟩] box_new info59r rfl (by simp [Value.oneCell']) ?_; rw [← HVE.out,← HWE.out]) | fail)
     clear p0 q0 q1 q2
     refine (HWI.out VE HAE.out).mono ?_
     rintro e w5 ⟨v5,rfl,hO,hb⟩
     obtain ⟨a5,n5,c5,rfl⟩:=own_any hO
     have HO:=hyq hO
     have HB5:=hyq HB.out.size
     replace X6:=hyq (X6.out.on hb)
     replace HB:=hyq (bch HB.out hb)
     clear hb hO
     go_wp2_with (first | (refine wpList_store_row rfl 24 (.tmp 6) (.tmp 53) rfl (b3 + 1 + 1) #[.slice a5 n5 c5] rfl rfl 24 _ X6.out (info24 _) rfl (slice_one _ _ _) ?_) | fail)
     exact bodyPost_ret (end_tree2 rfl _ (X6.out.row _) rfl rfl) rfl ⟨below_row HB.out H6.out _,.inr ⟨_,_,HD.out,rfl,own_base (own_row HO.out X6.out) HB5.out⟩⟩
    ·have t1 : (y.kind == 2) = false:=by simp [hk]
     have t2 : (y.kind != 2) = true:=by simp [hk]
     have HD : Hid (r = .error 161):=hyq (by rw [HD0.out,if_pos hk])
     clear hk
     clear hVE hbE
     go_wp2_with (first | (refine wpList_store_row rfl 59 (.tmp 9) (.tmp 24) rfl w3.heap.size #[.string ⟨y.path.toArray⟩,.int .i64 y.kind,.string ⟨y.data.toArray⟩] rfl rfl 59 #[.string ⟨#[]⟩,.int .i64 0,.string ⟨#[]⟩] box_new info59r rfl (by simp [Value.oneCell']) ?_; rw [← HVE.out,← HWE.out]) | (refine wpList_store_row rfl 24 (.tmp 6) (.tmp 40) rfl (b3 + 1 + 1) #[.slice none 0 0] rfl rfl 24 _ X6.out (info24 _) rfl (slice_one _ _ _) ?_) | fail)
     exact bodyPost_ret (end_tree2 rfl _ (X6.out.row _) rfl rfl) rfl ⟨below_row HB.out H6.out _,.inl ⟨_,HD.out,rfl⟩⟩
  | false =>
   have HD0:=hyq (HE3.out (by trivial) rfl)
   have c0:=X3.out.cell (k:=0) rfl
   by_cases hn2 : l.length = 2000
   ·have hn3 : n = 2000:=by rw [HN.out]; exact hn2
    have t1 : ((n : Int) == 2000) = true:=by rw [hn3]; rfl
    have HD : Hid (r = .error 6):=hyq (by rw [HD0.out,if_pos hn2])
    clear hn2 hn3
    clear hVE hbE
    go_wp2_with (first | (refine wpList_store_row rfl 59 (.tmp 9) (.tmp 24) rfl w3.heap.size #[.string ⟨y.path.toArray⟩,.int .i64 y.kind,.string ⟨y.data.toArray⟩] rfl rfl 59 #[.string ⟨#[]⟩,.int .i64 0,.string ⟨#[]⟩] box_new info59r rfl (by simp [Value.oneCell']) ?_; rw [← HVE.out,← HWE.out]) | (refine wpList_store_row rfl 24 (.tmp 6) (.tmp 50) rfl (b3 + 1 + 1) #[.slice none 0 0] rfl rfl 24 _ X6.out (info24 _) rfl (slice_one _ _ _) ?_) | fail)
    exact bodyPost_ret (end_tree2 rfl _ (X6.out.row _) rfl rfl) rfl ⟨below_row HB.out H6.out _,.inl ⟨_,HD.out,rfl⟩⟩
   ·have hn3 : n ≠ 2000:=by rw [HN.out]; exact hn2
    have t1 : ((n : Int) == 2000) = false:=by simp; omega
    have HD : Hid (r = .ok (withR l x)):=hyq (by rw [HD0.out,if_neg hn2])
    clear hn2 hn3
    have p0:=X3.out.cell (k:=0) rfl
    have q0 : VE.cell? ⟨b3 + 1,0,none⟩ = some (.string ⟨x.path.toArray⟩):=X4.out.cell (k:=0) rfl
    have q1 : VE.cell? ⟨b3 + 1,1,none⟩ = some (.int .i64 x.kind):=X4.out.cell (k:=1) rfl
    have q2 : VE.cell? ⟨b3 + 1,2,none⟩ = some (.string ⟨x.data.toArray⟩):=X4.out.cell (k:=2) rfl
    clear hVE hbE
    go_wp2_with (first | (refine wpList_store_row rfl 59 (.tmp 9) (.tmp 24) rfl w3.heap.size #[.string ⟨y.path.toArray⟩,.int .i64 y.kind,.string ⟨y.data.toArray⟩] rfl rfl 59 #[.string ⟨#[]⟩,.int .i64 0,.string ⟨#[]⟩] box_new info59r rfl (by simp [Value.oneCell']) ?_; rw [← HVE.out,← HWE.out]) | fail)
    clear p0 q0 q1 q2
    refine (HWI.out VE HAE.out).mono ?_
    rintro e w5 ⟨v5,rfl,hO,hb⟩
    obtain ⟨a5,n5,c5,rfl⟩:=own_any hO
    have HO:=hyq hO
    have HB5:=hyq HB.out.size
    replace X6:=hyq (X6.out.on hb)
    replace HB:=hyq (bch HB.out hb)
    clear hb hO
    go_wp2_with (first | (refine wpList_store_row rfl 24 (.tmp 6) (.tmp 53) rfl (b3 + 1 + 1) #[.slice a5 n5 c5] rfl rfl 24 _ X6.out (info24 _) rfl (slice_one _ _ _) ?_) | fail)
    exact bodyPost_ret (end_tree2 rfl _ (X6.out.row _) rfl rfl) rfl ⟨below_row HB.out H6.out _,.inr ⟨_,_,HD.out,rfl,own_base (own_row HO.out X6.out) HB5.out⟩⟩
 ·have t1 : (er == 0) = false:=by simpa using he
  have t2 : (er != 0) = true:=by simpa using he
  have HD:=hyq (HE0.out he)
  clear he
  go_wp2_with (first | (refine wpList_store_row rfl 24 (.tmp 6) (.tmp 17) rfl (b3 + 1 + 1) #[.slice none 0 0] rfl rfl 24 _ X6.out (info24 _) rfl (slice_one _ _ _) ?_) | fail)
  exact bodyPost_ret (end_tree2 rfl _ (X6.out.row _) rfl rfl) rfl ⟨below_row HB.out H6.out _,.inl ⟨_,HD.out,rfl⟩⟩
end Go.Proofs.YtigopecainocgaaGreatDoor
