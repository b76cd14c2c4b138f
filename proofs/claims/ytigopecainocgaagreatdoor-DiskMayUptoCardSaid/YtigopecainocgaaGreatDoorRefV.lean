/- Proved here: Right of puncheonref06 says of a tree whether it may be, for every tree whose paths have at most two million letters each. -/
import Derived.Test.YtigopecainocgaaGreatDoorTK
import Derived.Test.YtigopecainocgaaGreatDoorNR
import Derived.Deep.RegionHeld
set_option maxRecDepth 100000
set_option maxHeartbeats 32000000
namespace Go.Proofs.YtigopecainocgaaGreatDoor
open Go.RowKit Go.Shelf
def OwnS (w : World) (B : Nat) (v : Value) (T : List Str) : Prop:=w.ownsRow B 9 1 v T.length (T.reverse.map encS)
theorem OwnS.pop {w : World} {B : Nat} {a : Option Addr} {n c : Nat} {t : Str} {r : List Str} (h : OwnS w B (.slice a n c) (t :: r)) : OwnS w B (.slice a r.length c) r:=by
 obtain ⟨h1,h2⟩:=h
 refine ⟨by simp,?_⟩
 rcases h2 with ⟨_,h3⟩ | ⟨g,cap,cur,hv,hg,hh,hn,hcap,hcs,htake⟩
 ·cases h3
 ·right
  injection hv with e1 e2 e3
  subst e1 e3
  refine ⟨g,c,cur,rfl,hg,hh,by rw [List.length_cons] at hn; omega,hcap,hcs,?_⟩
  have : cur.toList.take (r.length * 1) = (cur.toList.take ((t :: r).length * 1)).take (r.length * 1):=by
   rw [List.take_take,Nat.min_eq_left (by rw [List.length_cons]; omega)]
  rw [this,htake,List.reverse_cons,List.map_append,List.take_append_of_le_length (by simp),List.take_of_length_le (by simp)]
theorem OwnS.on {w w' : World} {B : Nat} {v : Value} {T : List Str} (h : OwnS w B v T) (hw : Below w.heap.size w w') : OwnS w' B v T:=by
 refine h.kept (row:=none) ⟨hw.os,hw.tape,hw.output,hw.size,fun k hk _ => hw.block k hk⟩ ?_
 cases e : v.ownBlock <;> simp
theorem OwnS.form {w : World} {B : Nat} {v : Value} {t : Str} {r : List Str} (h : OwnS w B v (t :: r)) : ∃ g c,v = .slice (some ⟨g,0,none⟩) (r.length + 1) c ∧ B ≤ g ∧ g < w.heap.size ∧ r.length + 1 ≤ c ∧ c ≤ maxLen ∧
  w.cell? ⟨g,r.length,none⟩ = some (.string ⟨t.toArray⟩):=by
 have h':=h
 rcases h.2 with ⟨_,h3⟩ | ⟨g,cap,cur,rfl,hg,hh,hn,hcap,hcs,htake⟩
 ·cases h3
 ·refine ⟨g,cap,rfl,hg,(h'.lt g rfl).2,hn,hcap,?_⟩
  have k:=World.ownsRow.cellAt (g:=g) (cap:=cap) h' r.length (by rw [List.length_cons]; omega)
  rw [k,List.reverse_cons,List.map_append,List.getElem?_append_right (by simp)]
  simp [encS]
theorem OwnS.slice {w : World} {B : Nat} {v : Value} {T : List Str} (h : OwnS w B v T) : ∃ a c,v = .slice a T.length c ∧ T.length ≤ c ∧ c ≤ maxLen:=by
 rcases h.2 with ⟨h2,h3⟩ | ⟨g,cap,cur,rfl,hg,hh,hn,hcap,hcs,htake⟩
 ·exact ⟨none,0,by rw [h2,h3],by omega,Nat.zero_le _⟩
 ·exact ⟨_,cap,rfl,hn,hcap⟩
theorem OwnS.blk {w : World} {B : Nat} {v : Value} {T : List Str} (h : OwnS w B v T) : ∀ q,v.ownBlock = some q → B ≤ q:=by
 intro q hq
 rcases h.2 with ⟨rfl,_⟩ | ⟨g,cap,cur,rfl,hg,_⟩
 ·simp [Value.ownBlock] at hq
 ·simp [Value.ownBlock] at hq; omega
theorem OwnS.push {w : World} {B : Nat} {v : Value} {T : List Str} {p : Str} (h : w.ownsRow B 9 1 v (T.length + 1) (T.reverse.map encS ++ [.string ⟨p.toArray⟩])) : OwnS w B v (p :: T):=by
 unfold OwnS
 rw [List.length_cons,List.reverse_cons,List.map_append]
 exact h
theorem chain_snoc (A : List It) (y x : It) : chainR (A ++ [y,x]) = (chainR (A ++ [y]) && decide (cmpL y.path x.path < 0)):=by
 induction A with
 | nil => simp [chainR]
 | cons a A ih =>
  cases A with
  | nil => simp [chainR]
  | cons b A =>
   simp only [List.cons_append,chainR] at ih ⊢
   rw [ih,Bool.and_assoc]
theorem take_one {l : List It} {k : Nat} {x : It} (h : l[k]? = some x) : l.take (k + 1) = l.take k ++ [x]:=by
 rw [List.take_add_one,h]; rfl
theorem chain_take {l : List It} {k : Nat} {y x : It} (hy : l[k]? = some y) (hx : l[k + 1]? = some x) : chainR (l.take (k + 2)) = (chainR (l.take (k + 1)) && decide (cmpL y.path x.path < 0)):=by
 rw [take_one hx,take_one hy,List.append_assoc]
 exact chain_snoc _ _ _
theorem chain_not {l : List It} {k : Nat} {y x : It} (hy : l[k]? = some y) (hx : l[k + 1]? = some x) (h : ¬ cmpL y.path x.path < 0) : rightR l = false:=by
 cases e : rightR l with
 | false => rfl
 | true =>
  unfold rightR at e
  rw [Bool.and_eq_true,Bool.and_eq_true,Bool.and_eq_true,chain_pair] at e
  obtain ⟨h1,rfl⟩:=List.getElem?_eq_some_iff.1 hy
  obtain ⟨h2,rfl⟩:=List.getElem?_eq_some_iff.1 hx
  exact absurd (List.pairwise_iff_getElem.1 e.2.1.2 k (k + 1) h1 h2 (Nat.lt_succ_self k)) h
theorem item_not {l : List It} {k : Nat} {x : It} (hx : l[k]? = some x) (h : rightI x = false) : rightR l = false:=by
 cases e : rightR l with
 | false => rfl
 | true =>
  unfold rightR at e
  rw [Bool.and_eq_true,Bool.and_eq_true,Bool.and_eq_true,List.all_eq_true] at e
  rw [e.2.1.1 x (List.mem_of_getElem? hx)] at h
  cases h
theorem run2_dead (l m : List It) (h : run2 l = none) : run2 (l ++ m) = none:=by
 unfold run2 at *
 rw [List.foldl_append,h]
 induction m with
 | nil => rfl
 | cons a m ih => simpa using ih
theorem run2_not {l : List It} {k : Nat} (h : run2 (l.take k) = none) : rightR l = false:=by
 have:=run2_dead _ (l.drop k) h
 rw [List.take_append_drop] at this
 unfold rightR
 rw [this]
 simp
theorem run2_take {l : List It} {k : Nat} {x : It} {T : List Str} (hx : l[k]? = some x) (h : run2 (l.take k) = some T) : run2 (l.take (k + 1)) = step2 T x:=by
 rw [take_one hx,run2_snoc,h]; rfl
theorem pop_cons_ne {t u : Str} {r : List Str} (h : t ≠ u) : popR (t :: r) u = popR r u:=by
 unfold popR
 rw [List.dropWhile_cons,if_pos (by simp [h])]
theorem pop_cons_eq {t u : Str} {r : List Str} (h : t = u) : popR (t :: r) u = t :: r:=by
 unfold popR
 rw [List.dropWhile_cons,if_neg (by simp [h])]
theorem rtree_any (l : List It) (v : Value) (w : World) (hv : RdI w v l) (hsz : ∀ x ∈ l,x.path.length ≤ 2000000) : Calls Tryz.prog 15 #[.agg #[v]] w fun e w' => e = .returned (.bool (validT l)) ∧ Below w.heap.size w w':=by
 rw [← right_is]
 obtain ⟨w1,hw1⟩:=nmq (w.alloc (.cells #[v] 24))
 have X : Hid (Box w1 w.heap.size 24 #[v]):=hyq (by rw [hw1]; exact box_new)
 have HB1 : Hid (Below w.heap.size w w1):=hyq (by rw [hw1]; exact below_new _ _)
 have HV:=hyq (hv.on HB1.out)
 obtain ⟨a,c,rfl,hlc,hcm,_⟩:=hv.open
 obtain ⟨n,hn⟩:=nmq (l.length)
 rw [← hn] at HV X hlc hw1 ⊢
 have HN:=hyq hn
 have HSZ:=hyq hsz
 have c0:=X.out.cell (k:=0) rfl
 clear hv hn hsz
 go_enter Tryz.func15,Tryz.ntmps15
 go_upto_region 1 with fail
 rw [← hw1]
 clear hw1
 by_cases h2 : n ≤ 2000
 ·have e4 : decide ((n : Int) > 2000) = false:=decide_eq_false (by omega)
  unfold maxLen at hcm
  go_wp2_with fail
  clear c0 e4
  go_loopw [16] (fun i W => ∃ k : Nat,k ≤ n ∧ i = .int .i64 k ∧ Hid ((l.take k).all rightI = true ∧ chainR (l.take k) = true) ∧ Hid (Below w1.heap.size w1 W)) (fun i _ => n - (Lib.intOf i).toNat)
  case atStart => exact ⟨0,Nat.zero_le _,rfl,hyq ⟨rfl,rfl⟩,hyq (Below.refl _ _)⟩
  case round =>
   obtain ⟨k,hk,rfl,HP,HBk⟩:=hrel
   obtain ⟨wq,hwq⟩:=nmq (wr)
   rw [← hwq] at HBk ⊢
   clear hwq
   by_cases hlt : k < n
   ·obtain ⟨x,hx⟩ : ∃ x,l[k]? = some x:=⟨_,List.getElem?_eq_getElem (by rw [← HN.out]; exact hlt)⟩
    obtain ⟨a',c',e,_,_,hc⟩:=(HV.out.on HBk.out).open
    rw [← HN.out] at e
    cases e
    obtain ⟨g,o,rfl,hg,hc⟩:=hc (by rw [← HN.out]; omega)
    obtain ⟨q0,q1,q2⟩:=hc k x hx
    have k1 : (k : Int) < (n : Int):=by omega
    have k2 : (0 : Int) ≤ (k : Int):=by omega
    have k4 : IntKind.i64.wrap ((k : Int) + 1) = (k : Int) + 1:=IntWalk.i64_in _ (by omega)
    obtain ⟨w5,hw5⟩:=nmq (wq.alloc (.cells #[.string ⟨x.path.toArray⟩,.int .i64 x.kind,.string ⟨x.data.toArray⟩] 59))
    have hb5 : Below wq.heap.size wq w5:=by rw [hw5]; exact below_new _ _
    have HX5 : Hid (Box w5 wq.heap.size 59 x.arr):=hyq (by rw [hw5]; exact box_new)
    have HB5 : Hid (Below w1.heap.size w1 w5):=hyq (bch HBk.out hb5)
    have HIA : Hid (∀ (j : Nat) (y : It),l[j]? = some y → IAt w5 g (o + j * 3) y):=hyq (fun j y hj => (hc j y hj).on hg hb5)
    have HG5 : Hid (g < w5.heap.size):=hyq (Nat.lt_of_lt_of_le hg hb5.size)
    have X15 : Hid (Box w5 w.heap.size 24 #[.slice (some ⟨g,o,none⟩) n c]):=hyq (X.out.on HB5.out)
    obtain ⟨ri,hri⟩:=nmq (rightI x)
    have HRI : Hid (∀ W,Calls Tryz.prog 33 #[.agg #[.string ⟨x.path.toArray⟩,.int .i64 x.kind,.string ⟨x.data.toArray⟩]] W fun e w' => e = .returned (.bool ri) ∧ Below W.heap.size W w'):=hyq (fun W => by rw [hri]; exact rightitem_at x (HSZ.out x (List.mem_of_getElem? hx)) _ rfl W)
    have HRX:=hyq hri
    have HX:=hyq hx
    clear hc hx hri hb5 hg
    go_upto_region 6 with fail
    obtain ⟨b7,hb7⟩:=nmq (wq.heap.size)
    rw [← hb7] at HX5 ⊢
    rw [← hw5]
    clear hw5 hb7 q0 q1 q2 HBk
    obtain ⟨v0,hv0⟩:=nmq (World.drew w5)
    refine wp_region_held_drew (S:=fun w' => Below w5.heap.size w5 w') (by kernel_rfl) (Below.refl _ _).drew (fun hH => ?_)
    rw [← hv0] at hH ⊢
    clear hv0
    cases ri with
    | false =>
     have HR : Hid (rightR l = false):=hyq (item_not HX.out HRX.out.symm)
     refine tkf 0 rfl (fun w hSw => by obtain ⟨d0,d1,d2⟩:=(HX5.out.on hSw).it; go_simp; try with_reducible rfl) hH ?_; try go_frame
     refine rd1 1 (fun K hK => ?_)
     ·go_simp
      refine (HRI.out _).mono ?_
      rintro e v101 ⟨rfl,hba⟩
      refine hK.out _ _ (bch hH hba) (fun hH => ?_)
      clear hba
      try go_frame
      refine tk 2 hH ?_; try go_frame
      refine tk 3 hH ?_; try go_frame
      refine tku 4 hH ?_; try go_frame
      refine tku 5 hH ?_; try go_frame
      refine tku 6 hH ?_; try go_frame
      refine tku 7 hH ?_; try go_frame
      refine tku 8 hH ?_; try go_frame
      refine tku 9 hH ?_; try go_frame
      refine tku 10 hH ?_; try go_frame
      refine tku 11 hH ?_; try go_frame
      refine tku 12 hH ?_; try go_frame
      refine tku 13 hH ?_; try go_frame
      refine tku 14 hH ?_; try go_frame
      refine tku 15 hH ?_; try go_frame
      refine tku 16 hH ?_; try go_frame
      refine tku 17 hH ?_; try go_frame
      refine tku 18 hH ?_; try go_frame
      refine tk 19 hH ?_; try go_frame
      refine wpAnyH_done (by kernel_rfl) ?_ _
      have HD:=hyq hH
      clear hH
      go_wp2_with fail
      go_ret
      exact ⟨retb HR.out.symm,bch HB1.out (bch HB5.out HD.out)⟩
    | true =>
     obtain hk0 | ⟨j,hkj⟩ : k = 0 ∨ ∃ j,k = j + 1:=by cases k with | zero => exact .inl rfl | succ j => exact .inr ⟨j,rfl⟩
     ·have kp : decide ((k : Int) > 0) = false:=decide_eq_false (by omega)
      have kz : ¬ 0 < k:=by omega
      have HP2 : Hid ((l.take (k + 1)).all rightI = true ∧ chainR (l.take (k + 1)) = true):=hyq (by
       rw [take_one HX.out,hk0]
       exact ⟨by simp [← HRX.out],rfl⟩)
      clear hk0
      refine tkf 0 rfl (fun w hSw => by obtain ⟨d0,d1,d2⟩:=(HX5.out.on hSw).it; go_simp; try with_reducible rfl) hH ?_; try go_frame
      refine rd1 1 (fun K hK => ?_)
      ·go_simp
       refine (HRI.out _).mono ?_
       rintro e v101 ⟨rfl,hba⟩
       refine hK.out _ _ (bch hH hba) (fun hH => ?_)
       clear hba
       try go_frame
       refine tk 2 hH ?_; try go_frame
       refine tk 3 hH ?_; try go_frame
       refine tk 4 hH ?_; try go_frame
       refine tk 5 hH ?_; try go_frame
       refine tk 6 hH ?_; try go_frame
       refine tku 7 hH ?_; try go_frame
       refine tku 8 hH ?_; try go_frame
       refine tku 9 hH ?_; try go_frame
       refine tku 10 hH ?_; try go_frame
       refine tku 11 hH ?_; try go_frame
       refine tku 12 hH ?_; try go_frame
       refine tku 13 hH ?_; try go_frame
       refine tku 14 hH ?_; try go_frame
       refine tku 15 hH ?_; try go_frame
       refine tku 16 hH ?_; try go_frame
       refine tku 17 hH ?_; try go_frame
       refine tk 18 hH ?_; try go_frame
       refine tk 19 hH ?_; try go_frame
       refine wpAnyH_done (by kernel_rfl) ?_ _
       have HD:=hyq hH
       clear hH
       go_wp2_with fail
       go_roundw
       case rel => exact ⟨k + 1,hlt,by go_num,HP2,hyq (bch HB5.out HD.out)⟩
       case measure => simp [Lib.intOf]; omega
     ·obtain ⟨y,hy⟩ : ∃ y,l[j]? = some y:=⟨_,List.getElem?_eq_getElem (by rw [← HN.out]; omega)⟩
      have kp : decide ((k : Int) > 0) = true:=decide_eq_true (by omega)
      have kz : 0 < k:=by omega
      have ks : IntKind.i64.wrap ((k : Int) - 1) = (j : Int):=by rw [show (k : Int) - 1 = (j : Int) by omega]; exact IntWalk.i64_in _ (by omega)
      have j1 : (j : Int) < (n : Int):=by omega
      have j2 : (0 : Int) ≤ (j : Int):=by omega
      have HY:=hyq hy
      have HKJ:=hyq hkj
      obtain ⟨cm,hcm2⟩:=nmq (cmpL y.path x.path)
      have HCM : Hid (∀ W,Calls Tryz.prog 34 #[.string ⟨y.path.toArray⟩,.string ⟨x.path.toArray⟩] W fun e w' => e = .returned (.int .i64 cm) ∧ Below W.heap.size W w'):=hyq (fun W => by rw [hcm2]; exact rcmp_any ⟨y.path.toArray⟩ ⟨x.path.toArray⟩ (HSZ.out y (List.mem_of_getElem? hy)) (HSZ.out x (List.mem_of_getElem? HX.out)) W)
      have HCX:=hyq hcm2
      clear hy hkj hcm2
      obtain ⟨bd,hbd⟩ : ∃ b : Bool,decide (cm ≥ 0) = b:=⟨_,rfl⟩
      cases bd with
      | true =>
       have HR : Hid (rightR l = false):=hyq (chain_not HY.out (by rw [← HKJ.out]; exact HX.out) (by have:=of_decide_eq_true hbd; rw [← HCX.out]; omega))
       refine tkf 0 rfl (fun w hSw => by obtain ⟨d0,d1,d2⟩:=(HX5.out.on hSw).it; go_simp; try with_reducible rfl) hH ?_; try go_frame
       refine rd1 1 (fun K hK => ?_)
       ·go_simp
        refine (HRI.out _).mono ?_
        rintro e v101 ⟨rfl,hba⟩
        refine hK.out _ _ (bch hH hba) (fun hH => ?_)
        clear hba
        try go_frame
        refine tk 2 hH ?_; try go_frame
        refine tk 3 hH ?_; try go_frame
        refine tk 4 hH ?_; try go_frame
        refine tk 5 hH ?_; try go_frame
        refine tk 6 hH ?_; try go_frame
        refine tk 7 hH ?_; try go_frame
        refine tkf 8 rfl (fun w hSw => by have p0:=(X15.out.on hSw).cell (k:=0) rfl; go_simp; try with_reducible rfl) hH ?_; try go_frame
        refine tk 9 hH ?_; try go_frame
        refine tk 10 hH ?_; try go_frame
        refine tk 11 hH ?_; try go_frame
        refine tk 12 hH ?_; try go_frame
        refine tkf 13 rfl (fun w hSw => by obtain ⟨d0,_,_⟩:=(HIA.out j y HY.out).on HG5.out hSw; go_simp; try with_reducible rfl) hH ?_; try go_frame
        refine tk 14 hH ?_; try go_frame
        refine tkf 15 rfl (fun w hSw => by obtain ⟨d0,d1,d2⟩:=(HX5.out.on hSw).it; go_simp; try with_reducible rfl) hH ?_; try go_frame
        refine rd1 16 (fun K hK => ?_)
        ·go_simp
         refine (HCM.out _).mono ?_
         rintro e v102 ⟨rfl,hba⟩
         refine hK.out _ _ (bch hH hba) (fun hH => ?_)
         clear hba
         try go_frame
         refine tk 17 hH ?_; try go_frame
         refine tk 18 hH ?_; try go_frame
         refine tk 19 hH ?_; try go_frame
         refine wpAnyH_done (by kernel_rfl) ?_ _
         have HD:=hyq hH
         clear hH
         go_wp2_with fail
         go_ret
         exact ⟨retb HR.out.symm,bch HB1.out (bch HB5.out HD.out)⟩
      | false =>
       have HP2 : Hid ((l.take (k + 1)).all rightI = true ∧ chainR (l.take (k + 1)) = true):=hyq (by
        have h9:=HX.out
        have h8:=HP.out
        have h7:=of_decide_eq_false hbd
        refine ⟨by rw [take_one h9,List.all_append,h8.1]; simp [← HRX.out],?_⟩
        rw [HKJ.out] at h9 h8 ⊢
        rw [chain_take HY.out h9,h8.2,decide_eq_true (by rw [← HCX.out]; omega)]; rfl)
       refine tkf 0 rfl (fun w hSw => by obtain ⟨d0,d1,d2⟩:=(HX5.out.on hSw).it; go_simp; try with_reducible rfl) hH ?_; try go_frame
       refine rd1 1 (fun K hK => ?_)
       ·go_simp
        refine (HRI.out _).mono ?_
        rintro e v101 ⟨rfl,hba⟩
        refine hK.out _ _ (bch hH hba) (fun hH => ?_)
        clear hba
        try go_frame
        refine tk 2 hH ?_; try go_frame
        refine tk 3 hH ?_; try go_frame
        refine tk 4 hH ?_; try go_frame
        refine tk 5 hH ?_; try go_frame
        refine tk 6 hH ?_; try go_frame
        refine tk 7 hH ?_; try go_frame
        refine tkf 8 rfl (fun w hSw => by have p0:=(X15.out.on hSw).cell (k:=0) rfl; go_simp; try with_reducible rfl) hH ?_; try go_frame
        refine tk 9 hH ?_; try go_frame
        refine tk 10 hH ?_; try go_frame
        refine tk 11 hH ?_; try go_frame
        refine tk 12 hH ?_; try go_frame
        refine tkf 13 rfl (fun w hSw => by obtain ⟨d0,_,_⟩:=(HIA.out j y HY.out).on HG5.out hSw; go_simp; try with_reducible rfl) hH ?_; try go_frame
        refine tk 14 hH ?_; try go_frame
        refine tkf 15 rfl (fun w hSw => by obtain ⟨d0,d1,d2⟩:=(HX5.out.on hSw).it; go_simp; try with_reducible rfl) hH ?_; try go_frame
        refine rd1 16 (fun K hK => ?_)
        ·go_simp
         refine (HCM.out _).mono ?_
         rintro e v102 ⟨rfl,hba⟩
         refine hK.out _ _ (bch hH hba) (fun hH => ?_)
         clear hba
         try go_frame
         refine tk 17 hH ?_; try go_frame
         refine tk 18 hH ?_; try go_frame
         refine tk 19 hH ?_; try go_frame
         refine wpAnyH_done (by kernel_rfl) ?_ _
         have HD:=hyq hH
         clear hH
         go_wp2_with fail
         go_roundw
         case rel => exact ⟨k + 1,hlt,by go_num,HP2,hyq (bch HB5.out HD.out)⟩
         case measure => simp [Lib.intOf]; omega
   ·have hkn : k = n:=by omega
    have k1 : ¬ ((k : Int) < (n : Int)):=by omega
    have HALL : Hid (l.all rightI = true ∧ chainR l = true):=hyq (by
     have:=HP.out
     rw [List.take_of_length_le (by have:=HN.out; omega)] at this
     exact this)
    have p0:=(X.out.on HBk.out).cell (k:=0) rfl
    have OS0 : Hid (OwnS wq w1.heap.size (.slice none 0 0) []):=hyq (World.ownsRow_nil _ _ _ _)
    clear HP hkn
    go_wp2_with fail
    clear p0 k1
    obtain ⟨i0,hi,hz0,hz1,hz2⟩:=info_parts info9
    go_loopw [5,45] (fun s i W => ∃ (k : Nat) (T : List Str),k ≤ n ∧ i = .int .i64 k ∧ Hid (T.length ≤ k) ∧ Hid (run2 (l.take k) = some T) ∧ Hid (OwnS W w1.heap.size s T) ∧ Hid (Below w1.heap.size w1 W)) (fun s i _ => n - (Lib.intOf i).toNat)
    case atStart => exact ⟨0,[],Nat.zero_le _,rfl,hyq (Nat.le_refl 0),hyq rfl,OS0,HBk⟩
    case round =>
     clear OS0 HBk
     obtain ⟨k,T,hk,rfl,HTK,HRN,HO,HBk⟩:=hrel
     obtain ⟨wq,hwq⟩:=nmq (wr)
     rw [← hwq] at HBk HO ⊢
     clear hwq
     obtain ⟨a3,c3,rfl,_,_⟩:=HO.out.slice
     by_cases hlt : k < n
     ·obtain ⟨x,hx⟩ : ∃ x,l[k]? = some x:=⟨_,List.getElem?_eq_getElem (by rw [← HN.out]; exact hlt)⟩
      obtain ⟨a',c',e,_,_,hc⟩:=(HV.out.on HBk.out).open
      rw [← HN.out] at e
      cases e
      obtain ⟨g,o,rfl,hg,hc⟩:=hc (by rw [← HN.out]; omega)
      obtain ⟨q0,q1,q2⟩:=hc k x hx
      have k1 : (k : Int) < (n : Int):=by omega
      have k2 : (0 : Int) ≤ (k : Int):=by omega
      have k4 : IntKind.i64.wrap ((k : Int) + 1) = (k : Int) + 1:=IntWalk.i64_in _ (by omega)
      obtain ⟨w5,hw5⟩:=nmq (wq.alloc (.cells #[.string ⟨x.path.toArray⟩,.int .i64 x.kind,.string ⟨x.data.toArray⟩] 59))
      have hb5 : Below wq.heap.size wq w5:=by rw [hw5]; exact below_new _ _
      have HX5 : Hid (Box w5 wq.heap.size 59 x.arr):=hyq (by rw [hw5]; exact box_new)
      have HB5 : Hid (Below w1.heap.size w1 w5):=hyq (bch HBk.out hb5)
      have HO5 : Hid (OwnS w5 w1.heap.size (.slice a3 T.length c3) T):=hyq (HO.out.on hb5)
      obtain ⟨u,hu⟩:=nmq (upL x.path)
      have HU:=hyq hu
      have HUP : Hid (Calls Tryz.prog 35 #[.string ⟨x.path.toArray⟩] w5 fun e w' => e = .returned (.string ⟨u.toArray⟩) ∧ Below w5.heap.size w5 w'):=hyq (by
       rw [hu]; exact rup_any ⟨x.path.toArray⟩ (HSZ.out x (List.mem_of_getElem? hx)) w5)
      have HX:=hyq hx
      obtain ⟨tl,htl⟩:=nmq (T.length)
      rw [← htl] at HO5 ⊢
      clear hc hx hu hb5 hg htl HO
      go_upto_region 13 with fail
      obtain ⟨b7,hb7⟩:=nmq (wq.heap.size)
      rw [← hb7] at HX5 ⊢
      rw [← hw5]
      clear hw5 hb7 q0 q1 q2 HBk
      have d0:=HX5.out.it.c0
      go_wp2_with fail
      refine HUP.out.mono ?_
      rintro e w6 ⟨rfl,hb⟩
      have HX6:=hyq (HX5.out.on hb)
      have HO6:=hyq (HO5.out.on hb)
      have HB6:=hyq (bch HB5.out hb)
      clear hb HX5 HO5 HB5 HUP d0
      go_wp2_with fail
      go_loopw [5] (fun s W => ∃ T' : List Str,Hid (T'.length ≤ k) ∧ Hid (popR T u = popR T' u) ∧ Hid (OwnS W w1.heap.size s T') ∧ W = w6) (fun s _ => match s with | .slice _ n _ => n | _ => 0)
      case atStart => exact ⟨T,HTK,hyq rfl,HO6,rfl⟩
      case round =>
       clear HO6
       obtain ⟨T',HTL,HPO,HO6,hwr⟩:=hrel
       rw [hwr] at HO6 ⊢
       clear hwr
       obtain ⟨d0,d1,d2⟩:=HX6.out.it
       cases T' with
       | nil =>
        obtain ⟨a4,c4,rfl,_,hc4⟩:=HO6.out.slice
        have HPE : Hid (popR T u = []):=hyq HPO.out
        have HOF : Hid (w6.ownsRow w1.heap.size 9 1 (.slice a4 0 c4) 0 (([] : List Str).reverse.map encS)):=hyq HO6.out
        have HBQ:=hyq HO6.out.blk
        rw [List.length_nil] at HBQ ⊢
        by_cases h47 : u = [47]
        ·have t7 : (u == [47]) = true:=by simp [h47]
         have HST : Hid (run2 (l.take (k + 1)) = some (if x.kind = 1 then [x.path] else [])):=hyq (by
          rw [run2_take HX.out HRN.out]; unfold step2
          rw [← HU.out,HPE.out,if_neg (by simp [h47])])
         clear h47
         by_cases hk1 : x.kind = 1
         ·have t1 : (x.kind == 1) = true:=by simp [hk1]
          have HRY : Hid (run2 (l.take (k + 1)) = some (x.path :: [])):=hyq (by rw [HST.out,if_pos hk1])
          have hws : w1.heap.size ≤ w6.heap.size:=HB6.out.size
          have HLN : Hid ([x.path].length ≤ k + 1):=hyq (by simp)
          clear hk1
          go_wp2_with (at_builtin; refine wpList_append_own _ rfl _ _ 69 rfl w1.heap.size 9 i0 (.string ⟨#[]⟩) 1 16 Tryz.underlying69 hi hz0 hz1 hz2 rfl (by decide) _ _ _ rfl (HOF.out.alloc _) ⟨w6.heap.size,0,none⟩ 1 1 [.string ⟨x.path.toArray⟩] rfl rfl (cell_one_new _ _ _) (by simp [Value.oneCell']) (by unfold maxLen; omega) (by omega) (by simp; omega) ?_)
          intro v9 w9 hown9 hgrow9 _
          have HO9 : Hid (OwnS w9 w1.heap.size v9 (x.path :: [])):=hyq (OwnS.push (T:=[]) (by  simpa using hown9))
          have HB9 : Hid (Below w1.heap.size w1 w9):=hyq ((HB6.out.alloc hws _).grown hgrow9 (by simp; omega) HBQ.out)
          clear hown9 hgrow9
          go_wp2_with fail
          go_roundw
          case rel => exact ⟨k + 1,_,hlt,by go_num,HLN,HRY,HO9,HB9⟩
          case measure => simp [Lib.intOf]; omega
         ·have t1 : (x.kind == 1) = false:=by simp [hk1]
          have HRY : Hid (run2 (l.take (k + 1)) = some ([])):=hyq (by rw [HST.out,if_neg hk1])
          have HLN : Hid (([] : List Str).length ≤ k + 1):=hyq (Nat.zero_le _)
          clear hk1
          go_wp2_with fail
          go_roundw
          case rel => exact ⟨k + 1,_,hlt,by go_num,HLN,HRY,HO6,HB6⟩
          case measure => simp [Lib.intOf]; omega
        ·have t7 : (u == [47]) = false:=by simp [h47]
         have HR : Hid (rightR l = false):=hyq (run2_not (k:=k + 1) (by
          rw [run2_take HX.out HRN.out]; unfold step2
          rw [← HU.out,HPE.out,if_pos ⟨h47,rfl⟩]))
         clear h47
         go_wp2_with fail
         go_ret
         exact ⟨retb HR.out.symm,bch HB1.out HB6.out⟩
       | cons t r =>
        obtain ⟨g4,c4,rfl,hgB,hg4,hrc,hcm4,f0⟩:=HO6.out.form
        obtain ⟨m,hm⟩:=nmq (r.length)
        have HM:=hyq hm
        rw [← hm] at HO6 hrc f0 ⊢
        unfold maxLen at hcm4
        have m1 : IntKind.i64.wrap ((m : Int) + 1 - 1) = (m : Int):=by rw [show (m : Int) + 1 - 1 = (m : Int) by omega]; exact IntWalk.i64_in _ (by omega)
        have m2 : decide ((m : Int) + 1 > 0) = true:=decide_eq_true (by omega)
        have m3 : (0 : Int) < (m : Int) + 1:=by omega
        have m4 : (0 : Int) ≤ (m : Int):=by omega
        have m9 : m + 1 ≤ 2000:=by have:=HTL.out; rw [List.length_cons,← HM.out] at this; omega
        clear hm
        by_cases ht : t = u
        ·have t6 : (t == u) = true:=by simp [ht]
         have HPE : Hid (popR T u = t :: r):=hyq (by rw [HPO.out,pop_cons_eq ht])
         have HST : Hid (run2 (l.take (k + 1)) = some (if x.kind = 1 then x.path :: t :: r else t :: r)):=hyq (by
          rw [run2_take HX.out HRN.out]; unfold step2
          rw [← HU.out,HPE.out,if_neg (fun h => by cases h.2)])
         have HOF : Hid (w6.ownsRow w1.heap.size 9 1 (.slice (some ⟨g4,0,none⟩) (m + 1) c4) (m + 1) ((t :: r).reverse.map encS)):=hyq (by
          have:=HO6.out
          unfold OwnS at this
          rw [List.length_cons,← HM.out] at this
          exact this)
         have HBQ:=hyq HO6.out.blk
         have m5 : ((m : Int) + 1 == 0) = false:=by simp; omega
         have m6 : (m : Int) + 1 ≠ 0:=by omega
         clear ht
         cases t7 : (u == [47])
         ·clear m5 m6
          by_cases hk1 : x.kind = 1
          ·have t1 : (x.kind == 1) = true:=by simp [hk1]
           have HRY : Hid (run2 (l.take (k + 1)) = some (x.path :: t :: r)):=hyq (by rw [HST.out,if_pos hk1])
           have hws : w1.heap.size ≤ w6.heap.size:=HB6.out.size
           have HLN : Hid ((x.path :: (t :: r)).length ≤ k + 1):=hyq (Nat.succ_le_succ HTL.out)
           clear hk1
           go_wp2_with (at_builtin; refine wpList_append_own _ rfl _ _ 69 rfl w1.heap.size 9 i0 (.string ⟨#[]⟩) 1 16 Tryz.underlying69 hi hz0 hz1 hz2 rfl (by decide) _ _ _ rfl (HOF.out.alloc _) ⟨w6.heap.size,0,none⟩ 1 1 [.string ⟨x.path.toArray⟩] rfl rfl (cell_one_new _ _ _) (by simp [Value.oneCell']) (by unfold maxLen; omega) (by omega) (by simp; omega) ?_)
           intro v9 w9 hown9 hgrow9 _
           have HO9 : Hid (OwnS w9 w1.heap.size v9 (x.path :: t :: r)):=hyq (OwnS.push (T:=t :: r) (by rw [List.length_cons,← HM.out]; simpa using hown9))
           have HB9 : Hid (Below w1.heap.size w1 w9):=hyq ((HB6.out.alloc hws _).grown hgrow9 (by simp; omega) HBQ.out)
           clear hown9 hgrow9
           go_wp2_with fail
           go_roundw
           case rel => exact ⟨k + 1,_,hlt,by go_num,HLN,HRY,HO9,HB9⟩
           case measure => simp [Lib.intOf]; omega
          ·have t1 : (x.kind == 1) = false:=by simp [hk1]
           have HRY : Hid (run2 (l.take (k + 1)) = some (t :: r)):=hyq (by rw [HST.out,if_neg hk1])
           have HLN : Hid ((t :: r).length ≤ k + 1):=hyq (Nat.le_succ_of_le HTL.out)
           clear hk1
           go_wp2_with fail
           go_roundw
           case rel => exact ⟨k + 1,_,hlt,by go_num,HLN,HRY,HO6,HB6⟩
           case measure => simp [Lib.intOf]; omega
         ·by_cases hk1 : x.kind = 1
          ·have t1 : (x.kind == 1) = true:=by simp [hk1]
           have HRY : Hid (run2 (l.take (k + 1)) = some (x.path :: t :: r)):=hyq (by rw [HST.out,if_pos hk1])
           have hws : w1.heap.size ≤ w6.heap.size:=HB6.out.size
           have HLN : Hid ((x.path :: (t :: r)).length ≤ k + 1):=hyq (Nat.succ_le_succ HTL.out)
           clear hk1
           go_wp2_with (at_builtin; refine wpList_append_own _ rfl _ _ 69 rfl w1.heap.size 9 i0 (.string ⟨#[]⟩) 1 16 Tryz.underlying69 hi hz0 hz1 hz2 rfl (by decide) _ _ _ rfl (HOF.out.alloc _) ⟨w6.heap.size,0,none⟩ 1 1 [.string ⟨x.path.toArray⟩] rfl rfl (cell_one_new _ _ _) (by simp [Value.oneCell']) (by unfold maxLen; omega) (by omega) (by simp; omega) ?_)
           intro v9 w9 hown9 hgrow9 _
           have HO9 : Hid (OwnS w9 w1.heap.size v9 (x.path :: t :: r)):=hyq (OwnS.push (T:=t :: r) (by rw [List.length_cons,← HM.out]; simpa using hown9))
           have HB9 : Hid (Below w1.heap.size w1 w9):=hyq ((HB6.out.alloc hws _).grown hgrow9 (by simp; omega) HBQ.out)
           clear hown9 hgrow9
           go_wp2_with fail
           go_roundw
           case rel => exact ⟨k + 1,_,hlt,by go_num,HLN,HRY,HO9,HB9⟩
           case measure => simp [Lib.intOf]; omega
          ·have t1 : (x.kind == 1) = false:=by simp [hk1]
           have HRY : Hid (run2 (l.take (k + 1)) = some (t :: r)):=hyq (by rw [HST.out,if_neg hk1])
           have HLN : Hid ((t :: r).length ≤ k + 1):=hyq (Nat.le_succ_of_le HTL.out)
           clear hk1
           go_wp2_with fail
           go_roundw
           case rel => exact ⟨k + 1,_,hlt,by go_num,HLN,HRY,HO6,HB6⟩
           case measure => simp [Lib.intOf]; omega
        ·have t6 : (t == u) = false:=by simp [ht]
         have HPE : Hid (popR T u = popR r u):=hyq (by rw [HPO.out,pop_cons_ne ht])
         have HO7 : Hid (OwnS w6 w1.heap.size (.slice (some ⟨g4,0,none⟩) m c4) r):=hyq (by rw [HM.out]; exact HO6.out.pop)
         clear ht HO6
         go_wp2_with fail
         go_roundw
         case rel => exact ⟨r,hyq (by have:=HTL.out; rw [List.length_cons] at this; omega),HPE,HO7,by first | trivial | rfl⟩
         case measure => simp
     ·have k1 : ¬ ((k : Int) < (n : Int)):=by omega
      have HR : Hid (rightR l = true):=hyq (by
       have h1:=HRN.out
       rw [List.take_of_length_le (by have:=HN.out; omega)] at h1
       unfold rightR
       rw [h1,HALL.out.1,HALL.out.2,decide_eq_true (by have:=HN.out; omega)]; rfl)
      go_wp2_with fail
      go_ret
      exact ⟨retb HR.out.symm,bch HB1.out HBk.out⟩
 ·have e4 : decide ((n : Int) > 2000) = true:=decide_eq_true (by omega)
  have HR : Hid (rightR l = false):=hyq (by
   unfold rightR
   rw [decide_eq_false (by rw [← HN.out]; exact h2)]; rfl)
  go_wp2_with fail
  go_ret
  exact ⟨retb HR.out.symm,HB1.out⟩
end Go.Proofs.YtigopecainocgaaGreatDoor
