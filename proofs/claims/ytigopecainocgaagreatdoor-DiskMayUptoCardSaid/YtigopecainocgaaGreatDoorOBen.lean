/- Proved here: what beneath of package tree hands out: the items beneath a path, one by one, or a first row of them, whatever the loop over it does with memory of its own. -/
import Derived.Test.YtigopecainocgaaGreatDoorTK
import Derived.Test.YtigopecainocgaaGreatDoorOAdd2
import Derived.Test.YtigopecainocgaaGreatDoorNA
import Derived.Stop.RegionWithIn
import Derived.Test.YtigopecainocgaaGreatDoorORound
set_option maxRecDepth 100000
set_option maxHeartbeats 32000000
namespace Go.Proofs.YtigopecainocgaaGreatDoor
open Go.RowKit Go.Shelf
attribute [local go_sem] Oper.semAt_some
def LowK (S : Nat → Prop) (A B : World) : Prop:=∀ k,S k → B.heap[k]? = A.heap[k]?
theorem LowK.refl (S : Nat → Prop) (A : World) : LowK S A A:=fun _ _ => rfl
theorem LowK.trans {S : Nat → Prop} {A B C : World} (h : LowK S A B) (k : LowK S B C) : LowK S A C:=fun x hx => (k x hx).trans (h x hx)
theorem LowK.below {S : Nat → Prop} {A B : World} (h : Below A.heap.size A B) (hK : ∀ k,S k → k < A.heap.size) : LowK S A B:=fun x hx => h.block x (hK x hx)
theorem LowK.cell {S : Nat → Prop} {A B : World} (h : LowK S A B) {g o : Nat} {u : Value} (hg : S g) (hc : A.cell? ⟨g,o,none⟩ = some u) : B.cell? ⟨g,o,none⟩ = some u:=(World.cell?_of_block (h g hg)).trans hc
theorem LowK.lt {S : Nat → Prop} {A B : World} (h : LowK S A B) {g : Nat} (hg : S g) (hl : g < A.heap.size) : g < B.heap.size:=by
 have h1:=h g hg
 rcases Nat.lt_or_ge g B.heap.size with h2 | h2
 ·exact h2
 ·rw [Array.getElem?_eq_none h2,Array.getElem?_eq_getElem hl] at h1
  cases h1
theorem tw_at {α : Type} (q : α → Bool) (L : List α) (k : Nat) (h : k < (L.takeWhile q).length) : ∃ x,L[k]? = some x ∧ (L.takeWhile q)[k]? = some x ∧ q x = true:=by
 have e : L = L.takeWhile q ++ L.dropWhile q:=List.takeWhile_append_dropWhile.symm
 obtain ⟨x,hx⟩ : ∃ x,(L.takeWhile q)[k]? = some x:=⟨_,List.getElem?_eq_getElem h⟩
 refine ⟨x,?_,hx,(tw_mem (List.mem_of_getElem? hx)).1⟩
 rw [e,List.getElem?_append_left h]
 exact hx
theorem tw_end {α : Type} (q : α → Bool) (L : List α) (x : α) (h : L[(L.takeWhile q).length]? = some x) : q x = false:=by
 induction L with
 | nil => cases h
 | cons y L ih =>
  rw [List.takeWhile_cons] at h
  by_cases hy : q y = true
  ·rw [if_pos hy] at h
   exact ih h
  ·rw [if_neg hy] at h
   cases h
   exact Bool.eq_false_iff.2 hy
def begL (l : List It) (p : Str) : Nat:=idxL l p + oneL l p
theorem bel_at {l : List It} {p : Str} {k : Nat} (h : k < (belowL l p).length) : ∃ x,l[begL l p + k]? = some x ∧ (belowL l p)[k]? = some x ∧ underB x.path p = true:=by
 obtain ⟨x,h1,h2,h3⟩:=tw_at _ _ k h
 rw [List.getElem?_drop] at h1
 exact ⟨x,h1,h2,h3⟩
theorem bel_end {l : List It} {p : Str} {x : It} (h : l[begL l p + (belowL l p).length]? = some x) : underB x.path p = false:=by
 refine tw_end (fun x => underB x.path p) (l.drop (idxL l p + oneL l p)) x ?_
 rw [List.getElem?_drop]
 exact h
theorem bel_le (l : List It) (p : Str) : begL l p + (belowL l p).length ≤ l.length ∨ begL l p = 0 ∧ (belowL l p).length ≤ l.length:=by
 have h1 : (belowL l p).length ≤ (l.drop (idxL l p + oneL l p)).length:=(List.takeWhile_sublist _).length_le
 rw [List.length_drop] at h1
 have h2:=idx_le l p
 have h3 : oneL l p ≤ 1:=by unfold oneL; split <;> omega
 unfold begL
 by_cases h4 : hasL l p = true
 ·have:=has_lt h4; have : oneL l p = 1:=by unfold oneL; rw [if_pos h4]
  omega
 ·have : oneL l p = 0:=by unfold oneL; rw [if_neg h4]
  omega
theorem below_dr {A B : World} (h : Below A.drew.heap.size A.drew B) : Below A.heap.size A B:=⟨h.os,h.tape,h.output,h.size,h.block⟩
theorem under_is (x p : Str) (hx : x.length ≤ 140737488355328) (hp : p.length ≤ 140737488355328) (b : Bool) (hb : underB x p = b) (w : World) : Calls Tryz.prog 89 #[.string ⟨x.toArray⟩,.string ⟨p.toArray⟩] w fun e w' => e = .returned (.bool b) ∧ Below w.heap.size w w':=by
 have:=under_any ⟨x.toArray⟩ ⟨p.toArray⟩ (by show x.toArray.size ≤ _; rw [List.size_toArray]; exact hx) (by show p.toArray.size ≤ _; rw [List.size_toArray]; exact hp) w
 rw [← hb]
 exact this
abbrev Ben (l : List It) (p : Str) : Type:={ y : It // y ∈ belowL l p }
def YR {α : Type} (J Jx : List α → World → Prop) (Kp : World → World → Prop) (pre : List α) (x : α) (W1 : World) (e : Ending) (W' : World) : Prop:=∃ t : Bool,e = .returned (.bool t) ∧ (t = true → J (pre ++ [x]) W' ∧ Kp W1 W') ∧ (t = false → Jx (pre ++ [x]) W')
theorem att_at {l : List It} {p : Str} {k : Nat} {x : It} (h : (belowL l p)[k]? = some x) : ∃ hx : x ∈ belowL l p,(belowL l p).attach[k]? = some ⟨x,hx⟩:=by
 obtain ⟨h1,h2⟩:=List.getElem?_eq_some_iff.1 h
 refine ⟨List.mem_of_getElem? h,?_⟩
 rw [List.getElem?_eq_getElem (by rw [List.length_attach]; exact h1),List.getElem_attach]
 congr 1
 exact Subtype.ext h2
theorem ben1_stops (n0 : Nat) (hn0 : 1 ≤ n0) (b2 b3 : Nat) (l : List It) (v : Value) (p : Str) (w : World) (X2 : Box w b2 22 #[v]) (X3 : Box w b3 9 #[.string ⟨p.toArray⟩]) (hv : RdI w v l) (hs : Srt l) (hn2 : l.length ≤ 2000) (hx : ∀ x ∈ l,x.path.length ≤ 140737488355328) (hp : p.length ≤ 140737488355328)
  (S : Nat → Prop) (hS : ∀ k,S k → k < w.heap.size) (s2 : S b2) (s3 : S b3) (sg : ∀ g o n c,v = .slice (some ⟨g,o,none⟩) n c → S g) :
  SeqStopsK Fence.wide n0 Tryz.prog 120 #[.pointer (some ⟨b2,0,none⟩),.pointer (some ⟨b3,0,none⟩)] (fun x : Ben l p => #[.agg x.1.arr]) (LowK S) (fun xs => xs = (belowL l p).attach) (fun pre => pre <+: (belowL l p).attach) (belowL l p).length w:=fun q J Jx W hW hJ hJx hY h0 => by
 obtain ⟨a,c,rfl,_,_,hcell⟩:=hv.open
 have HV:=hyq hv
 obtain ⟨n,hn⟩:=nmq (l.length)
 rw [← hn] at X2 HV hcell hn2
 have HFI : Hid (Calls Tryz.prog 71 #[.slice a n c,.string ⟨p.toArray⟩] W fun e w' => e = .returned (.tuple #[.int .i64 (idxL l p),.bool (hasL l p)]) ∧ Below W.heap.size W w'):=hyq (tfind_gen l _ p W hs (by rw [← hn]; exact hn2) (HV.out.on hW) hx hp)
 obtain ⟨m,hm⟩:=nmq ((belowL l p).length)
 obtain ⟨s,hsd⟩:=nmq (begL l p)
 obtain ⟨i,hi⟩:=nmq (idxL l p)
 obtain ⟨t,ht⟩:=nmq (hasL l p)
 have hsi : s = i + if t = true then 1 else 0:=by rw [hsd,hi,ht]; rfl
 have hin : i ≤ n:=by rw [hi,hn]; exact idx_le l p
 have HAT : Hid (∀ k,k < m → ∃ x,l[s + k]? = some x ∧ (belowL l p)[k]? = some x ∧ underB x.path p = true):=hyq (fun k hk => by rw [hsd]; exact bel_at (by rw [← hm]; exact hk))
 have HEN : Hid (∀ x,l[s + m]? = some x → underB x.path p = false):=hyq (fun x hx => bel_end (by rw [← hsd,← hm]; exact hx))
 rw [← hi,← ht] at HFI
 have HN:=hyq hn
 have HM:=hyq hm
 have hb2:=X2.lt
 have hb3:=X3.lt
 have d2 : W.cell? ⟨b2,0,none⟩ = some (.slice a n c):=(hW.cell (p:=⟨b2,0,none⟩) hb2).trans (X2.cell (k:=0) rfl)
 have d3 : W.cell? ⟨b3,0,none⟩ = some (.string ⟨p.toArray⟩):=(hW.cell (p:=⟨b3,0,none⟩) hb3).trans (X3.cell (k:=0) rfl)
 have HLW : Hid (LowK S w W):=hyq (fun k hk => hW.block k (hS k hk))
 have HX2:=hyq X2
 have HX3:=hyq X3
 have HC:=hyq hcell
 have HSZ : Hid (∀ k,S k → k < W.heap.size):=hyq (fun k hk => Nat.lt_of_lt_of_le (hS k hk) hW.size)
 have HSG:=hyq sg
 have JON : Hid (∀ pre A B,J pre A → Below A.heap.size A B → J pre B):=hyq (fun pre A B h hb => hJ pre A B none h ⟨hb.os,hb.tape,hb.output,hb.size,fun k hk _ => hb.block k hk⟩ (fun r e => by cases e))
 have HYY : Hid (∀ pre x W1,J pre W1 → pre.length < m → YieldAt Fence.wide (n0 - 1) Tryz.prog q #[.agg x.1.arr] W1 (YR J Jx (LowK S) pre x W1)):=hyq (fun pre x W1 h1 h2 => by
  obtain ⟨fn,tmps,assign,body,hy,hR⟩:=hY pre x W1 h1 (by rw [← hm]; exact h2)
  refine ⟨fn,tmps,assign,body,hy,hR.mono fun e W' h => ?_⟩
  rcases h with ⟨he,h3,h4⟩ | ⟨he,h3⟩
  ·exact ⟨true,he,fun _ => ⟨h3,h4⟩,fun k => by cases k⟩
  ·exact ⟨false,he,fun k => (by cases k),fun _ => h3⟩)
 have HX:=hyq hx
 have HSI:=hyq hsi
 clear hcell hv hs hx X2 X3 hW hm hi ht hn hsd hJ hY hsi sg
 refine callsIn_of_wp Tryz.func120 rfl trivial ?_ rfl
 simp only [Tryz.ntmps120,List.size_toArray,List.length_cons,List.length_nil,Nat.reduceAdd,Nat.reduceSub,Array.replicate_succ,Array.replicate_zero,List.push_toArray,List.append_toArray,List.nil_append,List.cons_append]
 gi_wp2_with (refine ⟨trivial,?_⟩; gi_at_call 71; refine (callsIn_wide.2 HFI.out).mono ?_; rintro e w2 ⟨rfl,hb⟩)
 all_goals
  rename_i ht0
  subst ht0
  have HJ0 : Hid (J ((belowL l p).attach.take 0) w2):=hyq (JON.out [] W w2 h0 hb)
  have HL0 : Hid (LowK S w w2):=hyq (HLW.out.trans (LowK.below hb HSZ.out))
  clear hb h0 d2 d3 HFI
  gi_loopw [4] (fun at4 wr => ∃ k j : Nat,at4 = .int .i64 (j : Int) ∧ j = s + k ∧ k ≤ m ∧ Hid (J ((belowL l p).attach.take k) wr) ∧ Hid (LowK S w wr)) (fun at4 _ => n + 2 - (Lib.intOf at4).toNat)
  case atStart => exact ⟨0,s,by have hsi:=HSI.out; simp at hsi; subst s; rfl,rfl,Nat.zero_le _,HJ0,HL0⟩
  case round =>
   obtain ⟨k,j,rfl,hj,hkm,HJq,HLq⟩:=hrel
   obtain ⟨wq,hwq⟩:=nmq (wr)
   rw [← hwq] at HJq HLq ⊢
   have HSq : Hid (∀ k,S k → k < wq.heap.size):=hyq (fun k hk => HLq.out.lt hk (hS k hk))
   clear hwq
   have d2 : wq.cell? ⟨b2,0,none⟩ = some (.slice a n c):=HLq.out.cell s2 (HX2.out.cell (k:=0) rfl)
   have d3 : wq.cell? ⟨b3,0,none⟩ = some (.string ⟨p.toArray⟩):=HLq.out.cell s3 (HX3.out.cell (k:=0) rfl)
   by_cases hjn : j < n
   ·obtain ⟨x,hxj⟩ : ∃ x,l[j]? = some x:=⟨_,List.getElem?_eq_getElem (by rw [← HN.out]; exact hjn)⟩
    obtain ⟨g,o,rfl,hg,hc⟩:=HC.out (by omega)
    have hsg : S g:=HSG.out g o _ c rfl
    obtain ⟨q0,q1,q2⟩:=hc j x hxj
    have z0 : wq.cell? ⟨g,o + j * 3,none⟩ = some (.string ⟨x.path.toArray⟩):=HLq.out.cell hsg q0
    have z1 : wq.cell? ⟨g,o + j * 3 + 1,none⟩ = some (.int .i64 x.kind):=HLq.out.cell hsg q1
    have z2 : wq.cell? ⟨g,o + j * 3 + 2,none⟩ = some (.string ⟨x.data.toArray⟩):=HLq.out.cell hsg q2
    have k1 : (j : Int) < (n : Int):=by omega
    have k2 : (0 : Int) ≤ (j : Int):=by omega
    have HXL:=hyq (HX.out x (List.mem_of_getElem? hxj))
    have hG : Hid (g < wq.heap.size):=hyq (HSq.out g hsg)
    have HJD:=hyq hj
    have hB2 : Hid (b2 < wq.heap.size):=hyq (HSq.out b2 s2)
    by_cases hk : k < m
    ·obtain ⟨y,e1,e2,e3⟩:=HAT.out k hk
     rw [← hj,hxj] at e1
     obtain rfl:=Option.some.inj e1
     obtain ⟨hbx,e4⟩:=att_at e2
     have HU : Hid (∀ W',Calls Tryz.prog 89 #[.string ⟨x.path.toArray⟩,.string ⟨p.toArray⟩] W' fun e w' => e = .returned (.bool true) ∧ Below W'.heap.size W' w'):=hyq (under_is x.path p HXL.out hp true e3)
     have HY2 : Hid (∀ W1,J ((belowL l p).attach.take k) W1 → YieldAt Fence.wide (n0 - 1) Tryz.prog q #[.agg #[.string ⟨x.path.toArray⟩,.int .i64 x.kind,.string ⟨x.data.toArray⟩]] W1 (YR J Jx (LowK S) ((belowL l p).attach.take k) ⟨x,hbx⟩ W1)):=hyq (fun W1 h1 => HYY.out _ ⟨x,hbx⟩ W1 h1 (by rw [List.length_take]; omega))
     have HTK : Hid ((belowL l p).attach.take (k + 1) = (belowL l p).attach.take k ++ [⟨x,hbx⟩]):=hyq (by
      rw [List.take_add_one,e4]; rfl)
     clear e1 e2 e3 e4 hxj hc q0 q1 q2 hg hj
     gi_wp2_with fail
     gi_region_with (first
      | (refine ⟨trivial,?_⟩; gi_at_call 89; refine (callsIn_wide.2 (HU.out _)).mono ?_; rintro e w3 ⟨rfl,hb⟩; have HJ3:=hyq (JON.out _ wq w3 HJq.out (below_dr hb)); have HL3:=hyq (HLq.out.trans (LowK.below (below_dr hb) HSq.out)); have y2:=((below_dr hb).cell (p:=⟨b2,0,none⟩) hB2.out).trans d2; have x0:=((below_dr hb).cell (p:=⟨g,_,none⟩) hG.out).trans z0; have x1:=((below_dr hb).cell (p:=⟨g,_,none⟩) hG.out).trans z1; have x2:=((below_dr hb).cell (p:=⟨g,_,none⟩) hG.out).trans z2; clear hb; obtain ⟨fn,tmps,assign,body,hy,hR⟩:=HY2.out w3 HJ3.out)
      | (refine hR.mono ?_; rintro e W3 ⟨t,rfl,ht⟩))
     all_goals
      cases t with
      | true =>
       have HJ4 : Hid (J ((belowL l p).attach.take (k + 1)) W3):=hyq (by rw [HTK.out]; exact (ht.1 rfl).1)
       have HL4 : Hid (LowK S w W3):=hyq (HL3.out.trans (ht.1 rfl).2)
       clear ht hR hy HTK y2 x0 x1 x2 z0 z1 z2 d2 d3
       gi_wp2
       go_roundw
       case rel => exact ⟨k + 1,j + 1,by go_num,by have:=HJD.out; omega,hk,HJ4,HL4⟩
       case measure => simp [Lib.intOf]; omega
      | false =>
       have HJ4 : Hid (Jx ((belowL l p).attach.take (k + 1)) W3):=hyq (by rw [HTK.out]; exact ht.2 rfl)
       clear ht hR hy HTK y2 x0 x1 x2 z0 z1 z2 d2 d3
       gi_wp2
       go_end0
       exact ⟨⟨_,rfl⟩,.inr ⟨_,List.take_prefix _ _,HJ4.out⟩⟩
    ·obtain rfl : k = m:=by omega
     have HU : Hid (∀ W',Calls Tryz.prog 89 #[.string ⟨x.path.toArray⟩,.string ⟨p.toArray⟩] W' fun e w' => e = .returned (.bool false) ∧ Below W'.heap.size W' w'):=hyq (under_is x.path p HXL.out hp false (HEN.out x (by rw [← hj]; exact hxj)))
     have HTK : Hid ((belowL l p).attach.take k = (belowL l p).attach):=hyq (List.take_of_length_le (by rw [List.length_attach,← HM.out]; exact Nat.le_refl _))
     have HJ3:=HJq
     have D2:=hyq d2
     have D3:=hyq d3
     have Z0:=hyq z0
     have hB3 : Hid (b3 < wq.heap.size):=hyq (HSq.out b3 s3)
     clear hxj hc q0 q1 q2 hg hj d2 d3 z0 z1 z2
     gi_wp2_with fail
     refine region_wide (S:=fun w' => Below wq.heap.size wq w') (by kernel_rfl) (by kernel_rfl) (Below.refl _ _).drew (fun hH => ?_)
     obtain ⟨v0,hv0⟩:=nmq (World.drew wq)
     rw [← hv0] at hH ⊢
     clear hv0
     refine tk 0 hH ?_; try go_frame
     refine tkf 1 rfl (fun w hSw => by have p0 : w.cell? ⟨b2,0,none⟩ = some (.slice (some ⟨g,o,none⟩) n c):=(hSw.cell (p:=⟨b2,0,none⟩) hB2.out).trans D2.out; go_simp; try with_reducible rfl) hH ?_; try go_frame
     refine tk 2 hH ?_; try go_frame
     refine tk 3 hH ?_; try go_frame
     refine tk 4 hH ?_; try go_frame
     refine tkf 5 rfl (fun w hSw => by have p0 : w.cell? ⟨b2,0,none⟩ = some (.slice (some ⟨g,o,none⟩) n c):=(hSw.cell (p:=⟨b2,0,none⟩) hB2.out).trans D2.out; go_simp; try with_reducible rfl) hH ?_; try go_frame
     refine tk 6 hH ?_; try go_frame
     refine tk 7 hH ?_; try go_frame
     refine tk 8 hH ?_; try go_frame
     refine tkf 9 rfl (fun w hSw => by have p0 : w.cell? ⟨g,o + j * 3,none⟩ = some (.string ⟨x.path.toArray⟩):=(hSw.cell (p:=⟨g,_,none⟩) hG.out).trans Z0.out; go_simp; try with_reducible rfl) hH ?_; try go_frame
     refine tkf 10 rfl (fun w hSw => by have p0 : w.cell? ⟨b3,0,none⟩ = some (.string ⟨p.toArray⟩):=(hSw.cell (p:=⟨b3,0,none⟩) hB3.out).trans D3.out; go_simp; try with_reducible rfl) hH ?_; try go_frame
     refine rd1 11 (fun K hK => ?_)
     ·go_simp
      refine (HU.out _).mono ?_
      rintro e v11 ⟨rfl,hba⟩
      refine hK.out _ _ (bch hH hba) (fun hH => ?_)
      clear hba
      try go_frame
      refine tk 12 hH ?_; try go_frame
      refine tk 13 hH ?_; try go_frame
      refine tku 14 hH ?_; try go_frame
      refine tku 15 hH ?_; try go_frame
      refine tku 16 hH ?_; try go_frame
      refine tku 17 hH ?_; try go_frame
      refine tku 18 hH ?_; try go_frame
      refine tku 19 hH ?_; try go_frame
      refine tk 20 hH ?_; try go_frame
      refine wpAnyH_done (by kernel_rfl) ?_ _
      have HD:=hyq hH
      clear hH
      simp only [Plainly]
      gi_wp2
      go_end0
      exact ⟨⟨_,rfl⟩,.inl ⟨_,HTK.out,JON.out _ _ _ HJ3.out HD.out⟩⟩
   ·have hkm2 : k = m:=by
     by_cases hk : k < m
     ·obtain ⟨y,e1,_,_⟩:=HAT.out k hk
      rw [← hj] at e1
      have:=(List.getElem?_eq_some_iff.1 e1).1
      rw [← HN.out] at this
      omega
     ·omega
    have HTK : Hid ((belowL l p).attach.take k = (belowL l p).attach):=hyq (List.take_of_length_le (by rw [List.length_attach,← HM.out,hkm2]; exact Nat.le_refl _))
    have HJ3:=HJq
    have k1 : ¬ ((j : Int) < (n : Int)):=by omega
    have D2:=hyq d2
    have hB2 : Hid (b2 < wq.heap.size):=hyq (HSq.out b2 s2)
    clear hkm2 hj d2 d3
    gi_wp2_with fail
    refine region_wide (S:=fun w' => Below wq.heap.size wq w') (by kernel_rfl) (by kernel_rfl) (Below.refl _ _).drew (fun hH => ?_)
    obtain ⟨v0,hv0⟩:=nmq (World.drew wq)
    rw [← hv0] at hH ⊢
    clear hv0
    refine tk 0 hH ?_; try go_frame
    refine tkf 1 rfl (fun w hSw => by have p0 : w.cell? ⟨b2,0,none⟩ = some (.slice a n c):=(hSw.cell (p:=⟨b2,0,none⟩) hB2.out).trans D2.out; go_simp; try with_reducible rfl) hH ?_; try go_frame
    refine tk 2 hH ?_; try go_frame
    refine tk 3 hH ?_; try go_frame
    refine tk 4 hH ?_; try go_frame
    refine tku 5 hH ?_; try go_frame
    refine tku 6 hH ?_; try go_frame
    refine tku 7 hH ?_; try go_frame
    refine tku 8 hH ?_; try go_frame
    refine tku 9 hH ?_; try go_frame
    refine tku 10 hH ?_; try go_frame
    refine tku 11 hH ?_; try go_frame
    refine tk 12 hH ?_; try go_frame
    refine tk 13 hH ?_; try go_frame
    refine tku 14 hH ?_; try go_frame
    refine tku 15 hH ?_; try go_frame
    refine tku 16 hH ?_; try go_frame
    refine tku 17 hH ?_; try go_frame
    refine tku 18 hH ?_; try go_frame
    refine tku 19 hH ?_; try go_frame
    refine tk 20 hH ?_; try go_frame
    refine wpAnyH_done (by kernel_rfl) ?_ _
    have HD:=hyq hH
    clear hH
    simp only [Plainly]
    gi_wp2
    go_end0
    exact ⟨⟨_,rfl⟩,.inl ⟨_,HTK.out,JON.out _ _ _ HJ3.out HD.out⟩⟩
end Go.Proofs.YtigopecainocgaaGreatDoor
