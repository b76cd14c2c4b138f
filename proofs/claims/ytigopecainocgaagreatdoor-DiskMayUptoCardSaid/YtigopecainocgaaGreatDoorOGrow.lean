/- Proved here: put, take and full of package tree, on a growing tree: a row of items of its own in a box. -/
import Derived.Test.YtigopecainocgaaGreatDoorTK
import Derived.Test.YtigopecainocgaaGreatDoorOFind
import Derived.Test.YtigopecainocgaaGreatDoorOIns3
import Derived.Test.YtigopecainocgaaGreatDoorODel
import Derived.Deep.RegionHeld3
import Derived.Deep.RegionHeld
import Derived.Deep.DeepCutAuto
set_option maxRecDepth 100000
set_option maxHeartbeats 32000000
namespace Go.Proofs.YtigopecainocgaaGreatDoor
open Go.RowKit Go.Shelf
structure Gr (w : World) (B b : Nat) (v : Value) (l : List It) : Prop where
 box : Box w b 78 #[v]
 own : OwnI w B v l
 ne : v.ownBlock ≠ some b
 low : B ≤ b
structure Nxt (b : Nat) (v v' : Value) (w w' : World) : Prop where
 os : w'.os = w.os
 tape : w'.tape = w.tape
 output : w'.output = w.output
 size : w.heap.size ≤ w'.heap.size
 block : ∀ x,x < w.heap.size → x ≠ b → v.ownBlock ≠ some x → w'.heap[x]? = w.heap[x]?
 row : v'.ownBlock = v.ownBlock ∨ ∀ k,v'.ownBlock = some k → w.heap.size ≤ k
theorem Nxt.trans {b : Nat} {v v' v'' : Value} {w w' w'' : World} (h : Nxt b v v' w w') (k : Nxt b v' v'' w' w'') : Nxt b v v'' w w'':=by
 refine ⟨k.os.trans h.os,k.tape.trans h.tape,k.output.trans h.output,Nat.le_trans h.size k.size,fun x hx hb hv => ?_,?_⟩
 ·refine (k.block x (Nat.lt_of_lt_of_le hx h.size) hb fun e => ?_).trans (h.block x hx hb hv)
  rcases h.row with r | r
  ·exact hv (r ▸ e)
  ·have:=r x e; omega
 ·rcases k.row with r | r
  ·rcases h.row with q | q
   ·exact .inl (r.trans q)
   ·exact .inr fun x hx => q x (r ▸ hx)
  ·exact .inr fun x hx => Nat.le_trans h.size (r x hx)
theorem Nxt.below {w w' : World} (h : Below w.heap.size w w') (b : Nat) (v : Value) : Nxt b v v w w' :=
 ⟨h.os,h.tape,h.output,h.size,fun x hx _ _ => h.block x hx,.inl rfl⟩
theorem OwnI.on {w w' : World} {B : Nat} {v : Value} {l : List It} (h : OwnI w B v l) (hb : Below w.heap.size w w') : OwnI w' B v l:=by
 have hx:=h
 obtain ⟨h1,hc⟩:=h
 rcases hc with ⟨rfl,h0⟩ | ⟨g,c,cur,rfl,hB,hg,hr⟩
 ·exact ⟨h1,.inl ⟨rfl,h0⟩⟩
 ·exact ⟨h1,.inr ⟨g,c,cur,rfl,hB,(hb.block g (hx.lt g rfl).2).trans hg,hr⟩⟩
theorem OwnI.far {w w' : World} {B : Nat} {v : Value} {l : List It} (h : OwnI w B v l) (hb : ∀ k,v.ownBlock = some k → w'.heap[k]? = w.heap[k]?) : OwnI w' B v l:=by
 obtain ⟨h1,hc⟩:=h
 rcases hc with ⟨rfl,h0⟩ | ⟨g,c,cur,rfl,hB,hg,hr⟩
 ·exact ⟨h1,.inl ⟨rfl,h0⟩⟩
 ·exact ⟨h1,.inr ⟨g,c,cur,rfl,hB,(hb g rfl).trans hg,hr⟩⟩
theorem Gr.on {w w' : World} {B b : Nat} {v : Value} {l : List It} (h : Gr w B b v l) (hb : Below w.heap.size w w') : Gr w' B b v l:=⟨h.box.on hb,h.own.on hb,h.ne,h.low⟩
theorem Gr.drew {w : World} {B b : Nat} {v : Value} {l : List It} (h : Gr w B b v l) : Gr w.drew B b v l:=⟨h.box,h.own,h.ne,h.low⟩
theorem Gr.rd {w : World} {B b : Nat} {v : Value} {l : List It} (h : Gr w B b v l) : RdI w v l:=h.own.rd
theorem Gr.store {w w2 : World} {B b : Nat} {v v' : Value} {l l' : List It} (hG : Gr w B b v l) (hR : OwnI w2 B v' l') (hg : w.grownBy w2 v.ownBlock) (hr : v'.ownBlock = v.ownBlock ∨ ∀ k,v'.ownBlock = some k → w.heap.size ≤ k) :
  Gr (w2.setCell ⟨b,0,none⟩ v') B b v' l' ∧ Nxt b v v' w (w2.setCell ⟨b,0,none⟩ v'):=by
 have hX : Box w2 b 78 #[v]:=hG.box.kept hg (fun e => hG.ne e.symm)
 have hne : v'.ownBlock ≠ some b:=fun e => by
  rcases hr with r | r
  ·exact hG.ne (r ▸ e)
  ·have:=r b e; have:=hG.box.lt; omega
 refine ⟨⟨hX.set (k:=0) v',hR.far fun k hk => heap_setCell_other _ _ _ _ (fun e => hne (by rw [hk,e])),hne,hG.low⟩,⟨hg.os,hg.tape,hg.output,by simpa using hg.size,fun x hx hb hv => ?_,hr⟩⟩
 exact (heap_setCell_other _ _ _ _ hb).trans (hg.block x hx (fun e => hv e.symm))
def DoneR (B b : Nat) (v : Value) (l' : List It) (w : World) (e : Ending) (w' : World) : Prop:=∃ v',e = .returned (.tuple #[]) ∧ Gr w' B b v' l' ∧ Nxt b v v' w w'
theorem own_slice {w : World} {B : Nat} {v : Value} {l : List It} (h : OwnI w B v l) : ∃ a c,v = .slice a l.length c ∧ l.length ≤ c ∧ c ≤ maxLen:=by
 obtain ⟨a,c,e,h1,h2,_⟩:=h.rd.open
 exact ⟨a,c,e,h1,h2⟩
theorem own_any {w : World} {B : Nat} {v : Value} {l : List It} (h : OwnI w B v l) : ∃ a n c,v = .slice a n c:=by
 obtain ⟨a,c,e,_⟩:=own_slice h
 exact ⟨a,_,c,e⟩
theorem take_any (B b : Nat) (v : Value) (l : List It) (p : Str) (k : Nat) (w : World) (hG : Gr w B b v l) (hs : Srt l) (hn2 : l.length ≤ 2000) (hx : ∀ x ∈ l,x.path.length ≤ 140737488355328) (hp : p.length ≤ 140737488355328) (h0 : 0 < k) (hk : idxL l p + k ≤ l.length) :
  Calls Tryz.prog 91 #[.pointer (some ⟨b,0,none⟩),.string ⟨p.toArray⟩,.int .i64 k] w (DoneR B b v (takeL l p k) w):=by
 have HF:=hyq (tfind_gen l v p w hs hn2 hG.rd hx hp)
 rcases own_form hG.own with ⟨e,_⟩ | ⟨r,c,rfl,_,_,_,_⟩
 ·subst e; simp at hk; omega
 obtain ⟨i,hi⟩:=nmq (idxL l p)
 obtain ⟨n,hn⟩:=nmq (l.length)
 have HT : Hid (takeL l p k = l.take i ++ l.drop (i + k)):=hyq (by unfold takeL; rw [hi])
 rw [← hi] at HF hk
 rw [← hn] at HF hk hn2 hG ⊢
 have HG:=hyq hG
 have HN:=hyq hn
 have p0 : w.cell? ⟨b,0,none⟩ = some (.slice (some ⟨r,0,none⟩) n c):=hG.box.cell (k:=0) rfl
 have k1 : IntKind.i64.wrap ((i : Int) + (k : Int)) = (i : Int) + (k : Int):=IntWalk.i64_in _ (by omega)
 have HD : Hid (∀ w2,OwnI w2 B (.slice (some ⟨r,0,none⟩) n c) l → Calls Tryz.prog 108 #[.slice (some ⟨r,0,none⟩) n c,.int .i64 i,.int .i64 ((i : Int) + (k : Int))] w2 (InsR B (.slice (some ⟨r,0,none⟩) n c) (l.take i ++ l.drop (i + k)) w2)) :=
  hyq (fun w2 h => by rw [show (i : Int) + (k : Int) = ((i + k : Nat) : Int) by omega]; exact del_any l i (i + k) r n c B w2 h HN.out (by omega) hk (by rw [← HN.out]; omega))
 clear hG hs hx hi hn
 go_enter Tryz.func91,Tryz.ntmps91
 go_wp2_with fail
 refine HF.out.mono ?_
 rintro e w2 ⟨rfl,hb⟩
 have HG2:=hyq (HG.out.on hb)
 have HB:=hyq hb
 have p2 : w2.cell? ⟨b,0,none⟩ = some (.slice (some ⟨r,0,none⟩) n c):=HG2.out.box.cell (k:=0) rfl
 clear hb p0 HF
 go_wp2_with fail
 refine (HD.out w2 HG2.out.own).mono ?_
 rintro e w3 ⟨v',rfl,hO,hg,hr⟩
 have HX3 : Hid (Box w3 b 78 #[.slice (some ⟨r,0,none⟩) n c]):=hyq (HG2.out.box.kept hg (fun e => HG2.out.ne e.symm))
 have HS:=hyq (HG2.out.store hO hg hr)
 have p3 : w3.cell? ⟨b,0,none⟩ = some (.slice (some ⟨r,0,none⟩) n c):=HX3.out.cell (k:=0) rfl
 have f3:=frozen_of_row w3 b 0 _ _ HX3.out
 obtain ⟨a',n',c',rfl⟩:=own_any hO
 clear hO hg hr p2
 go_wp2_with fail
 refine bodyPost_ret (results_none rfl _ _ _) rfl ?_
 exact ⟨_,rfl,by rw [HT.out]; exact HS.out.1,(Nxt.below HB.out b _).trans HS.out.2⟩
theorem take_len {l : List It} {p : Str} {k : Nat} (hk : idxL l p + k ≤ l.length) : (takeL l p k).length = l.length - k:=by
 unfold takeL
 rw [List.length_append,List.length_take,List.length_drop]
 omega
theorem take_split {l : List It} {p : Str} {k : Nat} : (takeL l p k).take (idxL l p) = l.take (idxL l p) ∧ (takeL l p k).drop (idxL l p) = l.drop (idxL l p + k):=by
 have hle:=idx_le l p
 have h1 : (l.take (idxL l p)).length = idxL l p:=by rw [List.length_take]; omega
 unfold takeL
 constructor
 ·rw [List.take_append_of_le_length (by omega),List.take_of_length_le (by omega)]
 ·rw [List.drop_append_of_le_length (by omega),List.drop_of_length_le (by omega),List.nil_append]
theorem has_lt {l : List It} {p : Str} (h : hasL l p = true) : idxL l p + 1 ≤ l.length:=by
 unfold hasL at h
 cases e : l[idxL l p]? with
 | none => rw [e] at h; cases h
 | some x => exact (List.getElem?_eq_some_iff.1 e).1
theorem put_any (B b : Nat) (v : Value) (l m : List It) (p : Str) (x0 : It) (g o mc : Nat) (w : World) (hG : Gr w B b v l) (hs : Srt l) (hn2 : l.length ≤ 2000) (hx : ∀ x ∈ l,x.path.length ≤ 140737488355328) (hp : p.length ≤ 140737488355328)
  (hm0 : m[0]? = some x0) (hp0 : x0.path = p) (hml : m.length ≤ 2000) (hne : v.ownBlock ≠ some g) (hgb : g ≠ b) (hgc : ∃ cs t,w.heap[g]? = some (.cells cs t (0,0))) (hM : ∀ (j : Nat) (u : Value),(flatI m)[j]? = some u → w.cell? ⟨g,o + j,none⟩ = some u) (hB : B ≤ w.heap.size) :
  Calls Tryz.prog 88 #[.pointer (some ⟨b,0,none⟩),.slice (some ⟨g,o,none⟩) m.length mc] w (DoneR B b v (putL l m p) w):=by
 have hm : 0 < m.length:=(List.getElem?_eq_some_iff.1 hm0).1
 have hgw : g < w.heap.size:=by
  obtain ⟨cs,t,e⟩:=hgc
  exact (Array.getElem?_eq_some_iff.1 e).1
 have q0:=(iat_of hM 0 x0 hm0).c0
 rw [Nat.zero_mul,Nat.add_zero,hp0] at q0
 obtain ⟨a,c,rfl,_⟩:=own_slice hG.own
 have HF : Hid (∀ W,Below w.drew.heap.size w.drew W → Calls Tryz.prog 71 #[.slice a l.length c,.string ⟨p.toArray⟩] W fun e w' => e = .returned (.tuple #[.int .i64 (idxL l p),.bool (hasL l p)]) ∧ Below W.heap.size W w'):=hyq (fun W hW => tfind_gen l _ p W hs hn2 (hG.drew.on hW).rd hx hp)
 obtain ⟨i,hi⟩:=nmq (idxL l p)
 obtain ⟨n,hn⟩:=nmq (l.length)
 obtain ⟨k,hk⟩:=nmq (m.length)
 have hin : i ≤ n:=by rw [hi,hn]; exact idx_le l p
 obtain ⟨t,ht⟩:=nmq (hasL l p)
 have HINS : Hid (∀ (l1 : List It) (v1 : Value) (W : World),OwnI W B v1 l1 → i ≤ l1.length → l1.length ≤ 2000 → v1.ownBlock ≠ some g → W.heap[g]? = w.heap[g]? → B ≤ W.heap.size →
   Calls Tryz.prog 101 #[v1,.int .i64 i,.slice (some ⟨g,o,none⟩) k mc] W (InsR B v1 (l1.take i ++ m ++ l1.drop i) W)):=hyq (fun l1 v1 W h1 h2 h3 h4 h5 h6 => by
  rw [hk]
  exact ins_any l1 m i v1 g o mc B W h1 h2 hm h4 (by obtain ⟨cs,t,e⟩:=hgc; exact ⟨cs,t,h5.trans e⟩) (fun j u hu => (World.cell?_of_block h5).trans (hM j u hu)) (by omega) (by omega) h6)
 rw [← hi,← ht] at HF
 rw [← hn] at HF hG hne ⊢
 rw [← hk] at hm hml ⊢
 have HN:=hyq hn
 obtain ⟨v0,hv0⟩:=nmq (World.drew w)
 obtain ⟨vs,hvs⟩:=nmq (World.drew w)
 have HG : Hid (Gr vs B b (.slice a n c) l):=hyq (by rw [hvs]; exact hG.drew)
 have XG : Hid (Box vs b 78 #[.slice a n c]):=hyq HG.out.box
 have HV0 : Hid (Below w.heap.size w vs):=hyq (by rw [hvs]; exact (Below.refl _ _).drew)
 have HH : Hid (vs.heap[g]? = w.heap[g]?):=hyq (by rw [hvs]; rfl)
 have HGW : Hid (g < vs.heap.size):=hyq (Nat.lt_of_lt_of_le hgw HV0.out.size)
 have HQ : Hid (vs.cell? ⟨g,o,none⟩ = some (.string ⟨p.toArray⟩)):=hyq ((World.cell?_of_block HH.out).trans q0)
 have HGB:=hyq hgb
 have HNE:=hyq hne
 have HB0:=hyq hB
 rw [← hvs] at HF
 have HTK : Hid (t = true → ∀ W,Gr W B b (.slice a n c) l → Calls Tryz.prog 91 #[.pointer (some ⟨b,0,none⟩),.string ⟨p.toArray⟩,.int .i64 1] W (DoneR B b (.slice a n c) (takeL l p 1) W)) :=
  hyq (fun h W hW => take_any B b _ l p 1 W hW hs hn2 hx hp (by omega) (has_lt (ht ▸ h)))
 have HE0 : Hid (t = false → putL l m p = l.take i ++ m ++ l.drop i):=hyq (fun h => by unfold putL oneL; rw [← ht,h,if_neg (by simp),Nat.add_zero,← hi])
 have HE1 : Hid (t = true → putL l m p = (takeL l p 1).take i ++ m ++ (takeL l p 1).drop i ∧ i ≤ (takeL l p 1).length ∧ (takeL l p 1).length ≤ 2000):=hyq (fun h => by
  have h1:=has_lt (l:=l) (p:=p) (by rw [← ht,h])
  rw [hi,take_split.1,take_split.2,take_len h1]
  refine ⟨by unfold putL oneL; rw [← ht,h,if_pos rfl],by omega,by omega⟩)
 have k1 : (0 : Int) < (k : Int):=by omega
 have k2 : (0 : Nat) < k:=hm
 have fin : ∀ (l1 l2 : List It) (v1 v' : Value) (w1 w3 : World),Gr w1 B b v1 l1 → Nxt b (.slice a n c) v1 w w1 → OwnI w3 B v' l2 → w1.grownBy w3 v1.ownBlock → (v'.ownBlock = v1.ownBlock ∨ ∀ k,v'.ownBlock = some k → w1.heap.size ≤ k) → l2 = putL l m p →
   DoneR B b (.slice a n c) (putL l m p) w (.returned (.tuple #[])) (w3.setCell ⟨b,0,none⟩ v'):=fun l1 l2 v1 v' w1 w3 h1 h2 h3 h4 h5 h6 => by
  obtain ⟨q1,q2⟩:=h1.store h3 h4 h5
  exact ⟨v',rfl,h6 ▸ q1,h2.trans q2⟩
 have FIN:=hyq fin
 clear hG hs hx hi hn hk ht hgb hne hM hgc hm0 hp0 q0 hgw hm fin
 go_enter Tryz.func88,Tryz.ntmps88
 go_upto_region 0 with fail
 go_cut [4,5] (fun p4 p5 wx => p4 = .int .i64 i ∧ p5 = .bool t ∧ Hid (Below vs.heap.size vs wx))
 case first =>
  rename_i J2 K2 hJ hK2
  refine wp_region_held_drew (S:=fun w' => Below vs.heap.size vs w') (by kernel_rfl) (by rw [hvs]; exact Below.refl _ _) (fun hH => ?_)
  rw [← hv0] at hH ⊢
  clear hv0 hvs
  refine tk 0 hH ?_; try go_frame
  refine tk 1 hH ?_; try go_frame
  refine tk 2 hH ?_; try go_frame
  refine tkf 3 rfl (fun w hSw => by have p0 : w.cell? ⟨b,0,none⟩ = some (.slice a n c):=(XG.out.on hSw).cell (k:=0) rfl; go_simp; try with_reducible rfl) hH ?_; try go_frame
  refine tk 4 hH ?_; try go_frame
  refine tk 5 hH ?_; try go_frame
  refine tk 6 hH ?_; try go_frame
  refine tkf 7 rfl (fun w hSw => by have p0 : w.cell? ⟨g,o,none⟩ = some (.string ⟨p.toArray⟩):=(hSw.cell (p:=⟨g,_,none⟩) HGW.out).trans HQ.out; go_simp; try with_reducible rfl) hH ?_; try go_frame
  refine rd1 8 (fun K hK => ?_)
  ·go_simp
   refine (HF.out _ hH).mono ?_
   rintro e v9 ⟨rfl,hba⟩
   refine hK.out _ _ (bch hH hba) (fun hH => ?_)
   clear hba
   try go_frame
   refine tk 9 hH ?_; try go_frame
   refine tk 10 hH ?_; try go_frame
   refine tk 11 hH ?_; try go_frame
   refine tk 12 hH ?_; try go_frame
   refine tk 13 hH ?_; try go_frame
   refine wpAnyH_done (by kernel_rfl) ?_ _
   first | refine hK2 _ _ (Met.intro (hJ _ _ ?_)) | refine Met.intro (hJ _ _ ?_)
   (repeat apply Exists.intro)
   refine ⟨?_,rfl⟩
   exact ⟨rfl,rfl,hyq hH⟩
 case rest =>
  obtain ⟨rfl,rfl,HB⟩:=hcut
  obtain ⟨w2,hw2⟩:=nmq (wc)
  rw [← hw2] at HB ⊢
  clear hw2
  have HG2:=hyq (HG.out.on HB.out)
  have HN2 : Hid (Nxt b (.slice a n c) (.slice a n c) w w2):=hyq (Nxt.below (bch HV0.out HB.out) b _)
  have p2 : w2.cell? ⟨b,0,none⟩ = some (.slice a n c):=HG2.out.box.cell (k:=0) rfl
  have HH2 : Hid (w2.heap[g]? = w.heap[g]?):=hyq ((HB.out.block g HGW.out).trans HH.out)
  have q2 : w2.cell? ⟨g,o,none⟩ = some (.string ⟨p.toArray⟩):=(HB.out.cell (p:=⟨g,_,none⟩) HGW.out).trans HQ.out
  have HB2 : Hid (B ≤ w2.heap.size):=hyq (Nat.le_trans HB0.out HN2.out.size)
  have HGW2 : Hid (g < w2.heap.size):=hyq (Nat.lt_of_lt_of_le HGW.out HB.out.size)
  clear hvs hv0 HG XG HQ HF HGW
  cases t with
  | false =>
   go_wp2_with fail
   refine (HINS.out l _ w2 HG2.out.own (by rw [← HN.out]; exact hin) hn2 HNE.out HH2.out HB2.out).mono ?_
   rintro e w3 ⟨v',rfl,hO,hg,hr⟩
   have HX3 : Hid (Box w3 b 78 #[.slice a n c]):=hyq (HG2.out.box.kept hg (fun e => HG2.out.ne e.symm))
   have HR:=hyq (FIN.out l _ _ v' w2 w3 HG2.out HN2.out hO hg hr (HE0.out (by trivial)).symm)
   have p3 : w3.cell? ⟨b,0,none⟩ = some (.slice a n c):=HX3.out.cell (k:=0) rfl
   have f3:=frozen_of_row w3 b 0 _ _ HX3.out
   obtain ⟨a',n',c',rfl⟩:=own_any hO
   clear hO hg hr p2 q2
   go_wp2_with fail
   refine bodyPost_ret (results_none rfl _ _ _) rfl ?_
   exact HR.out
  | true =>
   go_wp2_with fail
   refine (HTK.out (by trivial) w2 HG2.out).mono ?_
   rintro e w3 ⟨v1,rfl,hG3,hN3⟩
   have HG3:=hyq hG3
   have HN3:=hyq hN3
   have HNE3 : Hid (v1.ownBlock ≠ some g):=hyq (fun e => by
    rcases hN3.row with r | r
    ·exact HNE.out (r ▸ e)
    ·have h1:=r g e; have h2:=HGW2.out; omega)
   have HH3 : Hid (w3.heap[g]? = w.heap[g]?):=hyq ((hN3.block g HGW2.out HGB.out HNE.out).trans HH2.out)
   have HB3 : Hid (B ≤ w3.heap.size):=hyq (Nat.le_trans HB2.out hN3.size)
   obtain ⟨a1,n1,c1,rfl⟩:=own_any hG3.own
   have p3 : w3.cell? ⟨b,0,none⟩ = some (.slice a1 n1 c1):=HG3.out.box.cell (k:=0) rfl
   clear hG3 hN3 p2 q2
   go_wp2_with fail
   refine (HINS.out (takeL l p 1) _ w3 HG3.out.own (HE1.out (by trivial)).2.1 (HE1.out (by trivial)).2.2 HNE3.out HH3.out HB3.out).mono ?_
   rintro e w4 ⟨v',rfl,hO,hg,hr⟩
   have HX4 : Hid (Box w4 b 78 #[.slice a1 n1 c1]):=hyq (HG3.out.box.kept hg (fun e => HG3.out.ne e.symm))
   have HR:=hyq (FIN.out (takeL l p 1) _ _ v' w3 w4 HG3.out (HN2.out.trans HN3.out) hO hg hr (HE1.out (by trivial)).1.symm)
   have p4 : w4.cell? ⟨b,0,none⟩ = some (.slice a1 n1 c1):=HX4.out.cell (k:=0) rfl
   have f4:=frozen_of_row w4 b 0 _ _ HX4.out
   obtain ⟨a',n',c',rfl⟩:=own_any hO
   clear hO hg hr p3
   go_wp2_with fail
   refine bodyPost_ret (results_none rfl _ _ _) rfl ?_
   exact HR.out
end Go.Proofs.YtigopecainocgaaGreatDoor
