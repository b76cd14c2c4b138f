/- Proved here: Run and Do of package tree: they do what the plain words say. -/
import Derived.Test.YtigopecainocgaaGreatDoorOKinds
import Derived.Test.YtigopecainocgaaGreatDoorOMath4
import Derived.WalkMore
set_option maxRecDepth 100000
set_option maxHeartbeats 32000000
namespace Go.Proofs.YtigopecainocgaaGreatDoor
open Go.RowKit Go.Shelf Go.Maps
/-! ### Rows of operations -/
def Opn.cells (o : Opn) : List Value:=[.int .i64 o.kind,.string ⟨o.path.toArray⟩,.string ⟨o.to.toArray⟩,.string ⟨o.data.toArray⟩]
def flatO (l : List Opn) : List Value:=l.flatMap Opn.cells
theorem flat4 (l : List Opn) (j r : Nat) (hr : r < 4) : (flatO l)[j * 4 + r]? = (l[j]?).bind fun v => v.cells[r]?:=by
 induction l generalizing j with
 | nil => simp [flatO]
 | cons v l ih =>
  have e : flatO (v :: l) = v.cells ++ flatO l:=rfl
  have hl : v.cells.length = 4:=rfl
  cases j with
  | zero =>
   rw [e,Nat.zero_mul,Nat.zero_add,List.getElem?_append_left (by rw [hl]; exact hr)]
   rfl
  | succ j =>
   rw [e,List.getElem?_append_right (by rw [hl]; omega),hl,show (j + 1) * 4 + r - 4 = j * 4 + r by omega,ih]
   rfl
def RdO (w : World) (x : Value) (l : List Opn) : Prop:=RdF w x l.length (flatO l)
structure OAt (w : World) (g o : Nat) (b : Opn) : Prop where
 c0 : w.cell? ⟨g,o,none⟩ = some (.int .i64 b.kind)
 c1 : w.cell? ⟨g,o + 1,none⟩ = some (.string ⟨b.path.toArray⟩)
 c2 : w.cell? ⟨g,o + 2,none⟩ = some (.string ⟨b.to.toArray⟩)
 c3 : w.cell? ⟨g,o + 3,none⟩ = some (.string ⟨b.data.toArray⟩)
theorem RdO.open {w : World} {x : Value} {l : List Opn} (h : RdO w x l) : ∃ a c,x = .slice a l.length c ∧ l.length ≤ c ∧ c ≤ maxLen ∧
  (0 < l.length → ∃ g o,a = some ⟨g,o,none⟩ ∧ g < w.heap.size ∧ ∀ (j : Nat) (b : Opn),l[j]? = some b → OAt w g (o + j * 4) b):=by
 obtain ⟨a,c,h1,h2,h3,h4⟩:=h
 refine ⟨a,c,h1,h2,h3,fun h0 => ?_⟩
 obtain ⟨g,o,e,hg,hc⟩:=h4 h0
 refine ⟨g,o,e,hg,fun j b hj => ?_⟩
 have key : ∀ r u,r < 4 → b.cells[r]? = some u → w.cell? ⟨g,o + j * 4 + r,none⟩ = some u:=fun r u hr hu => by
  have:=flat4 l j r hr
  rw [hj] at this
  rw [Nat.add_assoc]
  exact hc (j * 4 + r) u (this.trans hu)
 exact ⟨key 0 _ (by omega) rfl,key 1 _ (by omega) rfl,key 2 _ (by omega) rfl,key 3 _ (by omega) rfl⟩
/-! ### What a step leaves alone -/
theorem Nxt.low {w A A' : World} {b B : Nat} {v v' : Value} {l : List It} (h : Below w.heap.size w A) (k : Nxt b v v' A A') (hG : Gr A B b v l) (hB : w.heap.size ≤ B) : Below w.heap.size w A' :=
 ⟨k.os.trans h.os,k.tape.trans h.tape,k.output.trans h.output,Nat.le_trans h.size k.size,fun x hx => (k.kept hG (x:=x) (by omega)).trans (h.block x hx)⟩
theorem map_far {w w' : World} {mb n : Nat} {D : DataW Value} (h : w.ownsMap Tryz.prog 3 RV mb n D) (hh : w'.heap[mb]? = w.heap[mb]?) : w'.ownsMap Tryz.prog 3 RV mb n D:=by
 obtain ⟨es,clock,hb,F,hs,hD⟩:=h
 exact ⟨es,clock,hh.trans hb,F,hs,hD⟩
theorem map_nxt {w w' : World} {mb n b B : Nat} {v v' : Value} {l : List It} {D : DataW Value} (h : w.ownsMap Tryz.prog 3 RV mb n D) (k : Nxt b v v' w w') (hG : Gr w B b v l) : w'.ownsMap Tryz.prog 3 RV mb n D:=by
 refine map_far h ?_
 obtain ⟨es,clock,hb,_⟩:=id h
 refine k.block mb h.lt (fun e => ?_) (fun e => ?_)
 ·subst e
  rw [show w.heap[mb]? = _ from hG.box] at hb
  cases hb
 ·rcases own_form hG.own with ⟨_,q⟩ | ⟨r,c,_,_,_,q,cs,t,hcs⟩
  ·rw [q] at e; cases e
  ·rw [q] at e; cases e
   rw [hcs] at hb
   cases hb
theorem look_meth {w : World} {mb n b : Nat} (h : w.ownsMap Tryz.prog 3 RV mb n (kindsD b)) (k : Nat) (v : Value) (hk : keyOf Tryz.prog 3 (.int .i64 k) = some (.int .i64 k)) (hv : ∀ zd,(kindsD b).atKey (.int .i64 k) zd = .held v) : (Instr.lookup 79 (.map (some mb)) (.int .i64 (k : Int)) false).run Tryz.prog w = .ok v w:=by
 obtain ⟨v',ps,hrun,hR⟩:=h.lookup law3 Tryz.underlying79 (z:=.nilFunc) (Tryz.zeroValue81 w) (zd:=.held .nilFunc) (zp:=[]) rfl hk
 rw [hv] at hR
 injection hR with hR
 injection hR with hR _
 injection hR with hR
 rw [hrun,hR]
/-! ### The methods,by one name -/
theorem does_any (B b : Nat) (v : Value) (l : List It) (o : Opn) (k : Nat) (hk : o.kind = k) (hc : ChkOk o) (w : World) (hG : Gr w B b v l) (h : TreeOk l) (hT : Tabs w) : Calls Tryz.prog (62 + k) #[.pointer (some ⟨b,0,none⟩),.agg o.arr] w (GrR B b v l (doesM l o) w):=by
 have hr : k = 1 ∨ k = 2 ∨ k = 3 ∨ k = 4 ∨ k = 5 ∨ k = 6 ∨ k = 7:=by have:=hc.kind; omega
 rcases hr with rfl | rfl | rfl | rfl | rfl | rfl | rfl
 ·have e : doesM l o = addM l ⟨o.path,1,[]⟩:=by unfold doesM; rw [if_pos (by omega)]
  rw [e]
  exact mkdir_any B b v l o w hG h hc.path hT
 ·have e : doesM l o = writeM l o.path o.data:=by unfold doesM; rw [if_neg (by omega),if_pos (by omega)]
  rw [e]
  exact write_any B b v l o w hG h hc.path hT
 ·have e : doesM l o = extendM l o.path o.data:=by unfold doesM; rw [if_neg (by omega),if_neg (by omega),if_pos (by omega)]
  rw [e]
  refine extend_any B b v l o w hG h hc.path hT ?_
  have:=hc.data
  unfold mostM at this
  rw [if_pos (by omega)] at this
  exact this
 ·have e : doesM l o = addM l ⟨o.path,3,o.data⟩:=by unfold doesM; rw [if_neg (by omega),if_neg (by omega),if_neg (by omega),if_pos (by omega)]
  rw [e]
  exact link_any B b v l o w hG h hc.path hT
 ·have e : doesM l o = moveM l o.path o.to:=by unfold doesM; rw [if_neg (by omega),if_neg (by omega),if_neg (by omega),if_neg (by omega),if_pos (by omega)]
  rw [e]
  exact move_any B b v l o w hG h hc.path hT (hc.to (by omega))
 ·have e : doesM l o = unlinkM l o.path:=by unfold doesM; rw [if_neg (by omega),if_neg (by omega),if_neg (by omega),if_neg (by omega),if_neg (by omega),if_pos (by omega)]
  rw [e]
  exact unlink_any B b v l o w hG h hc.path hT
 ·have e : doesM l o = rmdirM l o.path:=by unfold doesM; rw [if_neg (by omega),if_neg (by omega),if_neg (by omega),if_neg (by omega),if_neg (by omega),if_neg (by omega)]
  rw [e]
  exact rmdir_any B b v l o w hG h hc.path hT
theorem checkop_no (o : Opn) (hk : o.kind < 1 ∨ 7 < o.kind) (w : World) : Calls Tryz.prog 47 #[.agg o.arr] w (ChkR (checkM o) w):=by
 have HC : Hid (checkM o = 2):=hyq (by unfold checkM; rw [if_pos hk])
 obtain ⟨w1,hw1⟩:=nmq (w.alloc (.cells o.arr 46))
 obtain ⟨bo,hbo⟩:=nmq (w.heap.size)
 have X1 : Hid (Box w1 bo 46 o.arr):=hyq (by rw [hw1,hbo]; exact box_new)
 have HB0 : Hid (Below w.heap.size w w1):=hyq (by rw [hw1]; exact below_new _ _)
 have m0 : w1.cell? ⟨bo,0,none⟩ = some (.int .i64 o.kind):=X1.out.cell (k:=0) rfl
 rw [HC.out]
 rcases hk with hk | hk
 ·have d1 : o.kind < 1:=hk
  go_enter Tryz.func47,Tryz.ntmps47
  go_upto_region 1 with fail
  rw [← hw1,← hbo]
  clear hw1 hbo
  go_wp2_with fail
  go_ret
  exact ⟨rfl,HB0.out⟩
 ·have d1 : ¬ o.kind < 1:=by omega
  have d2 : 7 < o.kind:=hk
  go_enter Tryz.func47,Tryz.ntmps47
  go_upto_region 1 with fail
  rw [← hw1,← hbo]
  clear hw1 hbo
  go_wp2_with fail
  go_ret
  exact ⟨rfl,HB0.out⟩
theorem checkop_any (o : Opn) (hpl : o.path.length ≤ 140737488355328) (htl : o.to.length ≤ 140737488355328) (w : World) (hT : TabS w) : Calls Tryz.prog 47 #[.agg o.arr] w (ChkR (checkM o) w):=by
 by_cases h : o.kind < 1 ∨ 7 < o.kind
 ·exact checkop_no o h w
 ·have hr : o.kind = 1 ∨ o.kind = 2 ∨ o.kind = 3 ∨ o.kind = 4 ∨ o.kind = 5 ∨ o.kind = 6 ∨ o.kind = 7:=by omega
  rcases hr with e | e | e | e | e | e | e
  ·exact checkop_1 o e hpl htl w hT
  ·exact checkop_2 o e hpl htl w hT
  ·exact checkop_3 o e hpl htl w hT
  ·exact checkop_4 o e hpl htl w hT
  ·exact checkop_5 o e hpl htl w hT
  ·exact checkop_6 o e hpl htl w hT
  ·exact checkop_7 o e hpl htl w hT
def RunR (l : List It) (ops : List Opn) (w : World) (e : Ending) (w' : World) : Prop :=
 Below w.heap.size w w' ∧ ((validT l = false ∧ e = .returned (.tuple #[.agg #[.slice none 0 0],.int .i64 0,.int .i64 160])) ∨
  (validT l = true ∧ ∃ v',e = .returned (.tuple #[.agg #[v'],.int .i64 ((runM l ops).2.1 : Nat),.int .i64 (runM l ops).2.2]) ∧ OwnI w' w.heap.size v' (runM l ops).1))
theorem results_three {P : Program} {fn : Func} {p q r : Tmp} {ty : TypeId} (h : fn.results = #[.cell p ty,.tmp q,.tmp r]) (tmps : Array Value) (w : World) (g : Nat) (hp : tmps.getD p undef = .pointer (some ⟨g,0,none⟩)) (cs : Array Value) (hr : (loadVar ty ⟨g,0,none⟩).run P w = .ok (.agg cs) w) :
  (results fn tmps).run P w = .ok (.tuple #[.agg cs,tmps.getD q undef,tmps.getD r undef]) w:=by
 have e : tmps[p]?.getD undef = .pointer (some ⟨g,0,none⟩):=by rw [← hp]; simp
 simp [results,h,e,asAddr,hr]
theorem end_tree {fn : Func} {p q r : Tmp} (h : fn.results = #[.cell p 24,.tmp q,.tmp r]) (tmps : Array Value) {w : World} {g : Nat} {v : Value} (X : Box w g 24 #[v]) (hp : tmps.getD p undef = .pointer (some ⟨g,0,none⟩)) {x y : Value} (hq : tmps.getD q undef = x) (hr : tmps.getD r undef = y) :
  (results fn tmps).run Tryz.prog w = .ok (.tuple #[.agg #[v],x,y]) w:=by
 rw [← hq,← hr]
 exact results_three h tmps w g hp #[v] (run_loadVar_row _ g 24 24 #[v] (0,0) _ X Tryz.underlying24 rfl (info24 v))
theorem run_any (l : List It) (v : Value) (ops : List Opn) (vo : Value) (w : World) (hv : RdI w v l) (hx : ∀ x ∈ l,x.path.length ≤ 140737488355328) (ho : RdO w vo ops) (hso : ∀ o ∈ ops,o.path.length ≤ 140737488355328 ∧ o.to.length ≤ 140737488355328) (hT : TabS w) :
  Calls Tryz.prog 25 #[.agg #[v],vo] w (RunR l ops w):=by
 obtain ⟨w1,hw1⟩:=nmq ((w.alloc (.cells #[v] 24)).alloc (.cells #[.slice none 0 0] 24))
 obtain ⟨b2,hb2⟩:=nmq (w.heap.size)
 have X2 : Hid (Box w1 b2 24 #[v]):=hyq (by rw [hw1,hb2]; exact box_new.alloc _)
 have X4 : Hid (Box w1 (b2 + 1) 24 #[.slice none 0 0]):=hyq (by rw [hw1,hb2,show w.heap.size + 1 = (w.alloc (.cells #[v] 24)).heap.size from by simp]; exact box_new)
 have HB1 : Hid (Below w.heap.size w w1):=hyq (by rw [hw1]; exact bch (below_new _ _) (below_new _ _))
 have HVA : Hid (∀ bb,bb = validT l → Calls Tryz.prog 45 #[v] w1 fun e w' => e = .returned (.bool bb) ∧ Below w1.heap.size w1 w'):=hyq (fun bb hbb => tvalid_is l bb hbb v w1 (hv.on HB1.out) hx (hT.on HB1.out).tab)
 obtain ⟨a,c,rfl,_⟩:=hv.open
 obtain ⟨ao,co,rfl,hmc,hcm,_⟩:=ho.open
 have hmM : ops.length ≤ 9223372036854775807:=Nat.le_trans (Nat.le_trans hmc hcm) (by decide)
 clear hmc hcm
 have HV:=hyq hv
 have HRO:=hyq ho
 have HT:=hyq hT
 have HSO:=hyq hso
 have HBE1 : Hid (w.heap.size ≤ b2):=hyq (by rw [hb2]; exact Nat.le_refl _)
 obtain ⟨n,hn⟩:=nmq (l.length)
 rw [← hn] at HV X2 HVA hw1 ⊢
 have HN:=hyq hn
 obtain ⟨m,hm⟩:=nmq (ops.length)
 rw [← hm] at HRO hmM ⊢
 have HM:=hyq hm
 have p0 : w1.cell? ⟨b2,0,none⟩ = some (.slice a n c):=X2.out.cell (k:=0) rfl
 clear hv ho hT hso hn hm
 obtain ⟨bb,hbb⟩:=nmq (validT l)
 have HV0:=hyq (HVA.out bb hbb)
 have HBB:=hyq hbb
 clear hbb HVA
 cases bb with
 | false =>
  go_enter Tryz.func25,Tryz.ntmps25
  go_wp2_with fail
  go_step3
  rw [← hw1,← hb2]
  clear hw1 hb2
  go_wp2_with fail
  refine HV0.out.mono ?_
  rintro e w2 ⟨rfl,hb⟩
  have X42:=hyq (X4.out.on hb)
  have HB2:=hyq (bch HB1.out hb)
  clear hb p0
  go_wp2_with (refine wpList_store_row rfl 24 (.tmp 4) (.tmp 17) rfl (b2 + 1) #[.slice none 0 0] rfl rfl 24 _ X42.out (info24 _) rfl (slice_one _ _ _) ?_)
  rw [Exit.noGoto_ret]
  exact bodyPost_ret (end_tree rfl _ (X42.out.row _) rfl rfl rfl) rfl ⟨below_row HB2.out (by have:=HBE1.out; omega) _,.inl ⟨HBB.out.symm,rfl⟩⟩
 | true =>
  have HOK : Hid (TreeOk l):=hyq (tree_ok HBB.out.symm)
  obtain ⟨B,hB⟩:=nmq (w1.heap.size)
  have hB2 : b2 + 1 < B:=by rw [hB]; exact X4.out.lt
  have hBw : w.heap.size ≤ B:=by rw [hB]; exact HB1.out.size
  have hB6 : 3 ≤ B:=by have:=HT.out.tab.one; omega
  have hbw:=HBE1.out
  have FIN : Hid (∀ W v' lk (many : Nat) (e : Int),runM l ops = (lk,many,e) → OwnI W B v' lk → Below w.heap.size w W → RunR l ops w (.returned (.tuple #[.agg #[v'],.int .i64 many,.int .i64 e])) (W.setRow (b2 + 1) #[v'])):=hyq (fun W v' lk many e h1 hO h3 => by
   refine ⟨below_row h3 (by omega) _,.inr ⟨HBB.out.symm,v',by rw [h1],?_⟩⟩
   rw [h1]
   refine own_base (B:=B) (hO.far fun k hk => setRow_other W (b2 + 1) k _ (fun e => ?_)) hBw
   rcases own_form hO with ⟨_,q⟩ | ⟨r,cc,_,hr,_,q,_⟩
   ·rw [q] at hk; cases hk
   ·rw [q] at hk; cases hk; omega)
  go_enter Tryz.func25,Tryz.ntmps25
  go_wp2_with fail
  go_step3
  rw [← hw1,← hb2]
  clear hw1 hb2
  go_wp2_with fail
  refine HV0.out.mono ?_
  rintro e w2 ⟨rfl,hb⟩
  have X22:=hyq (X2.out.on hb)
  have X42:=hyq (X4.out.on hb)
  have HB2:=hyq (bch HB1.out hb)
  have hs2 : B ≤ w2.heap.size:=by rw [hB]; exact hb.size
  have HCL:=hyq (clone_any l (.slice a n c) w2 (HV.out.on HB2.out) (Nat.le_trans HOK.out.many (by decide)))
  have p2 : w2.cell? ⟨b2,0,none⟩ = some (.slice a n c):=X22.out.cell (k:=0) rfl
  have HBQ : Hid (B = w1.heap.size):=hyq hB
  clear hb p0 hB
  go_wp2_with fail
  refine HCL.out.mono ?_
  rintro e w3 ⟨x',rfl,hown,hb3⟩
  have hO3 : OwnI w3 B x' l:=own_base hown hs2
  have X43:=X42.out.on hb3
  have HB3:=bch HB2.out hb3
  have hs3 : B ≤ w3.heap.size:=Nat.le_trans hs2 hb3.size
  obtain ⟨a3,n3,c3,rfl⟩:=own_any hO3
  obtain ⟨b7,hb7⟩:=nmq (w3.heap.size)
  obtain ⟨w4,hw4⟩:=nmq (w3.alloc (.cells #[.slice a3 n3 c3] 78))
  have hb34 : Below w3.heap.size w3 w4:=by rw [hw4]; exact below_new _ _
  have HG4 : Hid (Gr w4 B b7 (.slice a3 n3 c3) l):=hyq ⟨by rw [hw4,hb7]; exact box_new,hO3.on hb34,by rw [hb7]; exact own_apart hO3,by rw [hb7]; exact hs3⟩
  have X44:=hyq (X43.on hb34)
  have HB4:=hyq (bch HB3 hb34)
  have HKN:=hyq (kinds_any b7 w4)
  clear hown hb3 hO3 X43 HB3 hs3 hs2 hb34 p2 HCL X22
  go_upto_region 4 with fail
  rw [← hw4,← hb7]
  clear hw4 hb7
  go_wp2_with fail
  refine HKN.out.mono ?_
  rintro e w5 ⟨mb,nm,rfl,_,hmap,hb5⟩
  have HG5:=hyq (HG4.out.on hb5)
  have X45:=hyq (X44.out.on hb5)
  have HB5:=hyq (bch HB4.out hb5)
  have HM5:=hyq hmap
  have HR5 : Hid (runM l ops = ((runM l (ops.drop 0)).1,(runM l (ops.drop 0)).2.1 + 0,(runM l (ops.drop 0)).2.2)):=hyq rfl
  clear hmap hb5 HKN
  go_wp2_with fail
  go_step3
  go_wp2_with fail
  go_loopw [9,10,25] (fun d e i wr => ∃ (k : Nat) (lk : List It) (v' : Value),d = .int .i64 k ∧ e = .int .i64 0 ∧ i = .int .i64 k ∧ k ≤ m ∧ Hid (TreeOk lk) ∧ Hid (runM l ops = ((runM lk (ops.drop k)).1,(runM lk (ops.drop k)).2.1 + k,(runM lk (ops.drop k)).2.2)) ∧ Hid (Gr wr B b7 v' lk) ∧ Hid (Below w.heap.size w wr) ∧ Hid (wr.ownsMap Tryz.prog 3 RV mb nm (kindsD b7)) ∧ Hid (Box wr (b2 + 1) 24 #[.slice none 0 0])) (fun _ _ i _ => m - (Lib.intOf i).toNat)
  case atStart => exact ⟨0,l,_,rfl,rfl,rfl,Nat.zero_le _,HOK,HR5,HG5,HB5,HM5,X45⟩
  case round =>
   obtain ⟨k,lk,v',rfl,rfl,rfl,hkm,HOk,HRk,HGk,HBk,HMk,HXk⟩:=hrel
   obtain ⟨wq,hwq⟩:=nmq (wr)
   rw [← hwq] at HGk HBk HMk HXk ⊢
   clear hwq
   by_cases hlt : k < m
   ·obtain ⟨o,hko⟩ : ∃ o,ops[k]? = some o:=⟨_,List.getElem?_eq_getElem (by rw [← HM.out]; exact hlt)⟩
    have hdrop : ops.drop k = o :: ops.drop (k + 1):=by
     obtain ⟨h1,h2⟩:=List.getElem?_eq_some_iff.1 hko
     rw [List.drop_eq_getElem_cons h1,h2]
    have HDR:=hyq hdrop
    obtain ⟨hs1,hs2⟩:=HSO.out o (List.mem_of_getElem? hko)
    have hRq : RdO wq (.slice ao m co) ops:=by
     have:=HRO.out
     rw [HM.out] at this ⊢
     exact RdF.on this HBk.out
    obtain ⟨a',c',e,_,_,hc⟩:=hRq.open
    rw [← HM.out] at e
    cases e
    obtain ⟨g,oo,rfl,hg,hc⟩:=hc (by rw [← HM.out]; omega)
    obtain ⟨q0,q1,q2,q3⟩:=hc k o hko
    have HTq : Hid (TabS wq):=hyq (HT.out.on HBk.out)
    obtain ⟨w6,hw6⟩:=nmq (wq.alloc (.cells o.arr 46))
    obtain ⟨bo,hbo⟩:=nmq (wq.heap.size)
    have hb6 : Below wq.heap.size wq w6:=by rw [hw6]; exact below_new _ _
    have XO6 : Hid (Box w6 bo 46 o.arr):=hyq (by rw [hw6,hbo]; exact box_new)
    obtain ⟨z,hz⟩:=nmq (checkM o)
    have HZ:=hyq hz
    have HCK : Hid (Calls Tryz.prog 47 #[.agg #[.int .i64 o.kind,.string ⟨o.path.toArray⟩,.string ⟨o.to.toArray⟩,.string ⟨o.data.toArray⟩]] w6 (ChkR z w6)):=hyq (by rw [hz]; exact checkop_any o hs1 hs2 w6 (HTq.out.on hb6))
    have HG6:=hyq (HGk.out.on hb6)
    have HB6:=hyq (bch HBk.out hb6)
    have HM6 : Hid (w6.ownsMap Tryz.prog 3 RV mb nm (kindsD b7)):=hyq (map_far HMk.out (hb6.block mb HMk.out.lt))
    have HX6:=hyq (HXk.out.on hb6)
    have HT6:=hyq (HTq.out.on hb6)
    have m0 : w6.cell? ⟨bo,0,none⟩ = some (.int .i64 o.kind):=XO6.out.cell (k:=0) rfl
    have m1 : w6.cell? ⟨bo,1,none⟩ = some (.string ⟨o.path.toArray⟩):=XO6.out.cell (k:=1) rfl
    have m2 : w6.cell? ⟨bo,2,none⟩ = some (.string ⟨o.to.toArray⟩):=XO6.out.cell (k:=2) rfl
    have m3 : w6.cell? ⟨bo,3,none⟩ = some (.string ⟨o.data.toArray⟩):=XO6.out.cell (k:=3) rfl
    have k1 : (k : Int) < (m : Int):=by omega
    have k2 : (0 : Int) ≤ (k : Int):=by omega
    have hw6' : w6 = wq.alloc (.cells #[.int .i64 o.kind,.string ⟨o.path.toArray⟩,.string ⟨o.to.toArray⟩,.string ⟨o.data.toArray⟩] 46):=hw6
    clear hko hdrop hs1 hs2 hRq hc hg hz hb6 hw6
    go_upto_region 9 with fail
    rw [← hw6',← hbo]
    clear hw6' hbo q0 q1 q2 q3
    go_wp2_with fail
    refine HCK.out.mono ?_
    rintro e w7 ⟨rfl,hb⟩
    have XO7:=hyq (XO6.out.on hb)
    have HG7:=hyq (HG6.out.on hb)
    have HB7:=hyq (bch HB6.out hb)
    have HM7 : Hid (w7.ownsMap Tryz.prog 3 RV mb nm (kindsD b7)):=hyq (map_far HM6.out (hb.block mb HM6.out.lt))
    have HX7:=hyq (HX6.out.on hb)
    have HT7:=hyq (HT6.out.on hb)
    clear hb m0 m1 m2 m3 HCK
    by_cases hz0 : z = 0
    ·have hck : checkM o = 0:=by rw [← HZ.out]; exact hz0
     have HCO:=hyq (chk_ok hck)
     obtain ⟨j,hj⟩ : ∃ j : Nat,o.kind = j:=⟨o.kind.toNat,by have:=HCO.out.kind; omega⟩
     obtain ⟨r,hr⟩:=nmq (doesM lk o)
     have HACT : Hid (actM lk o = r):=hyq (by unfold actM; rw [if_neg (by simpa using hck),hr])
     have HME : Hid (Calls Tryz.prog (62 + j) #[.pointer (some ⟨b7,0,none⟩),.agg #[.int .i64 o.kind,.string ⟨o.path.toArray⟩,.string ⟨o.to.toArray⟩,.string ⟨o.data.toArray⟩]] w7 (GrR B b7 v' lk r w7)):=hyq (by rw [hr]; exact does_any B b7 v' lk o j hj HCO.out w7 HG7.out HOk.out HT7.out.tab)
     have HJ:=hyq hj
     have hj7 : j = 1 ∨ j = 2 ∨ j = 3 ∨ j = 4 ∨ j = 5 ∨ j = 6 ∨ j = 7:=by have:=HCO.out.kind; omega
     have n0 : w7.cell? ⟨bo,0,none⟩ = some (.int .i64 (j : Int)):=by rw [← hj]; exact XO7.out.cell (k:=0) rfl
     have n1 : w7.cell? ⟨bo,1,none⟩ = some (.string ⟨o.path.toArray⟩):=XO7.out.cell (k:=1) rfl
     have n2 : w7.cell? ⟨bo,2,none⟩ = some (.string ⟨o.to.toArray⟩):=XO7.out.cell (k:=2) rfl
     have n3 : w7.cell? ⟨bo,3,none⟩ = some (.string ⟨o.data.toArray⟩):=XO7.out.cell (k:=3) rfl
     rw [hj] at HME
     subst hz0
     have HLO : Hid ((Instr.lookup 79 (.map (some mb)) (.int .i64 (j : Int)) false).run Tryz.prog w7 = .ok (.func (.func (62 + j)) #[.pointer (some ⟨b7,0,none⟩)] #[]) w7):=hyq (by
      rcases hj7 with rfl | rfl | rfl | rfl | rfl | rfl | rfl
      ·exact look_meth HM7.out 1 _ (by kernel_rfl) (fun _ => rfl)
      ·exact look_meth HM7.out 2 _ (by kernel_rfl) (fun _ => rfl)
      ·exact look_meth HM7.out 3 _ (by kernel_rfl) (fun _ => rfl)
      ·exact look_meth HM7.out 4 _ (by kernel_rfl) (fun _ => rfl)
      ·exact look_meth HM7.out 5 _ (by kernel_rfl) (fun _ => rfl)
      ·exact look_meth HM7.out 6 _ (by kernel_rfl) (fun _ => rfl)
      ·exact look_meth HM7.out 7 _ (by kernel_rfl) (fun _ => rfl))
     clear hck hj hr
     rcases hj7 with rfl | rfl | rfl | rfl | rfl | rfl | rfl
     ·have L : (Instr.lookup 79 (.map (some mb)) (.int .i64 1) false).run Tryz.prog w7 = .ok (.func (.func 63) #[.pointer (some ⟨b7,0,none⟩)] #[]) w7:=HLO.out
      have n0' : w7.cell? ⟨bo,0,none⟩ = some (.int .i64 1):=n0
      have HME' : Hid (Calls Tryz.prog 63 #[.pointer (some ⟨b7,0,none⟩),.agg #[.int .i64 1,.string ⟨o.path.toArray⟩,.string ⟨o.to.toArray⟩,.string ⟨o.data.toArray⟩]] w7 (GrR B b7 v' lk r w7)):=HME
      clear n0 HME HLO HJ
      go_wp2_with fail
      refine HME'.out.mono ?_
      rintro e w8 ⟨v8,rfl,hG8,hN8⟩
      have HG8:=hyq hG8
      have HB8:=hyq (Nxt.low HB7.out hN8 HG7.out hBw)
      have HM8:=hyq (map_nxt HM7.out hN8 HG7.out)
      have HX8 : Hid (Box w8 (b2 + 1) 24 #[.slice none 0 0]):=hyq ((hN8.kept HG7.out (x:=b2 + 1) hB2).trans HX7.out)
      clear hG8 hN8 n0' n1 n2 n3 L
      cases r with
      | error z =>
       have hz : z ≠ 0:=act_err HACT.out
       have t1 : (z == 0) = false:=by simpa using hz
       have t2 : (z != 0) = true:=by simpa using hz
       have HRE : Hid (runM l ops = (lk,k,z)):=hyq (by rw [HRk.out,HDR.out,run_no HACT.out]; simp)
       have HGE : Hid (Gr w8 B b7 v8 lk):=HG8
       have HBE:=HB8
       have XE:=HX8
       obtain ⟨av,nv,cv,rfl⟩:=own_any HG8.out.own
       have pg : w8.cell? ⟨b7,0,none⟩ = some (.slice av nv cv):=HG8.out.box.cell (k:=0) rfl
       simp only [resO]
       clear hz
       go_wp2_with (refine wpList_store_row rfl 24 (.tmp 4) (.tmp 46) rfl (b2 + 1) #[.slice av nv cv] rfl rfl 24 _ XE.out (info24 _) rfl (slice_one _ _ _) ?_)
       rw [Exit.noGoto_ret]
       refine bodyPost_ret ?_ rfl (FIN.out _ _ _ _ _ HRE.out HGE.out.own HBE.out)
       exact end_tree rfl _ (XE.out.row _) rfl rfl rfl
      | ok l' =>
       have HOk' : Hid (TreeOk l'):=hyq (act_goes HOk.out HACT.out).2.ok
       have HRk' : Hid (runM l ops = ((runM l' (ops.drop (k + 1))).1,(runM l' (ops.drop (k + 1))).2.1 + (k + 1),(runM l' (ops.drop (k + 1))).2.2)):=hyq (by rw [HRk.out,HDR.out,run_yes HACT.out]; simp; omega)
       simp only [resO]
       go_wp2_with fail
       go_roundw
       case rel => exact ⟨k + 1,l',v8,by go_num,rfl,by go_num,hlt,HOk',HRk',HG8,HB8,HM8,HX8⟩
       case measure => simp [Lib.intOf]; omega
     ·have L : (Instr.lookup 79 (.map (some mb)) (.int .i64 2) false).run Tryz.prog w7 = .ok (.func (.func 64) #[.pointer (some ⟨b7,0,none⟩)] #[]) w7:=HLO.out
      have n0' : w7.cell? ⟨bo,0,none⟩ = some (.int .i64 2):=n0
      have HME' : Hid (Calls Tryz.prog 64 #[.pointer (some ⟨b7,0,none⟩),.agg #[.int .i64 2,.string ⟨o.path.toArray⟩,.string ⟨o.to.toArray⟩,.string ⟨o.data.toArray⟩]] w7 (GrR B b7 v' lk r w7)):=HME
      clear n0 HME HLO HJ
      go_wp2_with fail
      refine HME'.out.mono ?_
      rintro e w8 ⟨v8,rfl,hG8,hN8⟩
      have HG8:=hyq hG8
      have HB8:=hyq (Nxt.low HB7.out hN8 HG7.out hBw)
      have HM8:=hyq (map_nxt HM7.out hN8 HG7.out)
      have HX8 : Hid (Box w8 (b2 + 1) 24 #[.slice none 0 0]):=hyq ((hN8.kept HG7.out (x:=b2 + 1) hB2).trans HX7.out)
      clear hG8 hN8 n0' n1 n2 n3 L
      cases r with
      | error z =>
       have hz : z ≠ 0:=act_err HACT.out
       have t1 : (z == 0) = false:=by simpa using hz
       have t2 : (z != 0) = true:=by simpa using hz
       have HRE : Hid (runM l ops = (lk,k,z)):=hyq (by rw [HRk.out,HDR.out,run_no HACT.out]; simp)
       have HGE : Hid (Gr w8 B b7 v8 lk):=HG8
       have HBE:=HB8
       have XE:=HX8
       obtain ⟨av,nv,cv,rfl⟩:=own_any HG8.out.own
       have pg : w8.cell? ⟨b7,0,none⟩ = some (.slice av nv cv):=HG8.out.box.cell (k:=0) rfl
       simp only [resO]
       clear hz
       go_wp2_with (refine wpList_store_row rfl 24 (.tmp 4) (.tmp 46) rfl (b2 + 1) #[.slice av nv cv] rfl rfl 24 _ XE.out (info24 _) rfl (slice_one _ _ _) ?_)
       rw [Exit.noGoto_ret]
       refine bodyPost_ret ?_ rfl (FIN.out _ _ _ _ _ HRE.out HGE.out.own HBE.out)
       exact end_tree rfl _ (XE.out.row _) rfl rfl rfl
      | ok l' =>
       have HOk' : Hid (TreeOk l'):=hyq (act_goes HOk.out HACT.out).2.ok
       have HRk' : Hid (runM l ops = ((runM l' (ops.drop (k + 1))).1,(runM l' (ops.drop (k + 1))).2.1 + (k + 1),(runM l' (ops.drop (k + 1))).2.2)):=hyq (by rw [HRk.out,HDR.out,run_yes HACT.out]; simp; omega)
       simp only [resO]
       go_wp2_with fail
       go_roundw
       case rel => exact ⟨k + 1,l',v8,by go_num,rfl,by go_num,hlt,HOk',HRk',HG8,HB8,HM8,HX8⟩
       case measure => simp [Lib.intOf]; omega
     ·have L : (Instr.lookup 79 (.map (some mb)) (.int .i64 3) false).run Tryz.prog w7 = .ok (.func (.func 65) #[.pointer (some ⟨b7,0,none⟩)] #[]) w7:=HLO.out
      have n0' : w7.cell? ⟨bo,0,none⟩ = some (.int .i64 3):=n0
      have HME' : Hid (Calls Tryz.prog 65 #[.pointer (some ⟨b7,0,none⟩),.agg #[.int .i64 3,.string ⟨o.path.toArray⟩,.string ⟨o.to.toArray⟩,.string ⟨o.data.toArray⟩]] w7 (GrR B b7 v' lk r w7)):=HME
      clear n0 HME HLO HJ
      go_wp2_with fail
      refine HME'.out.mono ?_
      rintro e w8 ⟨v8,rfl,hG8,hN8⟩
      have HG8:=hyq hG8
      have HB8:=hyq (Nxt.low HB7.out hN8 HG7.out hBw)
      have HM8:=hyq (map_nxt HM7.out hN8 HG7.out)
      have HX8 : Hid (Box w8 (b2 + 1) 24 #[.slice none 0 0]):=hyq ((hN8.kept HG7.out (x:=b2 + 1) hB2).trans HX7.out)
      clear hG8 hN8 n0' n1 n2 n3 L
      cases r with
      | error z =>
       have hz : z ≠ 0:=act_err HACT.out
       have t1 : (z == 0) = false:=by simpa using hz
       have t2 : (z != 0) = true:=by simpa using hz
       have HRE : Hid (runM l ops = (lk,k,z)):=hyq (by rw [HRk.out,HDR.out,run_no HACT.out]; simp)
       have HGE : Hid (Gr w8 B b7 v8 lk):=HG8
       have HBE:=HB8
       have XE:=HX8
       obtain ⟨av,nv,cv,rfl⟩:=own_any HG8.out.own
       have pg : w8.cell? ⟨b7,0,none⟩ = some (.slice av nv cv):=HG8.out.box.cell (k:=0) rfl
       simp only [resO]
       clear hz
       go_wp2_with (refine wpList_store_row rfl 24 (.tmp 4) (.tmp 46) rfl (b2 + 1) #[.slice av nv cv] rfl rfl 24 _ XE.out (info24 _) rfl (slice_one _ _ _) ?_)
       rw [Exit.noGoto_ret]
       refine bodyPost_ret ?_ rfl (FIN.out _ _ _ _ _ HRE.out HGE.out.own HBE.out)
       exact end_tree rfl _ (XE.out.row _) rfl rfl rfl
      | ok l' =>
       have HOk' : Hid (TreeOk l'):=hyq (act_goes HOk.out HACT.out).2.ok
       have HRk' : Hid (runM l ops = ((runM l' (ops.drop (k + 1))).1,(runM l' (ops.drop (k + 1))).2.1 + (k + 1),(runM l' (ops.drop (k + 1))).2.2)):=hyq (by rw [HRk.out,HDR.out,run_yes HACT.out]; simp; omega)
       simp only [resO]
       go_wp2_with fail
       go_roundw
       case rel => exact ⟨k + 1,l',v8,by go_num,rfl,by go_num,hlt,HOk',HRk',HG8,HB8,HM8,HX8⟩
       case measure => simp [Lib.intOf]; omega
     ·have L : (Instr.lookup 79 (.map (some mb)) (.int .i64 4) false).run Tryz.prog w7 = .ok (.func (.func 66) #[.pointer (some ⟨b7,0,none⟩)] #[]) w7:=HLO.out
      have n0' : w7.cell? ⟨bo,0,none⟩ = some (.int .i64 4):=n0
      have HME' : Hid (Calls Tryz.prog 66 #[.pointer (some ⟨b7,0,none⟩),.agg #[.int .i64 4,.string ⟨o.path.toArray⟩,.string ⟨o.to.toArray⟩,.string ⟨o.data.toArray⟩]] w7 (GrR B b7 v' lk r w7)):=HME
      clear n0 HME HLO HJ
      go_wp2_with fail
      refine HME'.out.mono ?_
      rintro e w8 ⟨v8,rfl,hG8,hN8⟩
      have HG8:=hyq hG8
      have HB8:=hyq (Nxt.low HB7.out hN8 HG7.out hBw)
      have HM8:=hyq (map_nxt HM7.out hN8 HG7.out)
      have HX8 : Hid (Box w8 (b2 + 1) 24 #[.slice none 0 0]):=hyq ((hN8.kept HG7.out (x:=b2 + 1) hB2).trans HX7.out)
      clear hG8 hN8 n0' n1 n2 n3 L
      cases r with
      | error z =>
       have hz : z ≠ 0:=act_err HACT.out
       have t1 : (z == 0) = false:=by simpa using hz
       have t2 : (z != 0) = true:=by simpa using hz
       have HRE : Hid (runM l ops = (lk,k,z)):=hyq (by rw [HRk.out,HDR.out,run_no HACT.out]; simp)
       have HGE : Hid (Gr w8 B b7 v8 lk):=HG8
       have HBE:=HB8
       have XE:=HX8
       obtain ⟨av,nv,cv,rfl⟩:=own_any HG8.out.own
       have pg : w8.cell? ⟨b7,0,none⟩ = some (.slice av nv cv):=HG8.out.box.cell (k:=0) rfl
       simp only [resO]
       clear hz
       go_wp2_with (refine wpList_store_row rfl 24 (.tmp 4) (.tmp 46) rfl (b2 + 1) #[.slice av nv cv] rfl rfl 24 _ XE.out (info24 _) rfl (slice_one _ _ _) ?_)
       rw [Exit.noGoto_ret]
       refine bodyPost_ret ?_ rfl (FIN.out _ _ _ _ _ HRE.out HGE.out.own HBE.out)
       exact end_tree rfl _ (XE.out.row _) rfl rfl rfl
      | ok l' =>
       have HOk' : Hid (TreeOk l'):=hyq (act_goes HOk.out HACT.out).2.ok
       have HRk' : Hid (runM l ops = ((runM l' (ops.drop (k + 1))).1,(runM l' (ops.drop (k + 1))).2.1 + (k + 1),(runM l' (ops.drop (k + 1))).2.2)):=hyq (by rw [HRk.out,HDR.out,run_yes HACT.out]; simp; omega)
       simp only [resO]
       go_wp2_with fail
       go_roundw
       case rel => exact ⟨k + 1,l',v8,by go_num,rfl,by go_num,hlt,HOk',HRk',HG8,HB8,HM8,HX8⟩
       case measure => simp [Lib.intOf]; omega
     ·have L : (Instr.lookup 79 (.map (some mb)) (.int .i64 5) false).run Tryz.prog w7 = .ok (.func (.func 67) #[.pointer (some ⟨b7,0,none⟩)] #[]) w7:=HLO.out
      have n0' : w7.cell? ⟨bo,0,none⟩ = some (.int .i64 5):=n0
      have HME' : Hid (Calls Tryz.prog 67 #[.pointer (some ⟨b7,0,none⟩),.agg #[.int .i64 5,.string ⟨o.path.toArray⟩,.string ⟨o.to.toArray⟩,.string ⟨o.data.toArray⟩]] w7 (GrR B b7 v' lk r w7)):=HME
      clear n0 HME HLO HJ
      go_wp2_with fail
      refine HME'.out.mono ?_
      rintro e w8 ⟨v8,rfl,hG8,hN8⟩
      have HG8:=hyq hG8
      have HB8:=hyq (Nxt.low HB7.out hN8 HG7.out hBw)
      have HM8:=hyq (map_nxt HM7.out hN8 HG7.out)
      have HX8 : Hid (Box w8 (b2 + 1) 24 #[.slice none 0 0]):=hyq ((hN8.kept HG7.out (x:=b2 + 1) hB2).trans HX7.out)
      clear hG8 hN8 n0' n1 n2 n3 L
      cases r with
      | error z =>
       have hz : z ≠ 0:=act_err HACT.out
       have t1 : (z == 0) = false:=by simpa using hz
       have t2 : (z != 0) = true:=by simpa using hz
       have HRE : Hid (runM l ops = (lk,k,z)):=hyq (by rw [HRk.out,HDR.out,run_no HACT.out]; simp)
       have HGE : Hid (Gr w8 B b7 v8 lk):=HG8
       have HBE:=HB8
       have XE:=HX8
       obtain ⟨av,nv,cv,rfl⟩:=own_any HG8.out.own
       have pg : w8.cell? ⟨b7,0,none⟩ = some (.slice av nv cv):=HG8.out.box.cell (k:=0) rfl
       simp only [resO]
       clear hz
       go_wp2_with (refine wpList_store_row rfl 24 (.tmp 4) (.tmp 46) rfl (b2 + 1) #[.slice av nv cv] rfl rfl 24 _ XE.out (info24 _) rfl (slice_one _ _ _) ?_)
       rw [Exit.noGoto_ret]
       refine bodyPost_ret ?_ rfl (FIN.out _ _ _ _ _ HRE.out HGE.out.own HBE.out)
       exact end_tree rfl _ (XE.out.row _) rfl rfl rfl
      | ok l' =>
       have HOk' : Hid (TreeOk l'):=hyq (act_goes HOk.out HACT.out).2.ok
       have HRk' : Hid (runM l ops = ((runM l' (ops.drop (k + 1))).1,(runM l' (ops.drop (k + 1))).2.1 + (k + 1),(runM l' (ops.drop (k + 1))).2.2)):=hyq (by rw [HRk.out,HDR.out,run_yes HACT.out]; simp; omega)
       simp only [resO]
       go_wp2_with fail
       go_roundw
       case rel => exact ⟨k + 1,l',v8,by go_num,rfl,by go_num,hlt,HOk',HRk',HG8,HB8,HM8,HX8⟩
       case measure => simp [Lib.intOf]; omega
     ·have L : (Instr.lookup 79 (.map (some mb)) (.int .i64 6) false).run Tryz.prog w7 = .ok (.func (.func 68) #[.pointer (some ⟨b7,0,none⟩)] #[]) w7:=HLO.out
      have n0' : w7.cell? ⟨bo,0,none⟩ = some (.int .i64 6):=n0
      have HME' : Hid (Calls Tryz.prog 68 #[.pointer (some ⟨b7,0,none⟩),.agg #[.int .i64 6,.string ⟨o.path.toArray⟩,.string ⟨o.to.toArray⟩,.string ⟨o.data.toArray⟩]] w7 (GrR B b7 v' lk r w7)):=HME
      clear n0 HME HLO HJ
      go_wp2_with fail
      refine HME'.out.mono ?_
      rintro e w8 ⟨v8,rfl,hG8,hN8⟩
      have HG8:=hyq hG8
      have HB8:=hyq (Nxt.low HB7.out hN8 HG7.out hBw)
      have HM8:=hyq (map_nxt HM7.out hN8 HG7.out)
      have HX8 : Hid (Box w8 (b2 + 1) 24 #[.slice none 0 0]):=hyq ((hN8.kept HG7.out (x:=b2 + 1) hB2).trans HX7.out)
      clear hG8 hN8 n0' n1 n2 n3 L
      cases r with
      | error z =>
       have hz : z ≠ 0:=act_err HACT.out
       have t1 : (z == 0) = false:=by simpa using hz
       have t2 : (z != 0) = true:=by simpa using hz
       have HRE : Hid (runM l ops = (lk,k,z)):=hyq (by rw [HRk.out,HDR.out,run_no HACT.out]; simp)
       have HGE : Hid (Gr w8 B b7 v8 lk):=HG8
       have HBE:=HB8
       have XE:=HX8
       obtain ⟨av,nv,cv,rfl⟩:=own_any HG8.out.own
       have pg : w8.cell? ⟨b7,0,none⟩ = some (.slice av nv cv):=HG8.out.box.cell (k:=0) rfl
       simp only [resO]
       clear hz
       go_wp2_with (refine wpList_store_row rfl 24 (.tmp 4) (.tmp 46) rfl (b2 + 1) #[.slice av nv cv] rfl rfl 24 _ XE.out (info24 _) rfl (slice_one _ _ _) ?_)
       rw [Exit.noGoto_ret]
       refine bodyPost_ret ?_ rfl (FIN.out _ _ _ _ _ HRE.out HGE.out.own HBE.out)
       exact end_tree rfl _ (XE.out.row _) rfl rfl rfl
      | ok l' =>
       have HOk' : Hid (TreeOk l'):=hyq (act_goes HOk.out HACT.out).2.ok
       have HRk' : Hid (runM l ops = ((runM l' (ops.drop (k + 1))).1,(runM l' (ops.drop (k + 1))).2.1 + (k + 1),(runM l' (ops.drop (k + 1))).2.2)):=hyq (by rw [HRk.out,HDR.out,run_yes HACT.out]; simp; omega)
       simp only [resO]
       go_wp2_with fail
       go_roundw
       case rel => exact ⟨k + 1,l',v8,by go_num,rfl,by go_num,hlt,HOk',HRk',HG8,HB8,HM8,HX8⟩
       case measure => simp [Lib.intOf]; omega
     ·have L : (Instr.lookup 79 (.map (some mb)) (.int .i64 7) false).run Tryz.prog w7 = .ok (.func (.func 69) #[.pointer (some ⟨b7,0,none⟩)] #[]) w7:=HLO.out
      have n0' : w7.cell? ⟨bo,0,none⟩ = some (.int .i64 7):=n0
      have HME' : Hid (Calls Tryz.prog 69 #[.pointer (some ⟨b7,0,none⟩),.agg #[.int .i64 7,.string ⟨o.path.toArray⟩,.string ⟨o.to.toArray⟩,.string ⟨o.data.toArray⟩]] w7 (GrR B b7 v' lk r w7)):=HME
      clear n0 HME HLO HJ
      go_wp2_with fail
      refine HME'.out.mono ?_
      rintro e w8 ⟨v8,rfl,hG8,hN8⟩
      have HG8:=hyq hG8
      have HB8:=hyq (Nxt.low HB7.out hN8 HG7.out hBw)
      have HM8:=hyq (map_nxt HM7.out hN8 HG7.out)
      have HX8 : Hid (Box w8 (b2 + 1) 24 #[.slice none 0 0]):=hyq ((hN8.kept HG7.out (x:=b2 + 1) hB2).trans HX7.out)
      clear hG8 hN8 n0' n1 n2 n3 L
      cases r with
      | error z =>
       have hz : z ≠ 0:=act_err HACT.out
       have t1 : (z == 0) = false:=by simpa using hz
       have t2 : (z != 0) = true:=by simpa using hz
       have HRE : Hid (runM l ops = (lk,k,z)):=hyq (by rw [HRk.out,HDR.out,run_no HACT.out]; simp)
       have HGE : Hid (Gr w8 B b7 v8 lk):=HG8
       have HBE:=HB8
       have XE:=HX8
       obtain ⟨av,nv,cv,rfl⟩:=own_any HG8.out.own
       have pg : w8.cell? ⟨b7,0,none⟩ = some (.slice av nv cv):=HG8.out.box.cell (k:=0) rfl
       simp only [resO]
       clear hz
       go_wp2_with (refine wpList_store_row rfl 24 (.tmp 4) (.tmp 46) rfl (b2 + 1) #[.slice av nv cv] rfl rfl 24 _ XE.out (info24 _) rfl (slice_one _ _ _) ?_)
       rw [Exit.noGoto_ret]
       refine bodyPost_ret ?_ rfl (FIN.out _ _ _ _ _ HRE.out HGE.out.own HBE.out)
       exact end_tree rfl _ (XE.out.row _) rfl rfl rfl
      | ok l' =>
       have HOk' : Hid (TreeOk l'):=hyq (act_goes HOk.out HACT.out).2.ok
       have HRk' : Hid (runM l ops = ((runM l' (ops.drop (k + 1))).1,(runM l' (ops.drop (k + 1))).2.1 + (k + 1),(runM l' (ops.drop (k + 1))).2.2)):=hyq (by rw [HRk.out,HDR.out,run_yes HACT.out]; simp; omega)
       simp only [resO]
       go_wp2_with fail
       go_roundw
       case rel => exact ⟨k + 1,l',v8,by go_num,rfl,by go_num,hlt,HOk',HRk',HG8,HB8,HM8,HX8⟩
       case measure => simp [Lib.intOf]; omega
    ·have t1 : (z == 0) = false:=by simpa using hz0
     have t2 : (z != 0) = true:=by simpa using hz0
     have HACT : Hid (actM lk o = .error z):=hyq (by unfold actM; rw [← HZ.out,if_pos hz0])
     have HRE : Hid (runM l ops = (lk,k,z)):=hyq (by rw [HRk.out,HDR.out,run_no HACT.out]; simp)
     have HGE : Hid (Gr w7 B b7 v' lk):=HG7
     have HBE:=HB7
     have XE:=HX7
     obtain ⟨av,nv,cv,rfl⟩:=own_any HG7.out.own
     have pg : w7.cell? ⟨b7,0,none⟩ = some (.slice av nv cv):=HG7.out.box.cell (k:=0) rfl
     clear hz0
     go_wp2_with (refine wpList_store_row rfl 24 (.tmp 4) (.tmp 46) rfl (b2 + 1) #[.slice av nv cv] rfl rfl 24 _ XE.out (info24 _) rfl (slice_one _ _ _) ?_)
     rw [Exit.noGoto_ret]
     refine bodyPost_ret ?_ rfl (FIN.out _ _ _ _ _ HRE.out HGE.out.own HBE.out)
     exact end_tree rfl _ (XE.out.row _) rfl rfl rfl
   ·obtain rfl : k = m:=by omega
    have k1 : ¬ ((k : Int) < (k : Int)):=by omega
    have HRE : Hid (runM l ops = (lk,k,0)):=hyq (by
     have h1 : ops.drop k = []:=List.drop_of_length_le (by rw [← HM.out]; exact Nat.le_refl _)
     rw [HRk.out,h1]
     simp [runM])
    have HGE : Hid (Gr wq B b7 v' lk):=HGk
    have HBE:=HBk
    have XE:=HXk
    obtain ⟨av,nv,cv,rfl⟩:=own_any HGk.out.own
    have pg : wq.cell? ⟨b7,0,none⟩ = some (.slice av nv cv):=HGk.out.box.cell (k:=0) rfl
    go_wp2_with (refine wpList_store_row rfl 24 (.tmp 4) (.tmp 46) rfl (b2 + 1) #[.slice av nv cv] rfl rfl 24 _ XE.out (info24 _) rfl (slice_one _ _ _) ?_)
    refine bodyPost_ret ?_ rfl (FIN.out _ _ _ _ _ HRE.out HGE.out.own HBE.out)
    exact end_tree rfl _ (XE.out.row _) rfl rfl rfl
end Go.Proofs.YtigopecainocgaaGreatDoor
