/- Proved here: run of package disk. | Proved here: change of package disk, handed each of the three closures: what the closure makes of the tree as it is, or ErrDisk. | Proved here: Run of package disk. | Proved here: kept of package disk: the operations of which a fall leaves something. | Proved here: fresh, New  -/
import Derived.Test.YtigopecainocgaaGreatDoorTK
import Derived.Test.YtigopecainocgaaGreatDoorDMA
import Derived.Test.YtigopecainocgaaGreatDoorDME
import Derived.WalkMore
import Derived.ControlIn
import Derived.Deep.AppendSrc
import Derived.Deep.Upon
set_option maxRecDepth 100000
set_option maxHeartbeats 32000000
namespace Go.Proofs.YtigopecainocgaaGreatDoor
open Go.RowKit Go.Shelf
attribute [local go_sem] Oper.semAt_some
theorem scope_wide {P : Program} {n : Nat} {c : Code} {Q : Exit → Act → World → Prop} {a : Act} {w : World} (h : c.wpIn Fence.wide n P (Exit.noGoto Q) a w) : (Code.scope c).wpIn Fence.wide n P Q a w:=wpIn_wide.2 (wp_scope_straight (wpIn_wide.1 h))
theorem ownR_not {w : World} {B sz n : Nat} {e : TypeId} {v : Value} {xs : List Value} (h : w.ownsRow B e sz v n xs) {g : Nat} {t : TypeId} {cs : Array Value} (hX : Box w g t cs) (ht : t ≠ e) : v.ownBlock ≠ some g:=fun q => by
 obtain ⟨_,cs',hc⟩:=ownR_blk h q
 rw [show w.heap[g]? = _ from hX] at hc
 injection hc with hc
 injection hc with _ hc
 exact ht hc
def T4 (b8 b11 : Nat) (iv : Value) (b : Nat) : Prop:=b = b8 ∨ b = b11 ∨ b = b11 + 1 ∨ b = b11 + 1 + 1 ∨ iv.ownBlock = some b
structure JB (b8 b11 B : Nat) (iv : Value) (s : List It) (k : Nat) (v : Value) (r e : Int) (X : World) : Prop where
 x8 : Box X b8 27 #[.slice none 0 0,.slice none 0 0,.int .i64 0]
 x11 : Box X b11 27 #[iv,v,.int .i64 r]
 x12 : Box X (b11 + 1) 3 #[.int .i64 k]
 x13 : Box X (b11 + 1 + 1) 32 #[.int .i64 e]
 own : OwnI X B iv s
theorem JB.keep {b8 b11 B : Nat} {iv : Value} {s : List It} {k : Nat} {v : Value} {r e : Int} {X Y : World} (h : JB b8 b11 B iv s k v r e X) (hk : ∀ b,T4 b8 b11 iv b → Y.heap[b]? = X.heap[b]?) : JB b8 b11 B iv s k v r e Y :=
 ⟨(hk _ (.inl rfl)).trans h.x8,(hk _ (.inr (.inl rfl))).trans h.x11,(hk _ (.inr (.inr (.inl rfl)))).trans h.x12,(hk _ (.inr (.inr (.inr (.inl rfl))))).trans h.x13,h.own.far fun q hq => hk q (.inr (.inr (.inr (.inr hq))))⟩
def RunDR (x : Dsk × Nat × Int) (w : World) (e : Ending) (w' : World) : Prop:=∃ iv wv,e = .returned (.tuple #[.agg #[iv,wv,.int .i64 x.1.room],.int .i64 (x.2.1 : Nat),.int .i64 x.2.2]) ∧ OwnI w' w.heap.size iv x.1.safe ∧ OwnO w' w.heap.size wv x.1.wait ∧ Below w.heap.size w w'
theorem run41 (d : Dsk) (iv wv : Value) (t : List It) (tv : Value) (ops : List Opn) (lv : Value) (free : Bool) (w : World) (h : RdD w iv wv d) (hz : SzD d) (hn : nowM d = some t) (ht : RdI w tv t) (ho : RdO w lv ops) (hol : ops.length ≤ 50000) (hso : ∀ o ∈ ops,o.path.length ≤ 140737488355328 ∧ o.to.length ≤ 140737488355328) (hT : TabS w) :
  Calls Tryz.prog 41 #[.agg #[iv,wv,.int .i64 d.room],.agg #[tv],lv,.bool free] w (RunDR (behindM d ops (drun free t d.wait.length d.room ops),(drun free t d.wait.length d.room ops).2.1,(drun free t d.wait.length d.room ops).2.2) w):=by
 refine (callsIn_wide (n:=5)).1 ?_
 obtain ⟨hn1,hn2,hn3,hn4,hn5⟩:=now_some hn
 have hval:=now_valid hn
 have hsl : d.safe.length ≤ 2000:=(tree_ok hn3).many
 obtain ⟨ia,ic,rfl,_⟩:=h.items.open
 obtain ⟨wa,wc,rfl,_⟩:=h.wait.open
 obtain ⟨ta,tc,rfl,_⟩:=ht.open
 obtain ⟨la,lc,rfl,_⟩:=ho.open
 obtain ⟨A0,hA0⟩:=nmq ((Value.agg #[.slice ia d.safe.length ic,.slice wa d.wait.length wc,.int .i64 d.room]))
 obtain ⟨w1,hw1⟩:=nmq (((w.alloc (.cells #[.slice ia d.safe.length ic,.slice wa d.wait.length wc,.int .i64 d.room] 27)).alloc (.cells #[.slice ta t.length tc] 24)).alloc (.cells #[.slice none 0 0,.slice none 0 0,.int .i64 0] 27))
 obtain ⟨bd,hbd⟩:=nmq (w.heap.size)
 have X0 : Hid (Box w1 bd 27 #[.slice ia d.safe.length ic,.slice wa d.wait.length wc,.int .i64 d.room]):=hyq (by rw [hw1,hbd]; exact (box_new.alloc _).alloc _)
 have X1 : Hid (Box w1 (bd + 1) 24 #[.slice ta t.length tc]):=hyq (by rw [hw1,hbd,show w.heap.size + 1 = (w.alloc (.cells #[.slice ia d.safe.length ic,.slice wa d.wait.length wc,.int .i64 d.room] 27)).heap.size from by simp]; exact box_new.alloc _)
 have X2 : Hid (Box w1 (bd + 1 + 1) 27 #[.slice none 0 0,.slice none 0 0,.int .i64 0]):=hyq (by rw [hw1,hbd,show w.heap.size + 1 + 1 = ((w.alloc (.cells #[.slice ia d.safe.length ic,.slice wa d.wait.length wc,.int .i64 d.room] 27)).alloc (.cells #[.slice ta t.length tc] 24)).heap.size from by simp]; exact box_new)
 have HB1 : Hid (Below w.heap.size w w1):=hyq (by rw [hw1]; exact bch (bch (below_new _ _) (below_new _ _)) (below_new _ _))
 have HCO:=hyq (copied_is d _ _ w1 (h.on HB1.out) hsl hn1)
 have HBD : Hid (bd = w.heap.size):=hyq hbd
 have HEA : Hid (∀ W iv' wa' wc',Below w.heap.size w W → Calls Tryz.prog 58 #[.agg #[iv',.slice wa' d.wait.length wc',.int .i64 d.room],.agg #[.slice ta t.length tc],.slice la ops.length lc,.bool free] W (EachR iv' (.slice wa' d.wait.length wc') d.room (.slice la ops.length lc) free (runM t (ops.take (8000 - d.wait.length))).2.1 (runM t (ops.take (8000 - d.wait.length))).2.2 W)):=hyq (fun W iv' wa' wc' hW => each_is iv' wa' d.wait.length wc' d.room t _ ops _ free W hn1 (ht.on hW) hval (ho.on hW) hso (hT.on hW))
 obtain ⟨room,hroom⟩:=nmq (d.room)
 obtain ⟨i,hi⟩:=nmq (d.safe.length)
 obtain ⟨n,hnn⟩:=nmq (d.wait.length)
 obtain ⟨tn,htn⟩:=nmq (t.length)
 obtain ⟨m,hm⟩:=nmq (ops.length)
 obtain ⟨fine,hfine⟩:=nmq ((runM t (ops.take (8000 - d.wait.length))).2.1)
 obtain ⟨fault,hfault⟩:=nmq ((runM t (ops.take (8000 - d.wait.length))).2.2)
 have FIN : Hid (∀ (v : Value) (r : Int) (many : Nat) (er : Int) iv' W,goD free fine fault 0 d.wait.length room ops = (r,many,er) → OwnI W w.heap.size iv' d.safe → OwnO W w.heap.size v (d.wait ++ ops.take many) → Below w.heap.size w W → RunDR (behindM d ops (drun free t d.wait.length d.room ops),(drun free t d.wait.length d.room ops).2.1,(drun free t d.wait.length d.room ops).2.2) w (.returned (.tuple #[.agg #[iv',v,.int .i64 r],.int .i64 many,.int .i64 er])) W):=hyq (fun v r many er iv' W h1 h2 h3 h4 => by
  have hgo:=go_drun free t d.wait.length 0 d.room ops hn1
  rw [Nat.add_zero,← hfine,← hfault,← hroom,h1] at hgo
  rw [← hroom,← hgo]
  exact ⟨iv',v,rfl,h2,h3,h4⟩)
 have HWL : Hid (d.wait.length ≤ 8000 ∧ ops.length ≤ 100000 ∧ (-1 ≤ room ∧ room ≤ 9223372036854775807)):=hyq ⟨hn1,by omega,by rw [hroom]; exact hn2,by rw [hroom]; exact hz.room.2⟩
 rw [← hfine,← hfault] at HEA
 rw [← hi,← hnn,← hroom] at X0 hA0
 rw [← hi,← hnn,← hroom,← htn] at hw1
 rw [← hi,← hnn,← hroom] at HCO
 rw [← htn] at X1
 rw [← hnn,← htn,← hm,← hroom] at HEA
 have HI:=hyq hi
 have HN:=hyq hnn
 have HM:=hyq hm
 have HLO : Hid (RdO w (.slice la m lc) ops):=hyq (by rw [hm]; exact ho)
 have HRM:=hyq hroom
 obtain ⟨PP,hPP⟩:=nmq (RunDR (behindM d ops (drun free t d.wait.length d.room ops),(drun free t d.wait.length d.room ops).2.1,(drun free t d.wait.length d.room ops).2.2) w)
 rw [← hPP] at FIN ⊢
 rw [← hi,← hnn,← hroom,← htn,← hm]
 have d0 : w1.cell? ⟨bd,0,none⟩ = some (.slice ia i ic):=X0.out.cell (k:=0) rfl
 have d1 : w1.cell? ⟨bd,1,none⟩ = some (.slice wa n wc):=X0.out.cell (k:=1) rfl
 have d2 : w1.cell? ⟨bd,2,none⟩ = some (.int .i64 room):=X0.out.cell (k:=2) rfl
 clear h hz hn ht ho hso hT hn1 hn2 hn3 hn4 hn5 hval hsl hroom hi hnn htn hm hfine hfault hPP
 refine callsIn_of_wp_marks Tryz.func41 rfl trivial ?_ rfl
 simp only [Tryz.ntmps41,List.size_toArray,List.length_cons,List.length_nil,Nat.reduceAdd,Nat.reduceSub,Array.replicate_succ,Array.replicate_zero,List.push_toArray,List.append_toArray,List.nil_append,List.cons_append]
 rw [← hA0]
 gi_wp2_with (first | (rw [← hw1,← hbd]; clear hw1 hbd) | (refine scope_wide ?_) | (refine ⟨trivial,?_⟩; gi_at_call 57; refine (callsIn_wide.2 HCO.out).mono ?_; rintro e w2 ⟨iv',wv',he2,hoI,hoW,hb2⟩; rw [← HRM.out] at he2; subst he2; refine Hid.out ?_))
 refine hyq ?_
 obtain ⟨a2,i2,c2,rfl⟩:=own_any hoI
 obtain ⟨a3,c3,hv3⟩:=hoW.any
 rw [← HN.out] at hv3
 subst hv3
 obtain ⟨b11,hb11⟩:=nmq (w2.heap.size)
 obtain ⟨V2,hV2⟩:=nmq ((((w2.alloc (.cells #[.slice none 0 0,.slice none 0 0,.int .i64 0] 27)).alloc (.cells #[.int .i64 0] 3)).alloc (.cells #[.int .i64 0] 32)).setRow w2.heap.size #[.slice a2 i2 c2,.slice a3 n c3,.int .i64 room])
 have hb22 : Below w2.heap.size w2 V2:=by rw [hV2]; exact below_row (bch (bch (below_new _ _) (below_new _ _)) (below_new _ _)) (Nat.le_refl _) _
 have Z11 : Hid (Box V2 b11 27 #[.slice a2 i2 c2,.slice a3 n c3,.int .i64 room]):=hyq (by rw [hV2,hb11]; exact Box.row ((box_new.alloc _).alloc _) _)
 have Z12 : Hid (Box V2 (b11 + 1) 3 #[.int .i64 0]):=hyq (by
  rw [hV2,hb11,show w2.heap.size + 1 = (w2.alloc (.cells #[.slice none 0 0,.slice none 0 0,.int .i64 0] 27)).heap.size from by simp]
  exact (setRow_other _ _ _ _ (by simp)).trans (box_new.alloc _))
 have Z13 : Hid (Box V2 (b11 + 1 + 1) 32 #[.int .i64 0]):=hyq (by
  rw [hV2,hb11,show w2.heap.size + 1 + 1 = ((w2.alloc (.cells #[.slice none 0 0,.slice none 0 0,.int .i64 0] 27)).alloc (.cells #[.int .i64 0] 3)).heap.size from by simp]
  exact (setRow_other _ _ _ _ (by simp; omega)).trans box_new)
 obtain ⟨V3,hV3⟩:=nmq (V2.setCell ⟨b11 + 1,0,none⟩ (.int .i64 0))
 obtain ⟨V4,hV4⟩:=nmq (V3.setCell ⟨b11 + 1 + 1,0,none⟩ (.int .i64 0))
 have Y13 : Box V3 (b11 + 1 + 1) 32 #[.int .i64 0]:=by rw [hV3]; exact Z13.out.far (by show b11 + 1 + 1 ≠ b11 + 1; omega) _
 have U11 : Hid (Box V4 b11 27 #[.slice a2 i2 c2,.slice a3 n c3,.int .i64 room]):=hyq (by rw [hV4,hV3]; exact (Z11.out.far (by show b11 ≠ b11 + 1; omega) _).far (by show b11 ≠ b11 + 1 + 1; omega) _)
 have U12 : Hid (Box V4 (b11 + 1) 3 #[.int .i64 0]):=hyq (by rw [hV4,hV3]; exact (Z12.out.set (k:=0) _).far (by show b11 + 1 ≠ b11 + 1 + 1; omega) _)
 have U13 : Hid (Box V4 (b11 + 1 + 1) 32 #[.int .i64 0]):=hyq (by rw [hV4]; exact Y13.set (k:=0) _)
 have HB24 : Hid (Below w2.heap.size w2 V4):=hyq (by rw [hV4,hV3]; exact (hb22.setCell (p:=⟨b11 + 1,0,none⟩) (by rw [hb11]; exact Nat.le_succ _) _).setCell (p:=⟨b11 + 1 + 1,0,none⟩) (by rw [hb11]; show _ ≤ w2.heap.size + 1 + 1; omega) _)
 have U0 : Hid (OwnI V4 w1.heap.size (.slice a2 i2 c2) d.safe):=hyq (hoI.on HB24.out)
 have UW : Hid (OwnO V4 w1.heap.size (.slice a3 n c3) d.wait):=hyq (hoW.on HB24.out)
 have HB4 : Hid (Below w.heap.size w V4):=hyq (bch HB1.out (bch hb2 HB24.out))
 have U1 : Hid (Box V4 (bd + 1) 24 #[.slice ta tn tc]):=hyq ((X1.out.on hb2).on HB24.out)
 have U2 : Hid (Box V4 (bd + 1 + 1) 27 #[.slice none 0 0,.slice none 0 0,.int .i64 0]):=hyq ((X2.out.on hb2).on HB24.out)
 have H11 : Hid (bd + 1 + 1 < b11 ∧ w1.heap.size ≤ b11):=hyq ⟨by rw [hb11]; exact (X2.out.on hb2).lt,by rw [hb11]; exact hb2.size⟩
 have p12 : V2.cell? ⟨b11 + 1,0,none⟩ = some (.int .i64 0):=Z12.out.cell (k:=0) rfl
 have f12:=frozen_of_row V2 (b11 + 1) 0 _ _ Z12.out
 have p13 : V3.cell? ⟨b11 + 1 + 1,0,none⟩ = some (.int .i64 0):=Y13.cell (k:=0) rfl
 have f13:=frozen_of_row V3 (b11 + 1 + 1) 0 _ _ Y13
 have u0 : V4.cell? ⟨b11,0,none⟩ = some (.slice a2 i2 c2):=U11.out.cell (k:=0) rfl
 have u1 : V4.cell? ⟨b11,1,none⟩ = some (.slice a3 n c3):=U11.out.cell (k:=1) rfl
 have u2 : V4.cell? ⟨b11,2,none⟩ = some (.int .i64 room):=U11.out.cell (k:=2) rfl
 have u5 : V4.cell? ⟨bd + 1,0,none⟩ = some (.slice ta tn tc):=U1.out.cell (k:=0) rfl
 have HV2:=hyq hV2
 have HV3:=hyq hV3
 have HV4:=hyq hV4
 have HE11:=hyq hb11
 clear hoI hoW hb2 hb22 hV2 hV3 hV4 hb11 Y13 d0 d1 d2 HCO X0 X1 X2
 gi_wp2_with (first | (refine storeIn_row rfl 27 (.tmp 11) (.tmp 17) rfl w2.heap.size #[.slice a2 i2 c2,.slice a3 n c3,.int .i64 room] rfl rfl 27 #[.slice none 0 0,.slice none 0 0,.int .i64 0] ((box_new.alloc _).alloc _) (info27 _ _ _) rfl (darr_one _ _ _ _ _ _ _) ?_; rw [← HV2.out,← HE11.out]) | (refine wpIn_label ?_) | (rw [← HV3.out]; clear p12 f12) | (rw [← HV4.out]; clear p13 f13) | (refine ⟨trivial,?_⟩; gi_at_call 58; refine (callsIn_wide.2 (HEA.out V4 _ _ _ HB4.out)).mono ?_; rintro e w6 ⟨c0,c1,c4,c5,c6,rfl,hC6,hb6,hle⟩; clear u0 u1 u2 u5) | fail)
 have HLE:=hyq hle
 have HB6:=hyq hb6
 have HC6:=hyq hC6
 obtain ⟨D,hD⟩:=nmq (w6.heap.size)
 have HD:=hyq hD
 have TT : Hid (∀ b,T4 (bd + 1 + 1) b11 (.slice a2 i2 c2) b → w.heap.size ≤ b ∧ b < V4.heap.size):=hyq (by
  have h1:=U2.out.lt
  have h2:=U11.out.lt
  have h3:=U12.out.lt
  have h4:=U13.out.lt
  have h5:=HBD.out
  have h6:=H11.out
  have h7:=HB1.out.size
  rintro b (rfl | rfl | rfl | rfl | hb)
  ·omega
  ·omega
  ·omega
  ·omega
  ·obtain ⟨h8,cs,h9⟩:=ownR_blk U0.out hb
   have:=(Array.getElem?_eq_some_iff.1 h9).1
   omega)
 have TO : Hid (∀ g,(Value.slice a3 n c3).ownBlock = some g → ¬ T4 (bd + 1 + 1) b11 (.slice a2 i2 c2) g):=hyq (by
  rintro g hg (rfl | rfl | rfl | rfl | hb)
  ·exact own_not UW.out U2.out (by decide) hg
  ·exact own_not UW.out U11.out (by decide) hg
  ·exact own_not UW.out U12.out (by decide) hg
  ·exact own_not UW.out U13.out (by decide) hg
  ·obtain ⟨_,cs,h9⟩:=ownR_blk U0.out hb
   exact ownR_not UW.out (show Box V4 g 59 cs from h9) (by decide) hg)
 have J0 : Hid (JB (bd + 1 + 1) b11 w1.heap.size (.slice a2 i2 c2) d.safe 0 (.slice a3 n c3) room 0 w6):=hyq ⟨U2.out.on hb6,U11.out.on hb6,U12.out.on hb6,U13.out.on hb6,U0.out.on hb6⟩
 have HO6 : Hid (OwnO w6 w.heap.size (.slice a3 n c3) d.wait):=hyq ((UW.out.on hb6).base HB1.out.size)
 have HI6 : Hid (OwnI V4 w1.heap.size (.slice a2 i2 c2) d.safe):=U0
 have HB6w : Hid (Below w.heap.size w w6):=hyq (bch HB4.out hb6)
 clear hle hb6 hC6 hD
 refine range_each (n:=5) (by omega) (by omega) 0 w c0 c1 c4 c5 c6 a2 i2 c2 a3 n c3 d.wait ops (.slice la m lc) free fine fault room rfl (enters_of Tryz.func81 (by kernel_rfl) rfl) D HD.out rfl (T4 (bd + 1 + 1) b11 (.slice a2 i2 c2)) (fun b hb => ⟨(TT.out b hb).1,by have:=(TT.out b hb).2; have:=HD.out; have:=HB6.out.size; omega⟩)
  ⟨fun hb => (by have:=(TT.out _ hb).2; have:=HLE.out; omega),fun hb => (by have:=(TT.out _ hb).2; have:=HLE.out; omega),fun hb => (by have:=(TT.out _ hb).2; have:=HLE.out; omega),fun hb => (by have:=(TT.out _ hb).2; have:=HLE.out; omega),fun hb => (by have:=(TT.out _ hb).2; have:=HLE.out; omega)⟩
  TO.out HC6.out HB6w.out HO6.out HLO.out HWL.out.2.2 HWL.out.1 HWL.out.2.1 (fun k v r X => JB (bd + 1 + 1) b11 w1.heap.size (.slice a2 i2 c2) d.safe k v r 0 X) (fun k v r e X => JB (bd + 1 + 1) b11 w1.heap.size (.slice a2 i2 c2) d.safe k v r e X) (fun k v r X Y h hk => h.keep hk) (fun k v r e X Y h hk => h.keep hk) J0.out
  (fun v' r' e b => { tmps:=#[.agg #[.slice ia i ic,.slice wa n wc,.int .i64 room],.agg #[.slice ta tn tc],.slice la m lc,.bool free,.pointer (some ⟨bd,0,none⟩),.pointer (some ⟨bd + 1,0,none⟩),undef,undef,.pointer (some ⟨bd + 1 + 1,0,none⟩),.int .i64 0,.int .i64 0,.pointer (some ⟨b11,0,none⟩),.pointer (some ⟨b11 + 1,0,none⟩),.pointer (some ⟨b11 + 1 + 1,0,none⟩),.pointer (some ⟨b,0,none⟩),.int .i64 e,.agg #[.slice ia i ic,.slice wa n wc,.int .i64 room],.agg #[.slice a2 i2 c2,.slice a3 n c3,.int .i64 room],.agg #[.slice a2 i2 c2,.slice a3 n c3,.int .i64 room],.agg #[.slice ta tn tc],.slice la m lc,.bool free,.func (.func 81) #[] #[.pointer (some ⟨c0,0,none⟩),.pointer (some ⟨c1,0,none⟩),.pointer (some ⟨c4,0,none⟩),.pointer (some ⟨c5,0,none⟩),.pointer (some ⟨c6,0,none⟩)],.agg #[.slice a2 i2 c2,v',.int .i64 r'],.int .i64 e,undef,undef,undef,undef,undef,undef,undef,undef,undef],defers:=[] }) ?assign ?body ?done ?stop
 case assign =>
  rintro l v' r' e X K ⟨a',n',c',rfl⟩ hK
  obtain ⟨X1,hX1⟩:=nmq ((X.alloc (.cells #[.slice none 0 0,.slice none 0 0,.int .i64 0] 27)).setRow X.heap.size #[.slice a2 i2 c2,.slice a' n' c',.int .i64 r'])
  have hk:=hK X1 X.heap.size (by rw [hX1]; exact below_row (below_new _ _) (Nat.le_refl _) _) (by rw [hX1]; exact box_new.row _) (Nat.le_refl _)
  have HK:=hyq hk
  have HX1:=hyq hX1
  clear hK hk hX1
  gi_wp2_with (first | (refine storeIn_row rfl 27 (.tmp 14) (.tmp 23) rfl X.heap.size #[.slice a2 i2 c2,.slice a' n' c',.int .i64 r'] rfl rfl 27 #[.slice none 0 0,.slice none 0 0,.int .i64 0] box_new (info27 _ _ _) rfl (darr_one _ _ _ _ _ _ _) ?_; rw [← HX1.out]) | fail)
  exact HK.out
 case body =>
  rintro l k v r v' r' e X b hJ hk he ⟨a',n',c',rfl⟩ hB hD
  obtain ⟨V,hV⟩:=nmq (X.setCell ⟨b11 + 1 + 1,0,none⟩ (.int .i64 e))
  have hbb : b11 + 1 + 1 < b:=by have:=U13.out.lt; have:=HB6.out.size; have:=HD.out; omega
  have hk9 : k < 100000:=by have:=HWL.out; omega
  have A1 : Apart (T4 (bd + 1 + 1) b11 (.slice a2 i2 c2)) X V:=by
   rw [hV]
   exact ⟨rfl,rfl,rfl,by simp,fun q _ hq => heap_setCell_other _ _ _ _ (fun e => hq (.inr (.inr (.inr (.inl e)))))⟩
  have B8 : Box V (bd + 1 + 1) 27 #[.slice none 0 0,.slice none 0 0,.int .i64 0]:=by rw [hV]; exact hJ.x8.far (by have:=H11.out; show bd + 1 + 1 ≠ b11 + 1 + 1; omega) _
  have B11 : Box V b11 27 #[.slice a2 i2 c2,v,.int .i64 r]:=by rw [hV]; exact hJ.x11.far (by show b11 ≠ b11 + 1 + 1; omega) _
  have B12 : Box V (b11 + 1) 3 #[.int .i64 k]:=by rw [hV]; exact hJ.x12.far (by show b11 + 1 ≠ b11 + 1 + 1; omega) _
  have B13 : Box V (b11 + 1 + 1) 32 #[.int .i64 e]:=by rw [hV]; exact hJ.x13.set (k:=0) _
  have BB : Box V b 27 #[.slice a2 i2 c2,.slice a' n' c',.int .i64 r']:=by rw [hV]; exact hB.far (by show b ≠ b11 + 1 + 1; omega) _
  have BO : OwnI V w1.heap.size (.slice a2 i2 c2) d.safe:=by rw [hV]; exact hJ.own.far fun q hq => heap_setCell_other _ _ _ _ (fun e => ownR_not hJ.own hJ.x13 (by decide) (by rw [hq,show q = b11 + 1 + 1 from e]))
  have p13 : X.cell? ⟨b11 + 1 + 1,0,none⟩ = some (.int .i64 0):=hJ.x13.cell (k:=0) rfl
  have f13:=frozen_of_row X (b11 + 1 + 1) 0 _ _ hJ.x13
  have q13 : V.cell? ⟨b11 + 1 + 1,0,none⟩ = some (.int .i64 e):=B13.cell (k:=0) rfl
  have HV:=hyq hV
  have HA1:=hyq A1
  by_cases hz : e = 0
  ·subst hz
   obtain ⟨V2,hV2⟩:=nmq (V.setRow b11 #[.slice a2 i2 c2,.slice a' n' c',.int .i64 r'])
   obtain ⟨V3,hV3⟩:=nmq (V2.setCell ⟨b11 + 1,0,none⟩ (.int .i64 ((k : Int) + 1)))
   have h11:=H11.out
   have C12 : Box V2 (b11 + 1) 3 #[.int .i64 k]:=by rw [hV2]; exact (setRow_other _ _ _ _ (by omega)).trans B12
   have A3 : Apart (T4 (bd + 1 + 1) b11 (.slice a2 i2 c2)) X V3:=by
    rw [hV3,hV2]
    exact ⟨HA1.out.os,HA1.out.tape,HA1.out.output,by simpa using HA1.out.size,fun q hq hT => (heap_setCell_other _ _ _ _ (fun e => hT (.inr (.inr (.inl e))))).trans ((setRow_other _ _ _ _ (fun e => hT (.inr (.inl e)))).trans (HA1.out.block q hq hT))⟩
   have J3 : JB (bd + 1 + 1) b11 w1.heap.size (.slice a2 i2 c2) d.safe (k + 1) (.slice a' n' c') r' 0 V3:=by
    rw [hV3,hV2]
    refine ⟨Box.far ((setRow_other _ _ _ _ (by omega)).trans B8) (by show bd + 1 + 1 ≠ b11 + 1; omega) _,Box.far (B11.row _) (by show b11 ≠ b11 + 1; omega) _,?_,Box.far ((setRow_other _ _ _ _ (by omega)).trans B13) (by show b11 + 1 + 1 ≠ b11 + 1; omega) _,?_⟩
    ·have:=C12.set (k:=0) (.int .i64 ((k : Int) + 1))
     rw [hV2] at this
     exact this
    ·refine BO.far fun q hq => (heap_setCell_other _ _ _ _ (fun e => ownR_not BO B12 (by decide) (by rw [hq,show q = b11 + 1 from e]))).trans (setRow_other _ _ _ _ (fun e => ownR_not BO B11 (by decide) (by rw [hq,e])))
   have HA3:=hyq A3
   have HJ3:=hyq J3
   have HB11:=hyq B11
   have r0 : V.cell? ⟨b,0,none⟩ = some (.slice a2 i2 c2):=BB.cell (k:=0) rfl
   have r1 : V.cell? ⟨b,1,none⟩ = some (.slice a' n' c'):=BB.cell (k:=1) rfl
   have r2 : V.cell? ⟨b,2,none⟩ = some (.int .i64 r'):=BB.cell (k:=2) rfl
   have p12 : V2.cell? ⟨b11 + 1,0,none⟩ = some (.int .i64 k):=C12.cell (k:=0) rfl
   have f12:=frozen_of_row V2 (b11 + 1) 0 _ _ C12
   have HV2:=hyq hV2
   have HV3:=hyq hV3
   clear hJ hB hV hV2 hV3 A1 B8 B11 B12 B13 BB C12 A3 J3 he BO
   gi_wp2_with (first | (rw [← HV.out]; clear p13 f13) | (refine storeIn_row rfl 27 (.tmp 11) (.tmp 28) rfl b11 #[.slice a2 i2 c2,.slice a' n' c',.int .i64 r'] rfl rfl 27 #[.slice a2 i2 c2,v,.int .i64 r] HB11.out (info27 _ _ _) rfl (darr_one _ _ _ _ _ _ _) ?_; rw [← HV2.out]) | (rw [← HV3.out]) | fail)
   exact ⟨HA3.out,rfl,HJ3.out⟩
  ·have t1 : (e != 0) = true:=by simpa using hz
   have t2 : (e == 0) = false:=by simpa using hz
   have HJV : Hid (JB (bd + 1 + 1) b11 w1.heap.size (.slice a2 i2 c2) d.safe k v r e V):=hyq ⟨B8,B11,B12,B13,BO⟩
   have HZ:=hyq hz
   clear hJ hB hV A1 B8 B11 B12 B13 BB he hz BO
   gi_wp2_with (first | (rw [← HV.out]; clear p13 f13) | fail)
   exact ⟨rfl,HA1.out,HZ.out,HJV.out⟩
 case done =>
  intro v r many X h1 h2 h3 h4 h5
  obtain ⟨va,vc,rfl⟩:=h3.any
  obtain ⟨vn,hvn⟩:=nmq ((d.wait ++ ops.take many).length)
  rw [← hvn] at h3 h4
  have u0 : X.cell? ⟨b11,0,none⟩ = some (.slice a2 i2 c2):=h4.x11.cell (k:=0) rfl
  have u1 : X.cell? ⟨b11,1,none⟩ = some (.slice va vn vc):=h4.x11.cell (k:=1) rfl
  have u2 : X.cell? ⟨b11,2,none⟩ = some (.int .i64 r):=h4.x11.cell (k:=2) rfl
  have u3 : X.cell? ⟨b11 + 1,0,none⟩ = some (.int .i64 many):=h4.x12.cell (k:=0) rfl
  have u4 : X.cell? ⟨b11 + 1 + 1,0,none⟩ = some (.int .i64 0):=h4.x13.cell (k:=0) rfl
  have y0 : X.cell? ⟨bd + 1 + 1,0,none⟩ = some (.slice none 0 0):=h4.x8.cell (k:=0) rfl
  have y1 : X.cell? ⟨bd + 1 + 1,1,none⟩ = some (.slice none 0 0):=h4.x8.cell (k:=1) rfl
  have y2 : X.cell? ⟨bd + 1 + 1,2,none⟩ = some (.int .i64 0):=h4.x8.cell (k:=2) rfl
  have z0:=frozen_of_row X (bd + 1 + 1) 0 _ _ h4.x8
  have z1:=frozen_of_row X (bd + 1 + 1) 1 _ _ h4.x8
  have z2:=frozen_of_row X (bd + 1 + 1) 2 _ _ h4.x8
  obtain ⟨b8,hb8⟩:=nmq (bd + 1 + 1)
  obtain ⟨b12,hb12⟩:=nmq (b11 + 1)
  obtain ⟨b13,hb13⟩:=nmq (b11 + 1 + 1)
  have h11:=H11.out
  have n1 : ¬ b11 = b8:=by omega
  have n2 : ¬ b12 = b8:=by omega
  have n3 : ¬ b13 = b8:=by omega
  have n4 : ¬ b8 = b11:=by omega
  have n5 : ¬ b8 = b12:=by omega
  have n6 : ¬ b8 = b13:=by omega
  rw [← hb13] at u4
  rw [← hb12] at u3
  rw [← hb8] at y0 y1 y2 z0 z1 z2
  have x8:=h4.x8
  rw [← hb8] at x8
  have hwb : w.heap.size ≤ b8:=by have:=HBD.out; omega
  have hDb : D ≠ b8:=fun e => by
   rw [e,show X.heap[b8]? = _ from x8] at h5
   cases h5
  have hwD : w.heap.size ≤ D:=by have:=HD.out; have:=HB6w.out.size; omega
  have EE : ∀ Z W,Z = ((X.setCell ⟨b8,0,none⟩ (.slice a2 i2 c2)).setCell ⟨b8,1,none⟩ (.slice va vn vc)).setCell ⟨b8,2,none⟩ (.int .i64 r) → W = Z.drew →
    W.heap[D]? = some (.deferred (some [])) ∧ Box (W.putObj D (.deferred none)) b8 27 #[.slice a2 i2 c2,.slice va vn vc,.int .i64 r] ∧ OwnI (W.putObj D (.deferred none)) w.heap.size (.slice a2 i2 c2) d.safe ∧ OwnO (W.putObj D (.deferred none)) w.heap.size (.slice va vn vc) (d.wait ++ ops.take many) ∧ Below w.heap.size w (W.putObj D (.deferred none)):=by
   intro Z W hZ hW
   have hk : ∀ q,q ≠ b8 → W.heap[q]? = X.heap[q]?:=fun q hq => by
    rw [hW]
    show Z.heap[q]? = _
    rw [hZ]
    exact (heap_setCell_other _ _ _ _ hq).trans ((heap_setCell_other _ _ _ _ hq).trans (heap_setCell_other _ _ _ _ hq))
   have hX8 : Box W b8 27 #[.slice a2 i2 c2,.slice va vn vc,.int .i64 r]:=by
    rw [hW]
    show Z.heap[b8]? = _
    rw [hZ]
    exact ((x8.set (k:=0) _).set (k:=1) _).set (k:=2) _
   have hd:=(hk D hDb).trans h5
   have hnD : ∀ {B e s n : Nat} {v : Value} {xs : List Value},X.ownsRow B e s v n xs → e ≠ 27 → ∀ q,v.ownBlock = some q → (W.putObj D (.deferred none)).heap[q]? = X.heap[q]?:=fun hO he q hq => by
    have hq8 : q ≠ b8:=fun e => ownR_not hO x8 (fun e2 => he e2.symm) (by rw [hq,e])
    have hqD : q ≠ D:=fun e => by
     obtain ⟨_,cs,hx⟩:=ownR_blk hO hq
     rw [e,h5] at hx
     cases hx
    exact (World.putObj_heap_other hqD).trans (hk q hq8)
   refine ⟨hd,(World.putObj_heap_other (fun e => hDb e.symm)).trans hX8,own_base (h4.own.far (hnD h4.own (by decide))) HB1.out.size,h3.far (hnD h3 (by decide)),below_put ?_ hwD⟩
   rw [hW,hZ]
   exact (((h2.setCell (p:=⟨b8,0,none⟩) hwb _).setCell (p:=⟨b8,1,none⟩) hwb _).setCell (p:=⟨b8,2,none⟩) hwb _).drew
  have HEE:=hyq EE
  rw [← hb13,← hb12,← hb8]
  have H1:=hyq h1
  clear h1 h2 h3 h4 h5 hvn hb8 hb12 hb13 h11 x8 hwb hDb hwD EE
  gi_wp2
  gi_region
  all_goals gi_wp2
  all_goals
   obtain ⟨e1,e2,e3,e4,e5⟩:=HEE.out _ _ rfl rfl
   rw [Exit.noGoto_ret]
   refine ⟨by simp,.inl ⟨_,_,rfl,run_takeDeferred e1,?_⟩⟩
   refine ⟨_,?_,FIN.out _ _ _ _ _ _ H1.out e3 e4 e5⟩
   exact end_disk3 rfl _ e2 rfl rfl rfl
 case stop =>
  intro v r many er X h0 h1 h2 h3 h4 h5
  obtain ⟨va,vc,rfl⟩:=h3.any
  obtain ⟨vn,hvn⟩:=nmq ((d.wait ++ ops.take many).length)
  rw [← hvn] at h3 h4
  have u0 : X.cell? ⟨b11,0,none⟩ = some (.slice a2 i2 c2):=h4.x11.cell (k:=0) rfl
  have u1 : X.cell? ⟨b11,1,none⟩ = some (.slice va vn vc):=h4.x11.cell (k:=1) rfl
  have u2 : X.cell? ⟨b11,2,none⟩ = some (.int .i64 r):=h4.x11.cell (k:=2) rfl
  have u3 : X.cell? ⟨b11 + 1,0,none⟩ = some (.int .i64 many):=h4.x12.cell (k:=0) rfl
  have u4 : X.cell? ⟨b11 + 1 + 1,0,none⟩ = some (.int .i64 er):=h4.x13.cell (k:=0) rfl
  have y0 : X.cell? ⟨bd + 1 + 1,0,none⟩ = some (.slice none 0 0):=h4.x8.cell (k:=0) rfl
  have y1 : X.cell? ⟨bd + 1 + 1,1,none⟩ = some (.slice none 0 0):=h4.x8.cell (k:=1) rfl
  have y2 : X.cell? ⟨bd + 1 + 1,2,none⟩ = some (.int .i64 0):=h4.x8.cell (k:=2) rfl
  have z0:=frozen_of_row X (bd + 1 + 1) 0 _ _ h4.x8
  have z1:=frozen_of_row X (bd + 1 + 1) 1 _ _ h4.x8
  have z2:=frozen_of_row X (bd + 1 + 1) 2 _ _ h4.x8
  obtain ⟨b8,hb8⟩:=nmq (bd + 1 + 1)
  obtain ⟨b12,hb12⟩:=nmq (b11 + 1)
  obtain ⟨b13,hb13⟩:=nmq (b11 + 1 + 1)
  have h11:=H11.out
  have n1 : ¬ b11 = b8:=by omega
  have n2 : ¬ b12 = b8:=by omega
  have n3 : ¬ b13 = b8:=by omega
  have n4 : ¬ b8 = b11:=by omega
  have n5 : ¬ b8 = b12:=by omega
  have n6 : ¬ b8 = b13:=by omega
  rw [← hb13] at u4
  rw [← hb12] at u3
  rw [← hb8] at y0 y1 y2 z0 z1 z2
  have x8:=h4.x8
  rw [← hb8] at x8
  have hwb : w.heap.size ≤ b8:=by have:=HBD.out; omega
  have hDb : D ≠ b8:=fun e => by
   rw [e,show X.heap[b8]? = _ from x8] at h5
   cases h5
  have hwD : w.heap.size ≤ D:=by have:=HD.out; have:=HB6w.out.size; omega
  have EE : ∀ Z W,Z = ((X.setCell ⟨b8,0,none⟩ (.slice a2 i2 c2)).setCell ⟨b8,1,none⟩ (.slice va vn vc)).setCell ⟨b8,2,none⟩ (.int .i64 r) → W = Z.drew →
    W.heap[D]? = some (.deferred (some [])) ∧ Box (W.putObj D (.deferred none)) b8 27 #[.slice a2 i2 c2,.slice va vn vc,.int .i64 r] ∧ OwnI (W.putObj D (.deferred none)) w.heap.size (.slice a2 i2 c2) d.safe ∧ OwnO (W.putObj D (.deferred none)) w.heap.size (.slice va vn vc) (d.wait ++ ops.take many) ∧ Below w.heap.size w (W.putObj D (.deferred none)):=by
   intro Z W hZ hW
   have hk : ∀ q,q ≠ b8 → W.heap[q]? = X.heap[q]?:=fun q hq => by
    rw [hW]
    show Z.heap[q]? = _
    rw [hZ]
    exact (heap_setCell_other _ _ _ _ hq).trans ((heap_setCell_other _ _ _ _ hq).trans (heap_setCell_other _ _ _ _ hq))
   have hX8 : Box W b8 27 #[.slice a2 i2 c2,.slice va vn vc,.int .i64 r]:=by
    rw [hW]
    show Z.heap[b8]? = _
    rw [hZ]
    exact ((x8.set (k:=0) _).set (k:=1) _).set (k:=2) _
   have hd:=(hk D hDb).trans h5
   have hnD : ∀ {B e s n : Nat} {v : Value} {xs : List Value},X.ownsRow B e s v n xs → e ≠ 27 → ∀ q,v.ownBlock = some q → (W.putObj D (.deferred none)).heap[q]? = X.heap[q]?:=fun hO he q hq => by
    have hq8 : q ≠ b8:=fun e => ownR_not hO x8 (fun e2 => he e2.symm) (by rw [hq,e])
    have hqD : q ≠ D:=fun e => by
     obtain ⟨_,cs,hx⟩:=ownR_blk hO hq
     rw [e,h5] at hx
     cases hx
    exact (World.putObj_heap_other hqD).trans (hk q hq8)
   refine ⟨hd,(World.putObj_heap_other (fun e => hDb e.symm)).trans hX8,own_base (h4.own.far (hnD h4.own (by decide))) HB1.out.size,h3.far (hnD h3 (by decide)),below_put ?_ hwD⟩
   rw [hW,hZ]
   exact (((h2.setCell (p:=⟨b8,0,none⟩) hwb _).setCell (p:=⟨b8,1,none⟩) hwb _).setCell (p:=⟨b8,2,none⟩) hwb _).drew
  have HEE:=hyq EE
  rw [← hb13,← hb12,← hb8]
  have H1:=hyq h1
  clear h1 h2 h3 h4 h5 hvn hb8 hb12 hb13 h11 x8 hwb hDb hwD EE h0
  gi_wp2
  gi_region
  all_goals gi_wp2
  all_goals
   obtain ⟨e1,e2,e3,e4,e5⟩:=HEE.out _ _ rfl rfl
   rw [Exit.noGoto_ret]
   refine ⟨by simp,.inl ⟨_,_,rfl,run_takeDeferred e1,?_⟩⟩
   refine ⟨_,?_,FIN.out _ _ _ _ _ _ H1.out e3 e4 e5⟩
   exact end_disk3 rfl _ e2 rfl rfl rfl
end Go.Proofs.YtigopecainocgaaGreatDoor
namespace Go.Proofs.YtigopecainocgaaGreatDoor
open Go.RowKit Go.Shelf
theorem own_row' {W : World} {B e s n b : Nat} {v : Value} {xs : List Value} {t : TypeId} {cs cs' : Array Value} (h : W.ownsRow B e s v n xs) (Z : Box W b t cs) (ht : t ≠ e) : (W.setRow b cs').ownsRow B e s v n xs :=
 ownR_far h fun k hk => setRow_other W b k _ (fun q => by
  obtain ⟨_,c,hc⟩:=ownR_blk h hk
  rw [q,show W.heap[b]? = _ from Z] at hc
  injection hc with hc
  injection hc with _ hc
  exact ht hc)
def ChR (X : Dsk × Int) (EX : World → Prop) (w : World) (e : Ending) (w' : World) : Prop:=∃ a b,e = .returned (.tuple #[.agg #[a,b,.int .i64 X.1.room],.int .i64 X.2]) ∧ OwnI w' (w.heap.size + 2) a X.1.safe ∧ OwnO w' (w.heap.size + 2) b X.1.wait ∧ EX w'
theorem change40 (d : Dsk) (iv wv : Value) (p1 p2 p3 p4 : Value) (w : World) (h : RdD w iv wv d) (hz : SzD d) (hT : TabS w) (X : Dsk × Int) (EX : World → Prop) (hEX : ∀ W cs,EX W → EX (W.setRow (w.heap.size + 1) cs))
  (hno : nowM d = none → X = (⟨[],[],0⟩,180) ∧ ∀ W,Below w.heap.size w W → EX W)
  (hdo : ∀ t v' W,nowM d = some t → Below w.heap.size w W → OwnI W (w.heap.size + 2) v' t → w.heap.size + 2 ≤ W.heap.size → Box W (w.heap.size + 1) 27 #[.slice none 0 0,.slice none 0 0,.int .i64 0] → Calls Tryz.prog 40 #[.agg #[v'],p1,p2,p3,p4] W (fun e W' => ∃ a b,e = .returned (.tuple #[.agg #[a,b,.int .i64 X.1.room],.int .i64 X.2]) ∧ OwnI W' (w.heap.size + 2) a X.1.safe ∧ OwnO W' (w.heap.size + 2) b X.1.wait ∧ EX W' ∧ Box W' (w.heap.size + 1) 27 #[.slice none 0 0,.slice none 0 0,.int .i64 0])) :
  Calls Tryz.prog 39 #[.agg #[iv,wv,.int .i64 d.room],.func (.func 40) #[] #[p1,p2,p3,p4]] w (ChR X EX w):=by
 obtain ⟨ia,ic,rfl,_⟩:=h.items.open
 obtain ⟨wa,wc,rfl,_⟩:=h.wait.open
 obtain ⟨w1,hw1⟩:=nmq ((w.alloc (.cells #[.slice ia d.safe.length ic,.slice wa d.wait.length wc,.int .i64 d.room] 27)).alloc (.cells #[.slice none 0 0,.slice none 0 0,.int .i64 0] 27))
 obtain ⟨bd,hbd⟩:=nmq (w.heap.size)
 have X0 : Hid (Box w1 bd 27 #[.slice ia d.safe.length ic,.slice wa d.wait.length wc,.int .i64 d.room]):=hyq (by rw [hw1,hbd]; exact box_new.alloc _)
 have X1 : Hid (Box w1 (bd + 1) 27 #[.slice none 0 0,.slice none 0 0,.int .i64 0]):=hyq (by rw [hw1,hbd,show w.heap.size + 1 = (w.alloc (.cells #[.slice ia d.safe.length ic,.slice wa d.wait.length wc,.int .i64 d.room] 27)).heap.size from by simp]; exact box_new)
 have HB1 : Hid (Below w.heap.size w w1):=hyq (by rw [hw1]; exact bch (below_new _ _) (below_new _ _))
 have HS1 : Hid (w1.heap.size = w.heap.size + 2):=hyq (by rw [hw1]; simp)
 have HBD : Hid (bd = w.heap.size):=hyq hbd
 have HNO:=hyq (now_is d _ _ w1 (h.on HB1.out) hz (hT.on HB1.out))
 have HNN:=hyq hno
 have HDO:=hyq hdo
 have HEX:=hyq hEX
 obtain ⟨room,hroom⟩:=nmq (d.room)
 obtain ⟨i,hi⟩:=nmq (d.safe.length)
 obtain ⟨n,hn⟩:=nmq (d.wait.length)
 rw [← hi,← hn,← hroom] at HNO X0 hw1 ⊢
 have d0 : w1.cell? ⟨bd,0,none⟩ = some (.slice ia i ic):=X0.out.cell (k:=0) rfl
 have d1 : w1.cell? ⟨bd,1,none⟩ = some (.slice wa n wc):=X0.out.cell (k:=1) rfl
 have d2 : w1.cell? ⟨bd,2,none⟩ = some (.int .i64 room):=X0.out.cell (k:=2) rfl
 have k0:=b27
 clear h hz hT hno hdo hEX hn hroom hi
 go_enter Tryz.func39,Tryz.ntmps39
 go_upto_region 1 with fail
 rw [← hw1,← hbd]
 clear hw1 hbd
 go_wp2_with fail
 refine HNO.out.mono ?_
 rintro e w2 ⟨hb2,hc⟩
 have X12:=hyq (X1.out.on hb2)
 have HB2:=hyq (bch HB1.out hb2)
 have HBX:=hyq hb2
 clear d0 d1 d2 HNO hb2
 rcases hc with ⟨h0,rfl⟩ | ⟨t,v',h0,rfl,ho⟩
 ·obtain ⟨w3,hw3⟩:=nmq ((w2.alloc (.cells #[.slice none 0 0] 24)).setRow w2.heap.size #[.slice none 0 0])
  obtain ⟨b6,hb6⟩:=nmq (w2.heap.size)
  have hb23 : Below w2.heap.size w2 w3:=by rw [hw3]; exact below_row (below_new _ _) (Nat.le_refl _) _
  have X13:=hyq (X12.out.on hb23)
  have HB3:=hyq (bch HB2.out hb23)
  obtain ⟨hX,hE⟩:=HNN.out h0
  have FIN : Hid (ChR X EX w (.returned (.tuple #[.agg #[.slice none 0 0,.slice none 0 0,.int .i64 0],.int .i64 180])) (w3.setRow (bd + 1) #[.slice none 0 0,.slice none 0 0,.int .i64 0])):=hyq (by
   rw [hX]
   refine ⟨.slice none 0 0,.slice none 0 0,rfl,World.ownsRow_nil _ _ _ _,World.ownsRow_nil _ _ _ _,?_⟩
   rw [HBD.out]
   exact HEX.out _ _ (hE w3 HB3.out))
  have HW3:=hyq hw3
  have HB6:=hyq hb6
  clear h0 hw3 hb6 hb23 hX hE
  go_wp2_with (first | (refine wpList_store_row rfl 24 (.tmp 6) (.tmp 11) rfl w2.heap.size #[.slice none 0 0] rfl rfl 24 #[.slice none 0 0] box_new (info24 _) rfl (slice_one _ _ _) ?_; rw [← HW3.out,← HB6.out]) | (refine wpList_store_row rfl 27 (.tmp 4) (.tmp 15) rfl (bd + 1) #[.slice none 0 0,.slice none 0 0,.int .i64 0] rfl rfl 27 #[.slice none 0 0,.slice none 0 0,.int .i64 0] X13.out (info27 _ _ _) rfl (darr_one _ _ _ _ _ _ _) ?_) | fail)
  refine bodyPost_ret ?_ rfl FIN.out
  exact end_disk2 rfl _ (X13.out.row _) rfl rfl
 ·obtain ⟨va,vn,vc,rfl⟩:=own_any ho
  obtain ⟨w3,hw3⟩:=nmq ((w2.alloc (.cells #[.slice none 0 0] 24)).setRow w2.heap.size #[.slice va vn vc])
  obtain ⟨b6,hb6⟩:=nmq (w2.heap.size)
  have hb23 : Below w2.heap.size w2 w3:=by rw [hw3]; exact below_row (below_new _ _) (Nat.le_refl _) _
  have X13:=hyq (X12.out.on hb23)
  have HB3:=hyq (bch HB2.out hb23)
  have X6 : Hid (Box w3 b6 24 #[.slice va vn vc]):=hyq (by rw [hw3,hb6]; exact box_new.row _)
  have HCL:=hyq (HDO.out t _ w3 h0 HB3.out (by rw [← HS1.out]; exact ho.on hb23) (by rw [← HS1.out]; exact Nat.le_trans HBX.out.size hb23.size) (by rw [← HBD.out]; exact X13.out))
  have e0 : w3.cell? ⟨b6,0,none⟩ = some (.slice va vn vc):=X6.out.cell (k:=0) rfl
  have HW3:=hyq hw3
  have HB6:=hyq hb6
  clear h0 hw3 hb6 hb23 ho HDO HNN
  go_wp2_with (first | (refine wpList_store_row rfl 24 (.tmp 6) (.tmp 11) rfl w2.heap.size #[.slice va vn vc] rfl rfl 24 #[.slice none 0 0] box_new (info24 _) rfl (slice_one _ _ _) ?_; rw [← HW3.out,← HB6.out]) | fail)
  refine HCL.out.mono ?_
  rintro e w4 ⟨a,b,rfl,h1,h2,h3,h4⟩
  obtain ⟨a1,n1,c1,rfl⟩:=own_any h1
  obtain ⟨a2,c2,rfl⟩:=h2.any
  obtain ⟨n2,hn2⟩:=nmq (X.1.wait.length)
  rw [← hn2] at h2 ⊢
  rw [← HBD.out] at h4
  have X14:=hyq h4
  have FIN : Hid (ChR X EX w (.returned (.tuple #[.agg #[.slice a1 n1 c1,.slice a2 n2 c2,.int .i64 X.1.room],.int .i64 X.2])) (w4.setRow (bd + 1) #[.slice a1 n1 c1,.slice a2 n2 c2,.int .i64 X.1.room])):=hyq (by
   refine ⟨_,_,rfl,own_row' h1 h4 (by decide),own_row' h2 h4 (by decide),?_⟩
   rw [HBD.out]
   exact HEX.out _ _ h3)
  obtain ⟨rr,hrr⟩:=nmq (X.1.room)
  obtain ⟨xx,hxx⟩:=nmq (X.2)
  rw [← hrr,← hxx] at FIN ⊢
  clear h1 h2 h3 h4 hn2 hrr hxx e0 HCL
  go_wp2_with (first | (refine wpList_store_row rfl 27 (.tmp 4) (.tmp 20) rfl (bd + 1) #[.slice a1 n1 c1,.slice a2 n2 c2,.int .i64 rr] rfl rfl 27 #[.slice none 0 0,.slice none 0 0,.int .i64 0] X14.out (info27 _ _ _) rfl (darr_one _ _ _ _ _ _ _) ?_) | fail)
  refine bodyPost_ret ?_ rfl FIN.out
  exact end_disk2 rfl _ (X14.out.row _) rfl rfl
theorem change43 (d : Dsk) (iv wv : Value) (p1 p2 p3 : Value) (w : World) (h : RdD w iv wv d) (hz : SzD d) (hT : TabS w) (X : Dsk × Int) (EX : World → Prop) (hEX : ∀ W cs,EX W → EX (W.setRow (w.heap.size + 1) cs))
  (hno : nowM d = none → X = (⟨[],[],0⟩,180) ∧ ∀ W,Below w.heap.size w W → EX W)
  (hdo : ∀ t v' W,nowM d = some t → Below w.heap.size w W → OwnI W (w.heap.size + 2) v' t → w.heap.size + 2 ≤ W.heap.size → Box W (w.heap.size + 1) 27 #[.slice none 0 0,.slice none 0 0,.int .i64 0] → Calls Tryz.prog 43 #[.agg #[v'],p1,p2,p3] W (fun e W' => ∃ a b,e = .returned (.tuple #[.agg #[a,b,.int .i64 X.1.room],.int .i64 X.2]) ∧ OwnI W' (w.heap.size + 2) a X.1.safe ∧ OwnO W' (w.heap.size + 2) b X.1.wait ∧ EX W' ∧ Box W' (w.heap.size + 1) 27 #[.slice none 0 0,.slice none 0 0,.int .i64 0])) :
  Calls Tryz.prog 39 #[.agg #[iv,wv,.int .i64 d.room],.func (.func 43) #[] #[p1,p2,p3]] w (ChR X EX w):=by
 obtain ⟨ia,ic,rfl,_⟩:=h.items.open
 obtain ⟨wa,wc,rfl,_⟩:=h.wait.open
 obtain ⟨w1,hw1⟩:=nmq ((w.alloc (.cells #[.slice ia d.safe.length ic,.slice wa d.wait.length wc,.int .i64 d.room] 27)).alloc (.cells #[.slice none 0 0,.slice none 0 0,.int .i64 0] 27))
 obtain ⟨bd,hbd⟩:=nmq (w.heap.size)
 have X0 : Hid (Box w1 bd 27 #[.slice ia d.safe.length ic,.slice wa d.wait.length wc,.int .i64 d.room]):=hyq (by rw [hw1,hbd]; exact box_new.alloc _)
 have X1 : Hid (Box w1 (bd + 1) 27 #[.slice none 0 0,.slice none 0 0,.int .i64 0]):=hyq (by rw [hw1,hbd,show w.heap.size + 1 = (w.alloc (.cells #[.slice ia d.safe.length ic,.slice wa d.wait.length wc,.int .i64 d.room] 27)).heap.size from by simp]; exact box_new)
 have HB1 : Hid (Below w.heap.size w w1):=hyq (by rw [hw1]; exact bch (below_new _ _) (below_new _ _))
 have HS1 : Hid (w1.heap.size = w.heap.size + 2):=hyq (by rw [hw1]; simp)
 have HBD : Hid (bd = w.heap.size):=hyq hbd
 have HNO:=hyq (now_is d _ _ w1 (h.on HB1.out) hz (hT.on HB1.out))
 have HNN:=hyq hno
 have HDO:=hyq hdo
 have HEX:=hyq hEX
 obtain ⟨room,hroom⟩:=nmq (d.room)
 obtain ⟨i,hi⟩:=nmq (d.safe.length)
 obtain ⟨n,hn⟩:=nmq (d.wait.length)
 rw [← hi,← hn,← hroom] at HNO X0 hw1 ⊢
 have d0 : w1.cell? ⟨bd,0,none⟩ = some (.slice ia i ic):=X0.out.cell (k:=0) rfl
 have d1 : w1.cell? ⟨bd,1,none⟩ = some (.slice wa n wc):=X0.out.cell (k:=1) rfl
 have d2 : w1.cell? ⟨bd,2,none⟩ = some (.int .i64 room):=X0.out.cell (k:=2) rfl
 have k0:=b27
 clear h hz hT hno hdo hEX hn hroom hi
 go_enter Tryz.func39,Tryz.ntmps39
 go_upto_region 1 with fail
 rw [← hw1,← hbd]
 clear hw1 hbd
 go_wp2_with fail
 refine HNO.out.mono ?_
 rintro e w2 ⟨hb2,hc⟩
 have X12:=hyq (X1.out.on hb2)
 have HB2:=hyq (bch HB1.out hb2)
 have HBX:=hyq hb2
 clear d0 d1 d2 HNO hb2
 rcases hc with ⟨h0,rfl⟩ | ⟨t,v',h0,rfl,ho⟩
 ·obtain ⟨w3,hw3⟩:=nmq ((w2.alloc (.cells #[.slice none 0 0] 24)).setRow w2.heap.size #[.slice none 0 0])
  obtain ⟨b6,hb6⟩:=nmq (w2.heap.size)
  have hb23 : Below w2.heap.size w2 w3:=by rw [hw3]; exact below_row (below_new _ _) (Nat.le_refl _) _
  have X13:=hyq (X12.out.on hb23)
  have HB3:=hyq (bch HB2.out hb23)
  obtain ⟨hX,hE⟩:=HNN.out h0
  have FIN : Hid (ChR X EX w (.returned (.tuple #[.agg #[.slice none 0 0,.slice none 0 0,.int .i64 0],.int .i64 180])) (w3.setRow (bd + 1) #[.slice none 0 0,.slice none 0 0,.int .i64 0])):=hyq (by
   rw [hX]
   refine ⟨.slice none 0 0,.slice none 0 0,rfl,World.ownsRow_nil _ _ _ _,World.ownsRow_nil _ _ _ _,?_⟩
   rw [HBD.out]
   exact HEX.out _ _ (hE w3 HB3.out))
  have HW3:=hyq hw3
  have HB6:=hyq hb6
  clear h0 hw3 hb6 hb23 hX hE
  go_wp2_with (first | (refine wpList_store_row rfl 24 (.tmp 6) (.tmp 11) rfl w2.heap.size #[.slice none 0 0] rfl rfl 24 #[.slice none 0 0] box_new (info24 _) rfl (slice_one _ _ _) ?_; rw [← HW3.out,← HB6.out]) | (refine wpList_store_row rfl 27 (.tmp 4) (.tmp 15) rfl (bd + 1) #[.slice none 0 0,.slice none 0 0,.int .i64 0] rfl rfl 27 #[.slice none 0 0,.slice none 0 0,.int .i64 0] X13.out (info27 _ _ _) rfl (darr_one _ _ _ _ _ _ _) ?_) | fail)
  refine bodyPost_ret ?_ rfl FIN.out
  exact end_disk2 rfl _ (X13.out.row _) rfl rfl
 ·obtain ⟨va,vn,vc,rfl⟩:=own_any ho
  obtain ⟨w3,hw3⟩:=nmq ((w2.alloc (.cells #[.slice none 0 0] 24)).setRow w2.heap.size #[.slice va vn vc])
  obtain ⟨b6,hb6⟩:=nmq (w2.heap.size)
  have hb23 : Below w2.heap.size w2 w3:=by rw [hw3]; exact below_row (below_new _ _) (Nat.le_refl _) _
  have X13:=hyq (X12.out.on hb23)
  have HB3:=hyq (bch HB2.out hb23)
  have X6 : Hid (Box w3 b6 24 #[.slice va vn vc]):=hyq (by rw [hw3,hb6]; exact box_new.row _)
  have HCL:=hyq (HDO.out t _ w3 h0 HB3.out (by rw [← HS1.out]; exact ho.on hb23) (by rw [← HS1.out]; exact Nat.le_trans HBX.out.size hb23.size) (by rw [← HBD.out]; exact X13.out))
  have e0 : w3.cell? ⟨b6,0,none⟩ = some (.slice va vn vc):=X6.out.cell (k:=0) rfl
  have HW3:=hyq hw3
  have HB6:=hyq hb6
  clear h0 hw3 hb6 hb23 ho HDO HNN
  go_wp2_with (first | (refine wpList_store_row rfl 24 (.tmp 6) (.tmp 11) rfl w2.heap.size #[.slice va vn vc] rfl rfl 24 #[.slice none 0 0] box_new (info24 _) rfl (slice_one _ _ _) ?_; rw [← HW3.out,← HB6.out]) | fail)
  refine HCL.out.mono ?_
  rintro e w4 ⟨a,b,rfl,h1,h2,h3,h4⟩
  obtain ⟨a1,n1,c1,rfl⟩:=own_any h1
  obtain ⟨a2,c2,rfl⟩:=h2.any
  obtain ⟨n2,hn2⟩:=nmq (X.1.wait.length)
  rw [← hn2] at h2 ⊢
  rw [← HBD.out] at h4
  have X14:=hyq h4
  have FIN : Hid (ChR X EX w (.returned (.tuple #[.agg #[.slice a1 n1 c1,.slice a2 n2 c2,.int .i64 X.1.room],.int .i64 X.2])) (w4.setRow (bd + 1) #[.slice a1 n1 c1,.slice a2 n2 c2,.int .i64 X.1.room])):=hyq (by
   refine ⟨_,_,rfl,own_row' h1 h4 (by decide),own_row' h2 h4 (by decide),?_⟩
   rw [HBD.out]
   exact HEX.out _ _ h3)
  obtain ⟨rr,hrr⟩:=nmq (X.1.room)
  obtain ⟨xx,hxx⟩:=nmq (X.2)
  rw [← hrr,← hxx] at FIN ⊢
  clear h1 h2 h3 h4 hn2 hrr hxx e0 HCL
  go_wp2_with (first | (refine wpList_store_row rfl 27 (.tmp 4) (.tmp 20) rfl (bd + 1) #[.slice a1 n1 c1,.slice a2 n2 c2,.int .i64 rr] rfl rfl 27 #[.slice none 0 0,.slice none 0 0,.int .i64 0] X14.out (info27 _ _ _) rfl (darr_one _ _ _ _ _ _ _) ?_) | fail)
  refine bodyPost_ret ?_ rfl FIN.out
  exact end_disk2 rfl _ (X14.out.row _) rfl rfl
theorem change51 (d : Dsk) (iv wv : Value) (p1 : Value) (w : World) (h : RdD w iv wv d) (hz : SzD d) (hT : TabS w) (X : Dsk × Int) (EX : World → Prop) (hEX : ∀ W cs,EX W → EX (W.setRow (w.heap.size + 1) cs))
  (hno : nowM d = none → X = (⟨[],[],0⟩,180) ∧ ∀ W,Below w.heap.size w W → EX W)
  (hdo : ∀ t v' W,nowM d = some t → Below w.heap.size w W → OwnI W (w.heap.size + 2) v' t → w.heap.size + 2 ≤ W.heap.size → Box W (w.heap.size + 1) 27 #[.slice none 0 0,.slice none 0 0,.int .i64 0] → Calls Tryz.prog 51 #[.agg #[v'],p1] W (fun e W' => ∃ a b,e = .returned (.tuple #[.agg #[a,b,.int .i64 X.1.room],.int .i64 X.2]) ∧ OwnI W' (w.heap.size + 2) a X.1.safe ∧ OwnO W' (w.heap.size + 2) b X.1.wait ∧ EX W' ∧ Box W' (w.heap.size + 1) 27 #[.slice none 0 0,.slice none 0 0,.int .i64 0])) :
  Calls Tryz.prog 39 #[.agg #[iv,wv,.int .i64 d.room],.func (.func 51) #[] #[p1]] w (ChR X EX w):=by
 obtain ⟨ia,ic,rfl,_⟩:=h.items.open
 obtain ⟨wa,wc,rfl,_⟩:=h.wait.open
 obtain ⟨w1,hw1⟩:=nmq ((w.alloc (.cells #[.slice ia d.safe.length ic,.slice wa d.wait.length wc,.int .i64 d.room] 27)).alloc (.cells #[.slice none 0 0,.slice none 0 0,.int .i64 0] 27))
 obtain ⟨bd,hbd⟩:=nmq (w.heap.size)
 have X0 : Hid (Box w1 bd 27 #[.slice ia d.safe.length ic,.slice wa d.wait.length wc,.int .i64 d.room]):=hyq (by rw [hw1,hbd]; exact box_new.alloc _)
 have X1 : Hid (Box w1 (bd + 1) 27 #[.slice none 0 0,.slice none 0 0,.int .i64 0]):=hyq (by rw [hw1,hbd,show w.heap.size + 1 = (w.alloc (.cells #[.slice ia d.safe.length ic,.slice wa d.wait.length wc,.int .i64 d.room] 27)).heap.size from by simp]; exact box_new)
 have HB1 : Hid (Below w.heap.size w w1):=hyq (by rw [hw1]; exact bch (below_new _ _) (below_new _ _))
 have HS1 : Hid (w1.heap.size = w.heap.size + 2):=hyq (by rw [hw1]; simp)
 have HBD : Hid (bd = w.heap.size):=hyq hbd
 have HNO:=hyq (now_is d _ _ w1 (h.on HB1.out) hz (hT.on HB1.out))
 have HNN:=hyq hno
 have HDO:=hyq hdo
 have HEX:=hyq hEX
 obtain ⟨room,hroom⟩:=nmq (d.room)
 obtain ⟨i,hi⟩:=nmq (d.safe.length)
 obtain ⟨n,hn⟩:=nmq (d.wait.length)
 rw [← hi,← hn,← hroom] at HNO X0 hw1 ⊢
 have d0 : w1.cell? ⟨bd,0,none⟩ = some (.slice ia i ic):=X0.out.cell (k:=0) rfl
 have d1 : w1.cell? ⟨bd,1,none⟩ = some (.slice wa n wc):=X0.out.cell (k:=1) rfl
 have d2 : w1.cell? ⟨bd,2,none⟩ = some (.int .i64 room):=X0.out.cell (k:=2) rfl
 have k0:=b27
 clear h hz hT hno hdo hEX hn hroom hi
 go_enter Tryz.func39,Tryz.ntmps39
 go_upto_region 1 with fail
 rw [← hw1,← hbd]
 clear hw1 hbd
 go_wp2_with fail
 refine HNO.out.mono ?_
 rintro e w2 ⟨hb2,hc⟩
 have X12:=hyq (X1.out.on hb2)
 have HB2:=hyq (bch HB1.out hb2)
 have HBX:=hyq hb2
 clear d0 d1 d2 HNO hb2
 rcases hc with ⟨h0,rfl⟩ | ⟨t,v',h0,rfl,ho⟩
 ·obtain ⟨w3,hw3⟩:=nmq ((w2.alloc (.cells #[.slice none 0 0] 24)).setRow w2.heap.size #[.slice none 0 0])
  obtain ⟨b6,hb6⟩:=nmq (w2.heap.size)
  have hb23 : Below w2.heap.size w2 w3:=by rw [hw3]; exact below_row (below_new _ _) (Nat.le_refl _) _
  have X13:=hyq (X12.out.on hb23)
  have HB3:=hyq (bch HB2.out hb23)
  obtain ⟨hX,hE⟩:=HNN.out h0
  have FIN : Hid (ChR X EX w (.returned (.tuple #[.agg #[.slice none 0 0,.slice none 0 0,.int .i64 0],.int .i64 180])) (w3.setRow (bd + 1) #[.slice none 0 0,.slice none 0 0,.int .i64 0])):=hyq (by
   rw [hX]
   refine ⟨.slice none 0 0,.slice none 0 0,rfl,World.ownsRow_nil _ _ _ _,World.ownsRow_nil _ _ _ _,?_⟩
   rw [HBD.out]
   exact HEX.out _ _ (hE w3 HB3.out))
  have HW3:=hyq hw3
  have HB6:=hyq hb6
  clear h0 hw3 hb6 hb23 hX hE
  go_wp2_with (first | (refine wpList_store_row rfl 24 (.tmp 6) (.tmp 11) rfl w2.heap.size #[.slice none 0 0] rfl rfl 24 #[.slice none 0 0] box_new (info24 _) rfl (slice_one _ _ _) ?_; rw [← HW3.out,← HB6.out]) | (refine wpList_store_row rfl 27 (.tmp 4) (.tmp 15) rfl (bd + 1) #[.slice none 0 0,.slice none 0 0,.int .i64 0] rfl rfl 27 #[.slice none 0 0,.slice none 0 0,.int .i64 0] X13.out (info27 _ _ _) rfl (darr_one _ _ _ _ _ _ _) ?_) | fail)
  refine bodyPost_ret ?_ rfl FIN.out
  exact end_disk2 rfl _ (X13.out.row _) rfl rfl
 ·obtain ⟨va,vn,vc,rfl⟩:=own_any ho
  obtain ⟨w3,hw3⟩:=nmq ((w2.alloc (.cells #[.slice none 0 0] 24)).setRow w2.heap.size #[.slice va vn vc])
  obtain ⟨b6,hb6⟩:=nmq (w2.heap.size)
  have hb23 : Below w2.heap.size w2 w3:=by rw [hw3]; exact below_row (below_new _ _) (Nat.le_refl _) _
  have X13:=hyq (X12.out.on hb23)
  have HB3:=hyq (bch HB2.out hb23)
  have X6 : Hid (Box w3 b6 24 #[.slice va vn vc]):=hyq (by rw [hw3,hb6]; exact box_new.row _)
  have HCL:=hyq (HDO.out t _ w3 h0 HB3.out (by rw [← HS1.out]; exact ho.on hb23) (by rw [← HS1.out]; exact Nat.le_trans HBX.out.size hb23.size) (by rw [← HBD.out]; exact X13.out))
  have e0 : w3.cell? ⟨b6,0,none⟩ = some (.slice va vn vc):=X6.out.cell (k:=0) rfl
  have HW3:=hyq hw3
  have HB6:=hyq hb6
  clear h0 hw3 hb6 hb23 ho HDO HNN
  go_wp2_with (first | (refine wpList_store_row rfl 24 (.tmp 6) (.tmp 11) rfl w2.heap.size #[.slice va vn vc] rfl rfl 24 #[.slice none 0 0] box_new (info24 _) rfl (slice_one _ _ _) ?_; rw [← HW3.out,← HB6.out]) | fail)
  refine HCL.out.mono ?_
  rintro e w4 ⟨a,b,rfl,h1,h2,h3,h4⟩
  obtain ⟨a1,n1,c1,rfl⟩:=own_any h1
  obtain ⟨a2,c2,rfl⟩:=h2.any
  obtain ⟨n2,hn2⟩:=nmq (X.1.wait.length)
  rw [← hn2] at h2 ⊢
  rw [← HBD.out] at h4
  have X14:=hyq h4
  have FIN : Hid (ChR X EX w (.returned (.tuple #[.agg #[.slice a1 n1 c1,.slice a2 n2 c2,.int .i64 X.1.room],.int .i64 X.2])) (w4.setRow (bd + 1) #[.slice a1 n1 c1,.slice a2 n2 c2,.int .i64 X.1.room])):=hyq (by
   refine ⟨_,_,rfl,own_row' h1 h4 (by decide),own_row' h2 h4 (by decide),?_⟩
   rw [HBD.out]
   exact HEX.out _ _ h3)
  obtain ⟨rr,hrr⟩:=nmq (X.1.room)
  obtain ⟨xx,hxx⟩:=nmq (X.2)
  rw [← hrr,← hxx] at FIN ⊢
  clear h1 h2 h3 h4 hn2 hrr hxx e0 HCL
  go_wp2_with (first | (refine wpList_store_row rfl 27 (.tmp 4) (.tmp 20) rfl (bd + 1) #[.slice a1 n1 c1,.slice a2 n2 c2,.int .i64 rr] rfl rfl 27 #[.slice none 0 0,.slice none 0 0,.int .i64 0] X14.out (info27 _ _ _) rfl (darr_one _ _ _ _ _ _ _) ?_) | fail)
  refine bodyPost_ret ?_ rfl FIN.out
  exact end_disk2 rfl _ (X14.out.row _) rfl rfl
end Go.Proofs.YtigopecainocgaaGreatDoor
namespace Go.Proofs.YtigopecainocgaaGreatDoor
open Go.RowKit Go.Shelf
def R40 (x : Dsk × Nat × Int) (b9 : Nat) (w : World) (e : Ending) (w' : World) : Prop:=∃ a b,e = .returned (.tuple #[.agg #[a,b,.int .i64 x.1.room],.int .i64 x.2.2]) ∧ OwnI w' w.heap.size a x.1.safe ∧ OwnO w' w.heap.size b x.1.wait ∧ Apart (fun k => k = b9) w w' ∧ Box w' b9 3 #[.int .i64 (x.2.1 : Nat)]
theorem run40 (d : Dsk) (iv wv : Value) (t : List It) (tv : Value) (ops : List Opn) (lv : Value) (free : Bool) (b3 b4 b5 b9 : Nat) (w : World) (h : RdD w iv wv d) (hz : SzD d) (hn : nowM d = some t) (ht : RdI w tv t) (ho : RdO w lv ops) (hol : ops.length ≤ 50000) (hso : ∀ o ∈ ops,o.path.length ≤ 140737488355328 ∧ o.to.length ≤ 140737488355328) (hT : TabS w)
  (X3 : Box w b3 27 #[iv,wv,.int .i64 d.room]) (X4 : Box w b4 25 #[lv]) (X5 : Box w b5 4 #[.bool free]) (X9 : Box w b9 3 #[.int .i64 0]) :
  Calls Tryz.prog 40 #[.agg #[tv],.pointer (some ⟨b3,0,none⟩),.pointer (some ⟨b4,0,none⟩),.pointer (some ⟨b5,0,none⟩),.pointer (some ⟨b9,0,none⟩)] w (R40 (runD d ops free) b9 w):=by
 obtain ⟨x,hx⟩:=nmq (runD d ops free)
 have hx2 : (behindM d ops (drun free t d.wait.length d.room ops),(drun free t d.wait.length d.room ops).2.1,(drun free t d.wait.length d.room ops).2.2) = x:=by
  rw [hx]; unfold runD; rw [hn]
 rw [← hx]
 obtain ⟨w1,hw1⟩:=nmq ((w.alloc (.cells #[tv] 24)).alloc (.cells #[.slice none 0 0,.slice none 0 0,.int .i64 0] 27))
 obtain ⟨bd,hbd⟩:=nmq (w.heap.size)
 have HB1 : Hid (Below w.heap.size w w1):=hyq (by rw [hw1]; exact bch (below_new _ _) (below_new _ _))
 have Y5 : Hid (Box w1 bd 24 #[tv]):=hyq (by rw [hw1,hbd]; exact box_new.alloc _)
 have Y6 : Hid (Box w1 (bd + 1) 27 #[.slice none 0 0,.slice none 0 0,.int .i64 0]):=hyq (by rw [hw1,hbd,show w.heap.size + 1 = (w.alloc (.cells #[tv] 24)).heap.size from by simp]; exact box_new)
 have HRU : Hid (Calls Tryz.prog 41 #[.agg #[iv,wv,.int .i64 d.room],.agg #[tv],lv,.bool free] w1 (RunDR x w1)):=hyq (by
  have:=run41 d iv wv t tv ops lv free w1 (h.on HB1.out) hz hn (ht.on HB1.out) (ho.on HB1.out) hol hso (hT.on HB1.out)
  rw [hx2] at this
  exact this)
 obtain ⟨ia,ic,rfl,_⟩:=h.items.open
 obtain ⟨wa,wc,rfl,_⟩:=h.wait.open
 obtain ⟨ta,tc,rfl,_⟩:=ht.open
 obtain ⟨la,lc,rfl,_⟩:=ho.open
 have Z9 : Hid (Box w1 b9 3 #[.int .i64 0]):=hyq (X9.on HB1.out)
 have HBD : Hid (bd = w.heap.size):=hyq hbd
 have H9 : Hid (b9 < w.heap.size):=hyq X9.lt
 have c0 : w1.cell? ⟨b3,0,none⟩ = some (.slice ia d.safe.length ic):=(X3.on HB1.out).cell (k:=0) rfl
 have c1 : w1.cell? ⟨b3,1,none⟩ = some (.slice wa d.wait.length wc):=(X3.on HB1.out).cell (k:=1) rfl
 have c2 : w1.cell? ⟨b3,2,none⟩ = some (.int .i64 d.room):=(X3.on HB1.out).cell (k:=2) rfl
 have c3 : w1.cell? ⟨b4,0,none⟩ = some (.slice la ops.length lc):=(X4.on HB1.out).cell (k:=0) rfl
 have c4 : w1.cell? ⟨b5,0,none⟩ = some (.bool free):=(X5.on HB1.out).cell (k:=0) rfl
 have c5 : w1.cell? ⟨bd,0,none⟩ = some (.slice ta t.length tc):=Y5.out.cell (k:=0) rfl
 obtain ⟨room,hroom⟩:=nmq (d.room)
 obtain ⟨i,hi⟩:=nmq (d.safe.length)
 obtain ⟨n,hnn⟩:=nmq (d.wait.length)
 obtain ⟨tn,htn⟩:=nmq (t.length)
 obtain ⟨m,hm⟩:=nmq (ops.length)
 rw [← hi] at c0 HRU
 rw [← hnn] at c1 HRU
 rw [← hroom] at c2 HRU
 rw [← hm] at c3 HRU
 rw [← htn] at c5 HRU hw1 ⊢
 have FIN : Hid (∀ a b w2 V,OwnI w2 w1.heap.size a x.1.safe → OwnO w2 w1.heap.size b x.1.wait → Below w1.heap.size w1 w2 → V = ((w2.setRow (bd + 1) #[a,b,.int .i64 x.1.room]).setCell ⟨b9,0,none⟩ (.int .i64 (x.2.1 : Nat))).setRow (bd + 1) #[a,b,.int .i64 x.1.room] → R40 x b9 w (.returned (.tuple #[.agg #[a,b,.int .i64 x.1.room],.int .i64 x.2.2])) V):=hyq (fun a b w2 V h1 h2 hb hV => by
  have h9:=H9.out
  have hbd2:=HBD.out
  have hY6:=Y6.out.lt
  have B9:=Z9.out.on hb
  have hk : ∀ k,k ≠ bd + 1 → k ≠ b9 → V.heap[k]? = w2.heap[k]?:=fun k e1 e2 => by
   rw [hV]
   exact (setRow_other _ _ _ _ e1).trans ((heap_setCell_other _ _ _ _ e2).trans (setRow_other _ _ _ _ e1))
  refine ⟨a,b,rfl,own_base (h1.far fun k hk' => hk k ?_ ?_) HB1.out.size,OwnO.base (h2.far fun k hk' => hk k ?_ ?_) HB1.out.size,⟨?_,?_,?_,?_,?_⟩,?_⟩
  ·have:=(ownR_blk h1 hk').1; omega
  ·have:=(ownR_blk h1 hk').1; have:=HB1.out.size; omega
  ·have:=(ownR_blk h2 hk').1; omega
  ·have:=(ownR_blk h2 hk').1; have:=HB1.out.size; omega
  ·rw [hV]; exact hb.os.trans HB1.out.os
  ·rw [hV]; exact hb.tape.trans HB1.out.tape
  ·rw [hV]; exact hb.output.trans HB1.out.output
  ·rw [hV]; simpa using Nat.le_trans HB1.out.size hb.size
  ·intro k hk1 hk2
   exact (hk k (by omega) hk2).trans ((bch HB1.out hb).block k hk1)
  ·rw [hV]
   have hq : Box (w2.setRow (bd + 1) #[a,b,.int .i64 x.1.room]) b9 3 #[.int .i64 0]:=(setRow_other _ _ _ _ (by omega)).trans B9
   have hq2:=hq.set (k:=0) (.int .i64 ((x.2.1 : Nat) : Int))
   exact (setRow_other _ _ _ _ (by omega)).trans hq2)
 have H96 : Hid (b9 ≠ bd + 1):=hyq (by have:=H9.out; have:=HBD.out; omega)
 clear h hz hn ht ho hol hso hT X3 X4 X5 X9 hroom hi hnn htn hm hx hx2
 go_enter Tryz.func40,Tryz.ntmps40
 go_upto_region 1 with fail
 rw [← hw1,← hbd]
 clear hw1 hbd
 go_wp2_with fail
 refine HRU.out.mono ?_
 rintro e w2 ⟨iv',wv',rfl,hoI,hoW,hb2⟩
 obtain ⟨a1,n1,k1,rfl⟩:=own_any hoI
 obtain ⟨a2,k2,rfl⟩:=hoW.any
 obtain ⟨n2,hn2⟩:=nmq (x.1.wait.length)
 rw [← hn2] at hoW ⊢
 obtain ⟨rr,hrr⟩:=nmq (x.1.room)
 obtain ⟨mm,hmm⟩:=nmq (((x.2.1 : Nat) : Int))
 obtain ⟨ee,hee⟩:=nmq (x.2.2)
 rw [← hrr,← hmm,← hee] at FIN ⊢
 have Y62:=hyq (Y6.out.on hb2)
 have Z92:=Z9.out.on hb2
 obtain ⟨V1,hV1⟩:=nmq (w2.setRow (bd + 1) #[.slice a1 n1 k1,.slice a2 n2 k2,.int .i64 rr])
 obtain ⟨V2,hV2⟩:=nmq (V1.setCell ⟨b9,0,none⟩ (.int .i64 mm))
 have B91 : Box V1 b9 3 #[.int .i64 0]:=by rw [hV1]; exact (setRow_other _ _ _ _ H96.out).trans Z92
 have Y63 : Hid (Box V2 (bd + 1) 27 #[.slice a1 n1 k1,.slice a2 n2 k2,.int .i64 rr]):=hyq (by
  rw [hV2,hV1]
  exact Box.far (Y62.out.row _) (fun e => H96.out e.symm) _)
 have p9 : V1.cell? ⟨b9,0,none⟩ = some (.int .i64 0):=B91.cell (k:=0) rfl
 have f9:=frozen_of_row V1 b9 0 _ _ B91
 have q0 : V2.cell? ⟨bd + 1,0,none⟩ = some (.slice a1 n1 k1):=Y63.out.cell (k:=0) rfl
 have q1 : V2.cell? ⟨bd + 1,1,none⟩ = some (.slice a2 n2 k2):=Y63.out.cell (k:=1) rfl
 have q2 : V2.cell? ⟨bd + 1,2,none⟩ = some (.int .i64 rr):=Y63.out.cell (k:=2) rfl
 have FF:=hyq (FIN.out (.slice a1 n1 k1) (.slice a2 n2 k2) w2 (V2.setRow (bd + 1) #[.slice a1 n1 k1,.slice a2 n2 k2,.int .i64 rr]) hoI hoW hb2 (by rw [hV2,hV1]))
 have HV1:=hyq hV1
 have HV2:=hyq hV2
 clear hoI hoW hb2 hn2 hrr hmm hee Z92 hV1 hV2 B91 c0 c1 c2 c3 c4 c5 FIN HRU
 go_upto_region 2 with (first | (refine wpList_store_row rfl 27 (.tmp 6) (.tmp 14) rfl (bd + 1) #[.slice a1 n1 k1,.slice a2 n2 k2,.int .i64 rr] rfl rfl 27 #[.slice none 0 0,.slice none 0 0,.int .i64 0] Y62.out (info27 _ _ _) rfl (darr_one _ _ _ _ _ _ _) ?_; rw [← HV1.out]) | fail)
 rw [← HV2.out]
 clear p9 f9
 go_wp2_with (first | (refine wpList_store_row rfl 27 (.tmp 6) (.tmp 17) rfl (bd + 1) #[.slice a1 n1 k1,.slice a2 n2 k2,.int .i64 rr] rfl rfl 27 #[.slice a1 n1 k1,.slice a2 n2 k2,.int .i64 rr] Y63.out (info27 _ _ _) rfl (darr_one _ _ _ _ _ _ _) ?_) | fail)
 refine bodyPost_ret ?_ rfl FF.out
 exact end_disk2 rfl _ (Y63.out.row _) rfl rfl
theorem runF_is (d : Dsk) (iv wv : Value) (ops : List Opn) (lv : Value) (free : Bool) (w : World) (h : RdD w iv wv d) (hz : SzD d) (ho : RdO w lv ops) (hol : ops.length ≤ 50000) (hso : ∀ o ∈ ops,o.path.length ≤ 140737488355328 ∧ o.to.length ≤ 140737488355328) (hT : TabS w) :
  Calls Tryz.prog 22 #[.agg #[iv,wv,.int .i64 d.room],lv,.bool free] w (RunDR (runD d ops free) w):=by
 obtain ⟨x,hx⟩:=nmq (runD d ops free)
 obtain ⟨w1,hw1⟩:=nmq (((((w.alloc (.cells #[iv,wv,.int .i64 d.room] 27)).alloc (.cells #[lv] 25)).alloc (.cells #[.bool free] 4)).alloc (.cells #[.slice none 0 0,.slice none 0 0,.int .i64 0] 27)))
 obtain ⟨bd,hbd⟩:=nmq (w.heap.size)
 have HB1 : Below w.heap.size w w1:=by rw [hw1]; exact bch (bch (bch (below_new _ _) (below_new _ _)) (below_new _ _)) (below_new _ _)
 have Y3 : Box w1 bd 27 #[iv,wv,.int .i64 d.room]:=by rw [hw1,hbd]; exact ((box_new.alloc _).alloc _).alloc _
 have Y4 : Box w1 (bd + 1) 25 #[lv]:=by rw [hw1,hbd,show w.heap.size + 1 = (w.alloc (.cells #[iv,wv,.int .i64 d.room] 27)).heap.size from by simp]; exact (box_new.alloc _).alloc _
 have Y5 : Box w1 (bd + 1 + 1) 4 #[.bool free]:=by rw [hw1,hbd,show w.heap.size + 1 + 1 = ((w.alloc (.cells #[iv,wv,.int .i64 d.room] 27)).alloc (.cells #[lv] 25)).heap.size from by simp]; exact box_new.alloc _
 have Y6 : Box w1 (bd + 1 + 1 + 1) 27 #[.slice none 0 0,.slice none 0 0,.int .i64 0]:=by rw [hw1,hbd,show w.heap.size + 1 + 1 + 1 = (((w.alloc (.cells #[iv,wv,.int .i64 d.room] 27)).alloc (.cells #[lv] 25)).alloc (.cells #[.bool free] 4)).heap.size from by simp]; exact box_new
 obtain ⟨w2,hw2⟩:=nmq (w1.alloc (.cells #[.int .i64 0] 3))
 have hb12 : Below w1.heap.size w1 w2:=by rw [hw2]; exact below_new _ _
 obtain ⟨b9,hb9⟩:=nmq (w1.heap.size)
 have Y9 : Box w2 b9 3 #[.int .i64 0]:=by rw [hw2,hb9]; exact box_new
 obtain ⟨W1,hW1⟩:=nmq (w2.setCell ⟨b9,0,none⟩ (.int .i64 0))
 have hb2W : Below w1.heap.size w1 W1:=by rw [hW1]; exact hb12.setCell (p:=⟨b9,0,none⟩) (by rw [hb9]; exact Nat.le_refl _) _
 have HBW : Hid (Below w.heap.size w W1):=hyq (bch HB1 hb2W)
 have U9 : Hid (Box W1 b9 3 #[.int .i64 0]):=hyq (by rw [hW1]; exact Y9.set (k:=0) _)
 have U3 : Hid (Box W1 bd 27 #[iv,wv,.int .i64 d.room]):=hyq (Y3.on hb2W)
 have U4 : Hid (Box W1 (bd + 1) 25 #[lv]):=hyq (Y4.on hb2W)
 have U5 : Hid (Box W1 (bd + 1 + 1) 4 #[.bool free]):=hyq (Y5.on hb2W)
 have U6 : Hid (Box W1 (bd + 1 + 1 + 1) 27 #[.slice none 0 0,.slice none 0 0,.int .i64 0]):=hyq (Y6.on hb2W)
 have H69 : Hid (bd = w.heap.size ∧ bd + 1 + 1 + 1 < b9):=hyq ⟨hbd,by rw [hb9]; exact Y6.lt⟩
 have HCH : Hid (Calls Tryz.prog 39 #[.agg #[iv,wv,.int .i64 d.room],.func (.func 40) #[] #[.pointer (some ⟨bd,0,none⟩),.pointer (some ⟨bd + 1,0,none⟩),.pointer (some ⟨bd + 1 + 1,0,none⟩),.pointer (some ⟨b9,0,none⟩)]] W1 (ChR (x.1,x.2.2) (fun V => Apart (fun k => k = b9) W1 V ∧ Box V b9 3 #[.int .i64 (x.2.1 : Nat)]) W1)):=hyq (by
  have h9:=U9.out.lt
  refine change40 d iv wv _ _ _ _ W1 (h.on HBW.out) hz (hT.on HBW.out) (x.1,x.2.2) _ ?_ ?_ ?_
  ·rintro W cs ⟨e1,e2⟩
   exact ⟨⟨e1.os,e1.tape,e1.output,by simpa using e1.size,fun k hk hn => (setRow_other _ _ _ _ (by omega)).trans (e1.block k hk hn)⟩,(setRow_other _ _ _ _ (by omega)).trans e2⟩
  ·intro h0
   have hx0 : x = (⟨[],[],0⟩,0,180):=by rw [hx]; unfold runD; rw [h0]
   refine ⟨by rw [hx0],fun W hb => ⟨⟨hb.os,hb.tape,hb.output,hb.size,fun k hk _ => hb.block k hk⟩,?_⟩⟩
   rw [hx0]
   exact U9.out.on hb
  ·intro t v' W h0 hb hO hs hB
   refine (run40 d iv wv t v' ops lv free bd (bd + 1) (bd + 1 + 1) b9 W ((h.on HBW.out).on hb) hz h0 hO.rd ((ho.on HBW.out).on hb) hol hso ((hT.on HBW.out).on hb) (U3.out.on hb) (U4.out.on hb) (U5.out.on hb) (U9.out.on hb)).mono ?_
   rintro e W' ⟨a,b,he,h1,h2,h3,h4⟩
   rw [← hx] at he h1 h2 h4
   refine ⟨a,b,he,own_base h1 hs,h2.base hs,⟨⟨h3.os.trans hb.os,h3.tape.trans hb.tape,h3.output.trans hb.output,Nat.le_trans hb.size h3.size,fun k hk hn => (h3.block k (by omega) hn).trans (hb.block k hk)⟩,h4⟩,(h3.block _ (by omega) (by omega)).trans hB⟩)
 rw [← hx]
 obtain ⟨ia,ic,rfl,_⟩:=h.items.open
 obtain ⟨wa,wc,rfl,_⟩:=h.wait.open
 obtain ⟨la,lc,rfl,_⟩:=ho.open
 have c0 : W1.cell? ⟨bd,0,none⟩ = some (.slice ia d.safe.length ic):=U3.out.cell (k:=0) rfl
 have c1 : W1.cell? ⟨bd,1,none⟩ = some (.slice wa d.wait.length wc):=U3.out.cell (k:=1) rfl
 have c2 : W1.cell? ⟨bd,2,none⟩ = some (.int .i64 d.room):=U3.out.cell (k:=2) rfl
 have p9 : w2.cell? ⟨b9,0,none⟩ = some (.int .i64 0):=Y9.cell (k:=0) rfl
 have f9:=frozen_of_row w2 b9 0 _ _ Y9
 obtain ⟨room,hroom⟩:=nmq (d.room)
 obtain ⟨i,hi⟩:=nmq (d.safe.length)
 obtain ⟨n,hnn⟩:=nmq (d.wait.length)
 obtain ⟨m,hm⟩:=nmq (ops.length)
 rw [← hroom] at c2
 rw [← hi] at c0
 rw [← hnn] at c1
 rw [← hi,← hnn,← hroom] at HCH
 rw [← hi,← hnn,← hroom,← hm] at hw1
 rw [← hi,← hnn,← hroom,← hm]
 have HWW2:=hyq hw2
 have HWW1:=hyq hW1
 have HH9:=hyq hb9
 clear h hz ho hol hso hT hx hroom hi hnn hm HB1 Y3 Y4 Y5 Y6 Y9 hb12 hb2W U3 U4 U5 hw2 hW1 hb9
 go_enter Tryz.func22,Tryz.ntmps22
 go_upto_region 1 with fail
 rw [← hw1,← hbd]
 clear hw1 hbd
 go_upto_region 2 with (first | (rw [← HWW2.out,← HH9.out]) | fail)
 first | rw [← HWW1.out] | (rw [← HWW2.out,← HH9.out,← HWW1.out])
 clear p9 f9
 go_wp2_with fail
 refine HCH.out.mono ?_
 rintro e V ⟨a,b,rfl,h1,h2,h3,h4⟩
 obtain ⟨a1,n1,k1,rfl⟩:=own_any h1
 obtain ⟨a2,k2,rfl⟩:=h2.any
 obtain ⟨n2,hn2⟩:=nmq (x.1.wait.length)
 rw [← hn2] at h2 ⊢
 obtain ⟨V1,hV1⟩:=nmq ((V.alloc (.cells #[.slice none 0 0,.slice none 0 0,.int .i64 0] 27)).setRow V.heap.size #[.slice a1 n1 k1,.slice a2 n2 k2,.int .i64 x.1.room])
 obtain ⟨b10,hb10⟩:=nmq (V.heap.size)
 obtain ⟨b6,hb6⟩:=nmq (bd + 1 + 1 + 1)
 have hbV : Below V.heap.size V V1:=by rw [hV1]; exact below_row (below_new _ _) (Nat.le_refl _) _
 have h69:=H69.out
 have A6 : Box V b6 27 #[.slice none 0 0,.slice none 0 0,.int .i64 0]:=by rw [hb6]; exact (h3.block _ (U6.out.lt) (by omega)).trans U6.out
 have Z6 : Box V1 b6 27 #[.slice none 0 0,.slice none 0 0,.int .i64 0]:=A6.on hbV
 have Z9 : Box V1 b9 3 #[.int .i64 (x.2.1 : Nat)]:=h4.on hbV
 have Z10 : Box V1 b10 27 #[.slice a1 n1 k1,.slice a2 n2 k2,.int .i64 x.1.room]:=by rw [hV1,hb10]; exact box_new.row _
 have lt9:=h4.lt
 have n1' : ¬ b10 = b6:=by omega
 have n2' : ¬ b9 = b6:=by omega
 have n3' : ¬ b6 = b10:=by omega
 have n4' : ¬ b6 = b9:=by omega
 have u0 : V1.cell? ⟨b10,0,none⟩ = some (.slice a1 n1 k1):=Z10.cell (k:=0) rfl
 have u1 : V1.cell? ⟨b10,1,none⟩ = some (.slice a2 n2 k2):=Z10.cell (k:=1) rfl
 have u2 : V1.cell? ⟨b10,2,none⟩ = some (.int .i64 x.1.room):=Z10.cell (k:=2) rfl
 have u3 : V1.cell? ⟨b9,0,none⟩ = some (.int .i64 (x.2.1 : Nat)):=Z9.cell (k:=0) rfl
 have y0 : V1.cell? ⟨b6,0,none⟩ = some (.slice none 0 0):=Z6.cell (k:=0) rfl
 have y1 : V1.cell? ⟨b6,1,none⟩ = some (.slice none 0 0):=Z6.cell (k:=1) rfl
 have y2 : V1.cell? ⟨b6,2,none⟩ = some (.int .i64 0):=Z6.cell (k:=2) rfl
 have z0:=frozen_of_row V1 b6 0 _ _ Z6
 have z1:=frozen_of_row V1 b6 1 _ _ Z6
 have z2:=frozen_of_row V1 b6 2 _ _ Z6
 have FIN : Hid (∀ Z W,Z = ((V1.setCell ⟨b6,0,none⟩ (.slice a1 n1 k1)).setCell ⟨b6,1,none⟩ (.slice a2 n2 k2)).setCell ⟨b6,2,none⟩ (.int .i64 x.1.room) → W = Z.drew → Box W b6 27 #[.slice a1 n1 k1,.slice a2 n2 k2,.int .i64 x.1.room] ∧ RunDR x w (.returned (.tuple #[.agg #[.slice a1 n1 k1,.slice a2 n2 k2,.int .i64 x.1.room],.int .i64 (x.2.1 : Nat),.int .i64 x.2.2])) W):=hyq (by
  intro Z W hZ hW
  have hk : ∀ q,q ≠ b6 → W.heap[q]? = V1.heap[q]?:=fun q hq => by
   rw [hW]
   show Z.heap[q]? = _
   rw [hZ]
   exact (heap_setCell_other _ _ _ _ hq).trans ((heap_setCell_other _ _ _ _ hq).trans (heap_setCell_other _ _ _ _ hq))
  have hX : Box W b6 27 #[.slice a1 n1 k1,.slice a2 n2 k2,.int .i64 x.1.room]:=by
   rw [hW]
   show Z.heap[b6]? = _
   rw [hZ]
   exact ((Z6.set (k:=0) _).set (k:=1) _).set (k:=2) _
  have hs1:=HBW.out.size
  have hlt6:=U6.out.lt
  refine ⟨hX,_,_,rfl,own_base ((h1.on hbV).far fun q hq => hk q ?_) (by omega),OwnO.base ((OwnO.on h2 hbV).far fun q hq => hk q ?_) (by omega),?_⟩
  ·have:=(ownR_blk h1 hq).1; omega
  ·have:=(ownR_blk h2 hq).1; omega
  ·have hlow : Below w.heap.size w V:=h3.below HBW.out (fun k hk => by omega)
   have hlow1:=bch hlow hbV
   rw [hW,hZ]
   exact (((hlow1.setCell (p:=⟨b6,0,none⟩) (by show _ ≤ b6; omega) _).setCell (p:=⟨b6,1,none⟩) (by show _ ≤ b6; omega) _).setCell (p:=⟨b6,2,none⟩) (by show _ ≤ b6; omega) _).drew)
 obtain ⟨rr,hrr⟩:=nmq (x.1.room)
 obtain ⟨mm,hmm⟩:=nmq (((x.2.1 : Nat) : Int))
 obtain ⟨ee,hee⟩:=nmq (x.2.2)
 rw [← hrr] at u2 hV1
 rw [← hmm] at u3
 rw [← hrr,← hmm,← hee] at FIN
 rw [← hrr,← hee]
 rw [← hb6]
 have HV1:=hyq hV1
 have HB10:=hyq hb10
 clear h1 h2 h3 h4 hn2 hV1 hb10 hb6 hbV h69 A6 Z6 Z9 Z10 lt9 hrr hmm hee c0 c1 c2 HCH
 go_upto_region 3 with (first | (refine wpList_store_row rfl 27 (.tmp 10) (.tmp 16) rfl V.heap.size #[.slice a1 n1 k1,.slice a2 n2 k2,.int .i64 rr] rfl rfl 27 #[.slice none 0 0,.slice none 0 0,.int .i64 0] box_new (info27 _ _ _) rfl (darr_one _ _ _ _ _ _ _) ?_; rw [← HV1.out,← HB10.out]) | fail)
 go_region
 all_goals go_wp2
 all_goals
  obtain ⟨e1,e2⟩:=FIN.out _ _ rfl rfl
  refine bodyPost_ret ?_ rfl e2
  exact end_disk3 rfl _ e1 rfl rfl rfl
end Go.Proofs.YtigopecainocgaaGreatDoor
namespace Go.Proofs.YtigopecainocgaaGreatDoor
open Go.RowKit Go.Shelf
theorem append_full {w : World} {l : List Opn} {o : Opn} {a : Option Addr} {n g : Nat} (hl : l.length = n) (h : RdF w (.slice a n n) n (flatO l)) (hn : n ≤ 100000) (hB : Box w g 46 o.arr) (ty : TypeId) :
  ∃ v' w',(Builtin.append_ #[25,25] ty #[.slice a n n,.slice (some ⟨g,0,none⟩) 1 1]).run Tryz.prog w = .ok v' w' ∧ RdO w' v' (l ++ [o]) ∧ Below w.heap.size w w':=by
 obtain ⟨i,hi,hz,hsize,hby⟩:=info_parts info46z
 have hnews : ∀ (j : Nat) (u : Value),(flatO [o])[j]? = some u → w.cell? ((⟨g,0,none⟩ : Addr).add j) = some u:=fun j u hu => by
  rw [add_to,Nat.zero_add]
  exact hB.cell (by rw [← Array.getElem?_toList]; simpa [flatO,Opn.cells,Opn.arr] using hu)
 have hs : Src Tryz.prog i.size 25 (.slice (some ⟨g,0,none⟩) 1 1) 1 (flatO [o]) w:=Src.ofSlice w Tryz.underlying25 _ 1 1 (flatO [o]) (by rw [hsize]; rfl) hnews (flatO_one _)
 obtain ⟨a',c',e,_,_,hc⟩:=h
 cases e
 have hold : (Builtin.firstCells i.size n (.slice a n n)).run Tryz.prog w.drew = .ok (flatO l).toArray w.drew:=by
  cases a with
  | none =>
   have h0 : n = 0:=by
    rcases Nat.eq_zero_or_pos n with h | h
    ·exact h
    ·obtain ⟨_,_,e,_⟩:=hc h; cases e
   have hl0 : l = []:=List.eq_nil_of_length_eq_zero (by omega)
   rw [hl0]
   exact run_firstCells_none w.drew i.size n n n
  | some ad =>
   refine run_firstCells_some w.drew i.size n ad n n (flatO l) (by rw [flatO_len,hl,hsize]) (fun j u hu => ?_)
   have h0 : 0 < n:=by
    have:=(List.getElem?_eq_some_iff.1 hu).1
    rw [flatO_len] at this
    omega
   obtain ⟨g',o',e,_,hc'⟩:=hc h0
   cases e
   rw [add_to]
   exact hc' j u hu
 have hrun:=run_append_grow_src (P:=Tryz.prog) w 25 25 ty 46 i (.agg Opn.zero.arr) Tryz.underlying25 hi hz a n n (flatO l) hold _ 1 (flatO [o]) hs (by omega) (by omega) (growslice_fits (by omega) (by rw [hby]; omega))
 refine ⟨_,_,hrun,?_,?_⟩
 ·have hge:=grownCap_ge w (n + 1) n 46
  have hcm:=grownCap_le_maxLen w (n + 1) n 46 (by unfold maxLen; omega)
  unfold RdO
  rw [List.length_append,hl]
  refine ⟨_,_,rfl,hge,hcm,fun _ => ⟨w.heap.size,0,rfl,by simp,fun j u hu => ?_⟩⟩
  rw [Nat.zero_add]
  rw [flatO_append] at hu
  have hx : Box (w.drew.alloc (.cells ((flatO l ++ flatO [o]).toArray ++ Builtin.zeroCells (Value.agg Opn.zero.arr).cells (grownCap w (n + 1) n 46 - (n + 1))) 46)) w.heap.size 46 _:=box_new (w:=w.drew)
  refine hx.cell ?_
  rw [Array.getElem?_append_left (by simpa using (List.getElem?_eq_some_iff.1 hu).1)]
  simpa using hu
 ·exact (Below.refl _ w).drew.alloc (by exact Nat.le_refl _) _
theorem wpList_append_full {ops : Array Oper} {rest : List Oper} {op : Oper} {a : Act} {w : World} {Q : Exit → Act → World → Prop} (hgd : op.guard = none) (s x : Operand)
  (hop : op.op = .call { callee:=.builtin .append,args:=#[s,x],argTypes:=#[25,25] }) {l : List Opn} {o : Opn} {ad : Option Addr} {n g : Nat} (hl : l.length = n) (hv : a.eval s = .slice ad n n) (hx : a.eval x = .slice (some ⟨g,0,none⟩) 1 1)
  (h : RdF w (.slice ad n n) n (flatO l)) (hn : n ≤ 100000) (hB : Box w g 46 o.arr) (hK : ∀ v' w',RdO w' v' (l ++ [o]) → Below w.heap.size w w' → wpList Tryz.prog ops Q rest (a.put op.dst v') w') : wpList Tryz.prog ops Q (op :: rest) a w:=by
 refine wpList_plain hgd fun K hK' => ?_
 obtain ⟨v',w',hrun,h1,h2⟩:=append_full hl h hn hB op.type
 unfold Oper.wp
 simp [execOp,hop,resolve,invoke,builtin,hv,hx,hrun,Result.andThen]
 exact hK' _ _ (hK v' w' h1 h2)
theorem ext_take (d : Str) (c q : Nat) (hq : q = min c d.length) : (⟨d.toArray⟩ : ByteArray).extract 0 q = ⟨(d.take c).toArray⟩:=by
 refine ByteArray.ext ?_
 rw [ByteArray.data_extract]
 refine Array.ext' ?_
 simp
 omega
def KeptR (l : List Opn) (w : World) (e : Ending) (w' : World) : Prop:=∃ v,e = .returned v ∧ RdO w' v l ∧ Below w.heap.size w w'
theorem kept_is (l : List Opn) (v : Value) (keep cut : Nat) (w : World) (hv : RdO w v l) (hk : keep ≤ l.length) (hl : l.length ≤ 8000) (hc : cut ≤ 1000000000) (hd : ∀ o ∈ l,o.data.length ≤ 1000000000) :
  Calls Tryz.prog 44 #[v,.int .i64 keep,.int .i64 cut] w (KeptR (keptM l keep cut) w):=by
 obtain ⟨a,c,rfl,hlc,hcm,_⟩:=hv.open
 unfold maxLen at hcm
 obtain ⟨n,hn⟩:=nmq (l.length)
 have hv1:=hv
 rw [← hn] at hlc hk hv1 hl ⊢
 have htk : RdF w (.slice a keep keep) keep (flatO (l.take keep)):=by
  obtain ⟨a',c',e,h1,h2,h3⟩:=hv1
  cases e
  refine ⟨a,keep,rfl,Nat.le_refl _,by omega,fun h0 => ?_⟩
  obtain ⟨g,o,e,hg,hx⟩:=h3 (by omega)
  refine ⟨g,o,e,hg,fun j u hj => hx j u ?_⟩
  rw [flatO_take,List.getElem?_take] at hj
  split at hj
  ·exact hj
  ·cases hj
 have hlen : (l.take keep).length = keep:=by rw [List.length_take]; omega
 have hwh : RdO w (.slice a keep keep) (l.take keep):=by unfold RdO; rw [hlen]; exact htk
 have k0 : (0 : Int) ≤ (keep : Int):=by omega
 have k1 : (keep : Int) ≤ (c : Int):=by omega
 have k2 : (keep : Int) ≤ (n : Int):=by omega
 have k3 : (c : Int) ≤ 9223372036854775807:=by omega
 have HK : Hid (∀ x,keptM l keep cut = x → RdO w (.slice a keep keep) x → KeptR (keptM l keep cut) w (.returned (.slice a keep keep)) w):=hyq (fun x hx h => ⟨_,rfl,by rw [hx]; exact h,Below.refl _ _⟩)
 have HW:=hyq hwh
 by_cases hc0 : cut = 0
 ·have HM : Hid (keptM l keep cut = l.take keep):=hyq (by unfold keptM; split <;> simp [hc0])
  subst hc0
  have t0 : ((0 : Int) == 0) = true:=rfl
  clear hv hv1 hn hd htk hlen hwh
  go_enter Tryz.func44,Tryz.ntmps44
  go_wp2_with fail
  go_ret
  exact HK.out _ HM.out HW.out
 have t0 : ((cut : Int) == 0) = false:=by simpa using hc0
 have t0' : ¬ (cut : Int) = 0:=by omega
 by_cases hkn : keep = n
 ·have HM : Hid (keptM l keep cut = l.take keep):=hyq (by
   unfold keptM
   rw [List.getElem?_eq_none (by omega)])
  subst hkn
  have t1 : ((keep : Int) == (keep : Int)) = true:=by simp
  clear hv hv1 hn hd htk hlen hwh
  go_enter Tryz.func44,Tryz.ntmps44
  go_wp2_with fail
  go_ret
  exact HK.out _ HM.out HW.out
 have hlt : keep < n:=by omega
 have t1 : ((keep : Int) == (n : Int)) = false:=by simpa using fun h => hkn (by omega)
 have t1' : ¬ (keep : Int) = (n : Int):=by omega
 have k5 : (keep : Int) < (n : Int):=by omega
 obtain ⟨o,hko⟩ : ∃ o,l[keep]? = some o:=⟨_,List.getElem?_eq_getElem (by omega)⟩
 obtain ⟨a',c',e,_,_,hcell⟩:=hv.open
 rw [← hn] at e
 injection e with e1 e2 e3
 subst e1 e3
 obtain ⟨g,oo,rfl,hg,hcell⟩:=hcell (by omega)
 obtain ⟨q0,q1,q2,q3⟩:=hcell keep o hko
 have HQ : Hid (∀ W,Below w.heap.size w W → OAt W g (oo + keep * 4) o):=hyq (fun W hb => ⟨(hb.cell (p:=⟨g,_,none⟩) hg).trans q0,(hb.cell (p:=⟨g,_,none⟩) hg).trans q1,(hb.cell (p:=⟨g,_,none⟩) hg).trans q2,(hb.cell (p:=⟨g,_,none⟩) hg).trans q3⟩)
 obtain ⟨pb,hpb⟩ : ∃ z,partB o = z:=⟨_,rfl⟩
 have HP : Hid (Calls Tryz.prog 59 #[.agg #[.int .i64 o.kind,.string ⟨o.path.toArray⟩,.string ⟨o.to.toArray⟩,.string ⟨o.data.toArray⟩]] w (EqR pb w)):=hyq (parts_is o pb hpb w)
 have HM : Hid (keptM l keep cut = if pb = false then l.take keep else l.take keep ++ [lessO o cut]):=hyq (by
  unfold keptM
  rw [hko]
  simp only
  rw [hpb]
  by_cases hz : pb = false
  ·rw [if_pos (.inr hz),if_pos hz]
  ·rw [if_neg (by rintro (h | h); exact hc0 h; exact hz h),if_neg hz])
 have hdo:=hd o (List.mem_of_getElem? hko)
 obtain ⟨dl,hdl⟩:=nmq (o.data.length)
 obtain ⟨q,hq⟩:=nmq (min cut dl)
 have HEX : Hid ((⟨o.data.toArray⟩ : ByteArray).extract 0 q = ⟨(o.data.take cut).toArray⟩):=hyq (ext_take o.data cut q (by rw [hq,hdl]))
 have HDL : Hid ((⟨o.data.toArray⟩ : ByteArray).size = dl):=hyq (by rw [hdl]; show o.data.toArray.size = _; rw [List.size_toArray])
 have m1 : min (cut : Int) (dl : Int) = (q : Int):=by omega
 have m2 : (0 : Int) ≤ (q : Int):=by omega
 have m3 : (q : Int) ≤ (dl : Int):=by omega
 have HLEN:=hyq hlen
 have htkF : Hid (∀ W,Below w.heap.size w W → RdF W (.slice (some ⟨g,oo,none⟩) keep keep) keep (flatO (l.take keep))):=hyq (fun W hb => htk.on hb)
 rw [← hdl] at hdo
 clear hv hv1 hn hd htk hlen hwh hcell hko hpb hdl hq hk hc
 cases pb with
 | false =>
  go_enter Tryz.func44,Tryz.ntmps44
  go_wp2_with fail
  refine HP.out.mono ?_
  rintro e w2 ⟨rfl,hb⟩
  have HB:=hyq hb
  clear hb q0 q1 q2 q3
  go_wp2_with fail
  go_ret
  exact ⟨_,rfl,by rw [HM.out]; exact RdO.on HW.out HB.out,HB.out⟩
 | true =>
  go_enter Tryz.func44,Tryz.ntmps44
  go_wp2_with fail
  refine HP.out.mono ?_
  rintro e w2 ⟨rfl,hb⟩
  have HB:=hyq hb
  clear q0 q1 q2 q3
  obtain ⟨q0,q1,q2,q3⟩:=HQ.out w2 hb
  obtain ⟨w3,hw3⟩:=nmq ((w2.alloc (.cells Opn.zero.arr 46)).setRow w2.heap.size o.arr)
  obtain ⟨b8,hb8⟩:=nmq (w2.heap.size)
  have hb23 : Below w2.heap.size w2 w3:=by rw [hw3]; exact below_row (below_new _ _) (Nat.le_refl _) _
  have X3 : Box w3 b8 46 o.arr:=by rw [hw3,hb8]; exact box_new.row _
  obtain ⟨w4,hw4⟩:=nmq (w3.setCell ⟨b8,3,none⟩ (.string ⟨(o.data.take cut).toArray⟩))
  have X4 : Box w4 b8 46 (lessO o cut).arr:=by rw [hw4]; exact X3.set (k:=3) _
  have hb24 : Below w2.heap.size w2 w4:=by rw [hw4]; exact hb23.setCell (p:=⟨b8,3,none⟩) (by rw [hb8]; exact Nat.le_refl _) _
  obtain ⟨w5,hw5⟩:=nmq (w4.alloc (.cells (lessO o cut).arr 46))
  obtain ⟨b9,hb9⟩:=nmq (w4.heap.size)
  have X5 : Hid (Box w5 b9 46 (lessO o cut).arr):=hyq (by rw [hw5,hb9]; exact box_new)
  have HB5 : Hid (Below w.heap.size w w5):=hyq (by rw [hw5]; exact bch (bch HB.out hb24) (below_new _ _))
  have s3 : w3.cell? ⟨b8,3,none⟩ = some (.string ⟨o.data.toArray⟩):=X3.cell (k:=3) rfl
  have f3:=frozen_of_row w3 b8 3 _ _ X3
  have r0 : w4.cell? ⟨b8,0,none⟩ = some (.int .i64 o.kind):=X4.cell (k:=0) rfl
  have r1 : w4.cell? ⟨b8,1,none⟩ = some (.string ⟨o.path.toArray⟩):=X4.cell (k:=1) rfl
  have r2 : w4.cell? ⟨b8,2,none⟩ = some (.string ⟨o.to.toArray⟩):=X4.cell (k:=2) rfl
  have r3 : w4.cell? ⟨b8,3,none⟩ = some (.string ⟨(o.data.take cut).toArray⟩):=X4.cell (k:=3) rfl
  have hw3' : w3 = (w2.alloc (.cells #[.int .i64 0,.string ⟨#[]⟩,.string ⟨#[]⟩,.string ⟨#[]⟩] 46)).setRow w2.heap.size #[.int .i64 o.kind,.string ⟨o.path.toArray⟩,.string ⟨o.to.toArray⟩,.string ⟨o.data.toArray⟩]:=hw3
  have hw5' : w5 = w4.alloc (.cells #[.int .i64 o.kind,.string ⟨o.path.toArray⟩,.string ⟨o.to.toArray⟩,.string ⟨(o.data.take cut).toArray⟩] 46):=hw5
  have HW3:=hyq hw3'
  have HW4:=hyq hw4
  have HW5:=hyq hw5'
  have HB8:=hyq hb8
  have HB9:=hyq hb9
  have ex:=HEX.out
  have sz:=HDL.out
  clear hb hw3 hw3' hw4 hw5 hw5' hb8 hb9 hb23 hb24 X3 X4
  go_upto_region 5 with (first | (refine wpList_store_row rfl 46 (.tmp 8) (.tmp 33) rfl w2.heap.size #[.int .i64 o.kind,.string ⟨o.path.toArray⟩,.string ⟨o.to.toArray⟩,.string ⟨o.data.toArray⟩] rfl rfl 46 #[.int .i64 0,.string ⟨#[]⟩,.string ⟨#[]⟩,.string ⟨#[]⟩] box_new info46a rfl (by simp [Value.oneCell']) ?_; rw [← HW3.out,← HB8.out]) | fail)
  clear q0 q1 q2 q3
  go_upto_region 6 with fail
  rw [← HW4.out]
  clear s3 f3 ex sz
  go_wp2_with (at_builtin; rw [← HW5.out,← HB9.out]; refine wpList_append_full rfl _ _ rfl HLEN.out rfl rfl (htkF.out _ HB5.out) (by omega) X5.out ?_)
  intro v' w6 h1 h2
  go_wp2
  go_ret
  exact ⟨_,rfl,by rw [HM.out]; exact h1,bch HB5.out h2⟩
end Go.Proofs.YtigopecainocgaaGreatDoor
namespace Go.Proofs.YtigopecainocgaaGreatDoor
open Go.RowKit Go.Shelf
def DskR (x : Dsk × Int) (w : World) (e : Ending) (w' : World) : Prop:=∃ iv wv,e = .returned (.tuple #[.agg #[iv,wv,.int .i64 x.1.room],.int .i64 x.2]) ∧ OwnI w' w.heap.size iv x.1.safe ∧ OwnO w' w.heap.size wv x.1.wait ∧ Below w.heap.size w w'
theorem built27f (a : Option Addr) (n c : Nat) (r : Int) : Tryz.prog.built 27 [(0,.agg #[.slice a n c]),(2,.int .i64 r)] = some #[.slice a n c,.slice none 0 0,.int .i64 r]:=by kernel_rfl
theorem fresh_is (a : Option Addr) (n c : Nat) (w : World) : Calls Tryz.prog 32 #[.agg #[.slice a n c]] w fun e w' => e = .returned (.agg #[.slice a n c,.slice none 0 0,.int .i64 (-1)]) ∧ Below w.heap.size w w':=by
 obtain ⟨w1,hw1⟩:=nmq ((w.alloc (.cells #[.slice a n c] 24)).alloc (.cells #[.slice none 0 0,.slice none 0 0,.int .i64 0] 27))
 obtain ⟨bd,hbd⟩:=nmq (w.heap.size)
 have X0 : Box w1 bd 24 #[.slice a n c]:=by rw [hw1,hbd]; exact box_new.alloc _
 have X1 : Hid (Box w1 (bd + 1) 27 #[.slice none 0 0,.slice none 0 0,.int .i64 0]):=hyq (by rw [hw1,hbd,show w.heap.size + 1 = (w.alloc (.cells #[.slice a n c] 24)).heap.size from by simp]; exact box_new)
 have HB1 : Hid (Below w.heap.size w w1):=hyq (by rw [hw1]; exact bch (below_new _ _) (below_new _ _))
 have HLE : Hid (w.heap.size ≤ bd + 1):=hyq (by rw [hbd]; exact Nat.le_succ _)
 have c0 : w1.cell? ⟨bd,0,none⟩ = some (.slice a n c):=X0.cell (k:=0) rfl
 have k0:=built27f a n c (-1)
 clear X0
 go_enter Tryz.func32,Tryz.ntmps32
 go_upto_region 1 with fail
 rw [← hw1,← hbd]
 clear hw1 hbd
 go_wp2_with (first | (refine wpList_store_row rfl 27 (.tmp 2) (.tmp 4) rfl (bd + 1) #[.slice a n c,.slice none 0 0,.int .i64 (-1)] rfl rfl 27 #[.slice none 0 0,.slice none 0 0,.int .i64 0] X1.out (info27 _ _ _) rfl (darr_one _ _ _ _ _ _ _) ?_) | fail)
 refine bodyPost_ret ?_ rfl ⟨rfl,below_row HB1.out HLE.out _⟩
 exact end_disk rfl _ (X1.out.row _) rfl
def newM (l : List It) : Dsk × Int:=if validT l = true then (freshM l,0) else (⟨[],[],0⟩,160)
theorem new_is (l : List It) (v : Value) (w : World) (hv : RdI w v l) (hx : ∀ x ∈ l,x.path.length ≤ 140737488355328) (hT : TabS w) : Calls Tryz.prog 14 #[.agg #[v]] w (DskR (newM l) w):=by
 obtain ⟨w1,hw1⟩:=nmq ((w.alloc (.cells #[v] 24)).alloc (.cells #[.slice none 0 0,.slice none 0 0,.int .i64 0] 27))
 obtain ⟨bd,hbd⟩:=nmq (w.heap.size)
 have X0 : Box w1 bd 24 #[v]:=by rw [hw1,hbd]; exact box_new.alloc _
 have X1 : Hid (Box w1 (bd + 1) 27 #[.slice none 0 0,.slice none 0 0,.int .i64 0]):=hyq (by rw [hw1,hbd,show w.heap.size + 1 = (w.alloc (.cells #[v] 24)).heap.size from by simp]; exact box_new)
 have HB1 : Hid (Below w.heap.size w w1):=hyq (by rw [hw1]; exact bch (below_new _ _) (below_new _ _))
 have HLE : Hid (w.heap.size = bd ∧ bd + 1 < w1.heap.size):=hyq ⟨hbd.symm,X1.out.lt⟩
 have HRU:=hyq (run_any l v [] (.slice none 0 0) w1 (hv.on HB1.out) hx (RdF.nil _) (fun o h => by cases h) (hT.on HB1.out))
 obtain ⟨a,c,rfl,_⟩:=hv.open
 have c0 : w1.cell? ⟨bd,0,none⟩ = some (.slice a l.length c):=X0.cell (k:=0) rfl
 obtain ⟨n,hn⟩:=nmq (l.length)
 rw [← hn] at c0 HRU hw1 ⊢
 have k0:=b27
 clear X0 hv hx hT hn
 go_enter Tryz.func14,Tryz.ntmps14
 go_upto_region 1 with fail
 rw [← hw1,← hbd]
 clear hw1 hbd
 go_wp2_with fail
 refine HRU.out.mono ?_
 rintro e w2 ⟨hb2,hc⟩
 have X12:=hyq (X1.out.on hb2)
 have HB2:=hyq (bch HB1.out hb2)
 have HS2:=hyq hb2.size
 clear hb2 c0 HRU
 rcases hc with ⟨h0,rfl⟩ | ⟨h0,v',rfl,ho⟩
 ·obtain ⟨w3,hw3⟩:=nmq ((w2.alloc (.cells #[.slice none 0 0] 24)).setRow w2.heap.size #[.slice none 0 0])
  obtain ⟨b6,hb6⟩:=nmq (w2.heap.size)
  have hb23 : Below w2.heap.size w2 w3:=by rw [hw3]; exact below_row (below_new _ _) (Nat.le_refl _) _
  have X13:=hyq (X12.out.on hb23)
  have HB3:=hyq (bch HB2.out hb23)
  have FIN : Hid (DskR (newM l) w (.returned (.tuple #[.agg #[.slice none 0 0,.slice none 0 0,.int .i64 0],.int .i64 160])) (w3.setRow (bd + 1) #[.slice none 0 0,.slice none 0 0,.int .i64 0])):=hyq (by
   unfold newM
   rw [if_neg (by simp [h0])]
   exact ⟨.slice none 0 0,.slice none 0 0,rfl,World.ownsRow_nil _ _ _ _,World.ownsRow_nil _ _ _ _,below_row HB3.out (by have:=HLE.out; omega) _⟩)
  have HW3:=hyq hw3
  have HB6:=hyq hb6
  clear h0 hw3 hb6 hb23
  go_wp2_with (first | (refine wpList_store_row rfl 24 (.tmp 4) (.tmp 10) rfl w2.heap.size #[.slice none 0 0] rfl rfl 24 #[.slice none 0 0] box_new (info24 _) rfl (slice_one _ _ _) ?_; rw [← HW3.out,← HB6.out]) | (refine wpList_store_row rfl 27 (.tmp 2) (.tmp 15) rfl (bd + 1) #[.slice none 0 0,.slice none 0 0,.int .i64 0] rfl rfl 27 #[.slice none 0 0,.slice none 0 0,.int .i64 0] X13.out (info27 _ _ _) rfl (darr_one _ _ _ _ _ _ _) ?_) | fail)
  refine bodyPost_ret ?_ rfl FIN.out
  exact end_disk2 rfl _ (X13.out.row _) rfl rfl
 ·have ho : OwnI w2 w1.heap.size v' l:=ho
  obtain ⟨va,vn,vc,rfl⟩:=own_any ho
  obtain ⟨w3,hw3⟩:=nmq ((w2.alloc (.cells #[.slice none 0 0] 24)).setRow w2.heap.size #[.slice va vn vc])
  obtain ⟨b6,hb6⟩:=nmq (w2.heap.size)
  have hb23 : Below w2.heap.size w2 w3:=by rw [hw3]; exact below_row (below_new _ _) (Nat.le_refl _) _
  have X13:=hyq (X12.out.on hb23)
  have HB3:=hyq (bch HB2.out hb23)
  have X6 : Hid (Box w3 b6 24 #[.slice va vn vc]):=hyq (by rw [hw3,hb6]; exact box_new.row _)
  have e0 : w3.cell? ⟨b6,0,none⟩ = some (.slice va vn vc):=X6.out.cell (k:=0) rfl
  have HO3:=hyq (ho.on hb23)
  have HFR:=hyq (fresh_is va vn vc w3)
  have FIN : Hid (∀ W,Below w3.heap.size w3 W → DskR (newM l) w (.returned (.tuple #[.agg #[.slice va vn vc,.slice none 0 0,.int .i64 (-1)],.int .i64 0])) (W.setRow (bd + 1) #[.slice va vn vc,.slice none 0 0,.int .i64 (-1)])):=hyq (by
   intro W hb
   unfold newM
   rw [if_pos h0]
   refine ⟨.slice va vn vc,.slice none 0 0,rfl,own_base (own_row' (HO3.out.on hb) (X13.out.on hb) (by decide)) HB1.out.size,World.ownsRow_nil _ _ _ _,below_row (bch HB3.out hb) (by have:=HLE.out; omega) _⟩)
  have HW3:=hyq hw3
  have HB6:=hyq hb6
  clear h0 hw3 hb6 hb23 ho
  go_wp2_with (first | (refine wpList_store_row rfl 24 (.tmp 4) (.tmp 10) rfl w2.heap.size #[.slice va vn vc] rfl rfl 24 #[.slice none 0 0] box_new (info24 _) rfl (slice_one _ _ _) ?_; rw [← HW3.out,← HB6.out]) | fail)
  refine HFR.out.mono ?_
  rintro e w4 ⟨rfl,hb4⟩
  have X14:=hyq (X13.out.on hb4)
  have FF:=hyq (FIN.out w4 hb4)
  clear hb4 e0 FIN
  go_wp2_with (first | (refine wpList_store_row rfl 27 (.tmp 2) (.tmp 18) rfl (bd + 1) #[.slice va vn vc,.slice none 0 0,.int .i64 (-1)] rfl rfl 27 #[.slice none 0 0,.slice none 0 0,.int .i64 0] X14.out (info27 _ _ _) rfl (darr_one _ _ _ _ _ _ _) ?_) | fail)
  refine bodyPost_ret ?_ rfl FF.out
  exact end_disk2 rfl _ (X14.out.row _) rfl rfl
def syncM (d : Dsk) : Dsk × Int:=match nowM d with
 | none => (⟨[],[],0⟩,180)
 | some t => (⟨t,[],d.room⟩,0)
theorem sync51 (a : Option Addr) (n c : Nat) (b1 : Nat) (iv wv : Value) (room : Int) (w : World) (X : Box w b1 27 #[iv,wv,.int .i64 room]) : Calls Tryz.prog 51 #[.agg #[.slice a n c],.pointer (some ⟨b1,0,none⟩)] w fun e w' => e = .returned (.tuple #[.agg #[.slice a n c,.slice none 0 0,.int .i64 room],.int .i64 0]) ∧ Below w.heap.size w w':=by
 obtain ⟨w1,hw1⟩:=nmq ((w.alloc (.cells #[.slice a n c] 24)).alloc (.cells #[.slice none 0 0,.slice none 0 0,.int .i64 0] 27))
 obtain ⟨bd,hbd⟩:=nmq (w.heap.size)
 have X0 : Box w1 bd 24 #[.slice a n c]:=by rw [hw1,hbd]; exact box_new.alloc _
 have X1 : Hid (Box w1 (bd + 1) 27 #[.slice none 0 0,.slice none 0 0,.int .i64 0]):=hyq (by rw [hw1,hbd,show w.heap.size + 1 = (w.alloc (.cells #[.slice a n c] 24)).heap.size from by simp]; exact box_new)
 have HB1 : Hid (Below w.heap.size w w1):=hyq (by rw [hw1]; exact bch (below_new _ _) (below_new _ _))
 have HLE : Hid (w.heap.size ≤ bd + 1):=hyq (by rw [hbd]; exact Nat.le_succ _)
 have c0 : w1.cell? ⟨bd,0,none⟩ = some (.slice a n c):=X0.cell (k:=0) rfl
 have c1 : w1.cell? ⟨b1,2,none⟩ = some (.int .i64 room):=(X.on HB1.out).cell (k:=2) rfl
 have k0:=built27f a n c room
 clear X0 X
 go_enter Tryz.func51,Tryz.ntmps51
 go_upto_region 1 with fail
 rw [← hw1,← hbd]
 clear hw1 hbd
 go_wp2_with (first | (refine wpList_store_row rfl 27 (.tmp 3) (.tmp 8) rfl (bd + 1) #[.slice a n c,.slice none 0 0,.int .i64 room] rfl rfl 27 #[.slice none 0 0,.slice none 0 0,.int .i64 0] X1.out (info27 _ _ _) rfl (darr_one _ _ _ _ _ _ _) ?_) | fail)
 refine bodyPost_ret ?_ rfl ⟨rfl,below_row HB1.out HLE.out _⟩
 exact end_disk2 rfl _ (X1.out.row _) rfl rfl
theorem sync_is (d : Dsk) (iv wv : Value) (w : World) (h : RdD w iv wv d) (hz : SzD d) (hT : TabS w) : Calls Tryz.prog 30 #[.agg #[iv,wv,.int .i64 d.room]] w (DskR (syncM d) w):=by
 obtain ⟨x,hx⟩:=nmq (syncM d)
 obtain ⟨w1,hw1⟩:=nmq ((w.alloc (.cells #[iv,wv,.int .i64 d.room] 27)).alloc (.cells #[.slice none 0 0,.slice none 0 0,.int .i64 0] 27))
 obtain ⟨bd,hbd⟩:=nmq (w.heap.size)
 have HB1 : Hid (Below w.heap.size w w1):=hyq (by rw [hw1]; exact bch (below_new _ _) (below_new _ _))
 have U1 : Hid (Box w1 bd 27 #[iv,wv,.int .i64 d.room]):=hyq (by rw [hw1,hbd]; exact box_new.alloc _)
 have U2 : Hid (Box w1 (bd + 1) 27 #[.slice none 0 0,.slice none 0 0,.int .i64 0]):=hyq (by rw [hw1,hbd,show w.heap.size + 1 = (w.alloc (.cells #[iv,wv,.int .i64 d.room] 27)).heap.size from by simp]; exact box_new)
 have HCH : Hid (Calls Tryz.prog 39 #[.agg #[iv,wv,.int .i64 d.room],.func (.func 51) #[] #[.pointer (some ⟨bd,0,none⟩)]] w1 (ChR x (fun V => Below w1.heap.size w1 V) w1)):=hyq (by
  refine change51 d iv wv _ w1 (h.on HB1.out) hz (hT.on HB1.out) x _ ?_ ?_ ?_
  ·exact fun W cs hb => below_row hb (by omega) _
  ·intro h0
   exact ⟨by rw [hx]; unfold syncM; rw [h0],fun W hb => hb⟩
  ·intro t v' W h0 hb hO hs hB
   obtain ⟨a,n,c,rfl⟩:=own_any hO
   have hx1 : x = (⟨t,[],d.room⟩,0):=by rw [hx]; unfold syncM; rw [h0]
   rw [hx1]
   refine (sync51 a n c bd iv wv d.room W (U1.out.on hb)).mono ?_
   rintro e W' ⟨he,hb'⟩
   exact ⟨_,_,he,hO.on hb',World.ownsRow_nil _ _ _ _,bch hb hb',hB.on hb'⟩)
 rw [← hx]
 obtain ⟨ia,ic,rfl,_⟩:=h.items.open
 obtain ⟨wa,wc,rfl,_⟩:=h.wait.open
 have c0 : w1.cell? ⟨bd,0,none⟩ = some (.slice ia d.safe.length ic):=U1.out.cell (k:=0) rfl
 have c1 : w1.cell? ⟨bd,1,none⟩ = some (.slice wa d.wait.length wc):=U1.out.cell (k:=1) rfl
 have c2 : w1.cell? ⟨bd,2,none⟩ = some (.int .i64 d.room):=U1.out.cell (k:=2) rfl
 obtain ⟨room,hroom⟩:=nmq (d.room)
 obtain ⟨i,hi⟩:=nmq (d.safe.length)
 obtain ⟨n,hnn⟩:=nmq (d.wait.length)
 rw [← hroom] at c2
 rw [← hi] at c0
 rw [← hnn] at c1
 rw [← hi,← hnn,← hroom] at HCH hw1 ⊢
 have HBD : Hid (w.heap.size = bd ∧ bd + 1 < w1.heap.size):=hyq ⟨hbd.symm,U2.out.lt⟩
 clear h hz hT hx hroom hi hnn U1
 go_enter Tryz.func30,Tryz.ntmps30
 go_upto_region 1 with fail
 rw [← hw1,← hbd]
 clear hw1 hbd
 go_wp2_with fail
 refine HCH.out.mono ?_
 rintro e V ⟨a,b,rfl,h1,h2,h3⟩
 obtain ⟨a1,n1,k1,rfl⟩:=own_any h1
 obtain ⟨a2,k2,rfl⟩:=h2.any
 obtain ⟨n2,hn2⟩:=nmq (x.1.wait.length)
 rw [← hn2] at h2 ⊢
 have U2V:=hyq (U2.out.on h3)
 have FIN : Hid (DskR x w (.returned (.tuple #[.agg #[.slice a1 n1 k1,.slice a2 n2 k2,.int .i64 x.1.room],.int .i64 x.2])) (V.setRow (bd + 1) #[.slice a1 n1 k1,.slice a2 n2 k2,.int .i64 x.1.room])):=hyq (by
  have hbd:=HBD.out
  exact ⟨_,_,rfl,own_base (own_row' h1 U2V.out (by decide)) (by omega),OwnO.base (own_row' h2 U2V.out (by decide)) (by omega),below_row (bch HB1.out h3) (by omega) _⟩)
 obtain ⟨rr,hrr⟩:=nmq (x.1.room)
 obtain ⟨ee,hee⟩:=nmq (x.2)
 rw [← hrr,← hee] at FIN ⊢
 clear h1 h2 h3 hn2 hrr hee c0 c1 c2 HCH
 go_wp2_with (first | (refine wpList_store_row rfl 27 (.tmp 2) (.tmp 7) rfl (bd + 1) #[.slice a1 n1 k1,.slice a2 n2 k2,.int .i64 rr] rfl rfl 27 #[.slice none 0 0,.slice none 0 0,.int .i64 0] U2V.out (info27 _ _ _) rfl (darr_one _ _ _ _ _ _ _) ?_) | fail)
 refine bodyPost_ret ?_ rfl FIN.out
 exact end_disk2 rfl _ (U2V.out.row _) rfl rfl
end Go.Proofs.YtigopecainocgaaGreatDoor
namespace Go.Proofs.YtigopecainocgaaGreatDoor
open Go.RowKit Go.Shelf
theorem run_chk {l : List It} {ops : List Opn} (h : (runM l ops).2.2 = 0) : ∀ o ∈ ops,ChkOk o:=by
 induction ops generalizing l with
 | nil => intro o ho; cases ho
 | cons o r ih =>
  cases e : actM l o with
  | error k => rw [run_no e] at h; exact absurd h (act_err e)
  | ok l' =>
   rw [run_yes e] at h
   intro q hq
   rcases List.mem_cons.1 hq with rfl | hq
   ·by_cases hc : checkM q = 0
    ·exact chk_ok hc
    ·unfold actM at e
     rw [if_pos hc] at e
     cases e
   ·exact ih h q hq
theorem most_le (k : Int) : mostM k ≤ 524288:=by unfold mostM; split <;> (try split) <;> omega
theorem kept_mem {l : List Opn} {keep cut : Nat} {o : Opn} (h : o ∈ keptM l keep cut) : o ∈ l ∨ ∃ q ∈ l,o = lessO q cut:=by
 unfold keptM at h
 split at h
 ·exact .inl (List.mem_of_mem_take h)
 ·rename_i q hq
  split at h
  ·exact .inl (List.mem_of_mem_take h)
  ·rcases List.mem_append.1 h with h | h
   ·exact .inl (List.mem_of_mem_take h)
   ·exact .inr ⟨q,List.mem_of_getElem? hq,by simpa using h⟩
def leftM (d : Dsk) (keep cut : Nat) : List It:=(runM d.safe (keptM d.wait keep cut)).1
def crashM (d : Dsk) (keep cut : Nat) : Dsk × Int:=match nowM d with
 | none => (⟨[],[],0⟩,180)
 | some _ => (freshM (leftM d keep cut),0)
theorem crash43 (d : Dsk) (iv wv : Value) (t : List It) (ta : Option Addr) (tn tc : Nat) (keep cut b1 b2 b3 : Nat) (w : World) (h : RdD w iv wv d) (hz : SzD d) (hn : nowM d = some t) (hk : keep ≤ d.wait.length) (hc : cut ≤ 1000000000) (hT : TabS w)
  (X1 : Box w b1 3 #[.int .i64 keep]) (X2 : Box w b2 27 #[iv,wv,.int .i64 d.room]) (X3 : Box w b3 3 #[.int .i64 cut]) :
  Calls Tryz.prog 43 #[.agg #[.slice ta tn tc],.pointer (some ⟨b1,0,none⟩),.pointer (some ⟨b2,0,none⟩),.pointer (some ⟨b3,0,none⟩)] w fun e w' => ∃ v',e = .returned (.tuple #[.agg #[v',.slice none 0 0,.int .i64 (-1)],.int .i64 0]) ∧ OwnI w' w.heap.size v' (leftM d keep cut) ∧ Below w.heap.size w w':=by
 obtain ⟨hn1,hn2,hn3,hn4,hn5⟩:=now_some hn
 have hch:=run_chk hn4
 obtain ⟨ia,ic,rfl,_⟩:=h.items.open
 obtain ⟨wa,wc,rfl,_⟩:=h.wait.open
 obtain ⟨w1,hw1⟩:=nmq ((w.alloc (.cells #[.slice ta tn tc] 24)).alloc (.cells #[.slice none 0 0,.slice none 0 0,.int .i64 0] 27))
 obtain ⟨bd,hbd⟩:=nmq (w.heap.size)
 have HB1 : Hid (Below w.heap.size w w1):=hyq (by rw [hw1]; exact bch (below_new _ _) (below_new _ _))
 have U51 : Box w1 (bd + 1) 27 #[.slice none 0 0,.slice none 0 0,.int .i64 0]:=by rw [hw1,hbd,show w.heap.size + 1 = (w.alloc (.cells #[.slice ta tn tc] 24)).heap.size from by simp]; exact box_new
 obtain ⟨v0,hv0⟩:=nmq (World.drew w1)
 obtain ⟨vs,hvs⟩:=nmq (World.drew w1)
 have hbs : Below w1.heap.size w1 vs:=by rw [hvs]; exact (Below.refl _ _).drew
 have U5 : Hid (Box vs (bd + 1) 27 #[.slice none 0 0,.slice none 0 0,.int .i64 0]):=hyq (U51.on hbs)
 have Y1 : Hid (Box vs b1 3 #[.int .i64 keep]):=hyq ((X1.on HB1.out).on hbs)
 have Y2 : Hid (Box vs b2 27 #[.slice ia d.safe.length ic,.slice wa d.wait.length wc,.int .i64 d.room]):=hyq ((X2.on HB1.out).on hbs)
 have Y3 : Hid (Box vs b3 3 #[.int .i64 cut]):=hyq ((X3.on HB1.out).on hbs)
 have HBV : Hid (Below w.heap.size w vs):=hyq (bch HB1.out hbs)
 have HKE : Hid (∀ W,Below vs.heap.size vs W → Calls Tryz.prog 44 #[.slice wa d.wait.length wc,.int .i64 keep,.int .i64 cut] W (KeptR (keptM d.wait keep cut) W)):=hyq (fun W hW => kept_is d.wait _ keep cut W ((h.wait.on HBV.out).on hW) hk hn1 hc (fun o ho => by have:=(hch o ho).data; have:=most_le o.kind; omega))
 have HRU : Hid (∀ W kv,Below vs.heap.size vs W → RdO W kv (keptM d.wait keep cut) → Calls Tryz.prog 25 #[.agg #[.slice ia d.safe.length ic],kv] W fun e w' => Below W.heap.size W w' ∧ ∃ va vn vc many er,e = .returned (.tuple #[.agg #[.slice va vn vc],.int .i64 many,.int .i64 er]) ∧ OwnI w' vs.heap.size (.slice va vn vc) (leftM d keep cut)):=hyq (fun W kv hW hkv => by
  refine (run_any d.safe _ (keptM d.wait keep cut) kv W ((h.items.on HBV.out).on hW) hz.safe hkv (fun o ho => ?_) ((hT.on HBV.out).on hW)).mono fun e w' ⟨hb,hc⟩ => ⟨hb,?_⟩
  ·rcases kept_mem ho with ho | ⟨q,hq,rfl⟩
   ·exact hz.wait o ho
   ·exact hz.wait q hq
  ·rcases hc with ⟨h0,_⟩ | ⟨_,v',he,hown⟩
   ·rw [hn3] at h0; cases h0
   ·obtain ⟨a,n,c,rfl⟩:=own_any hown
    exact ⟨a,n,c,_,_,he,own_base hown hW.size⟩)
 have HFR : Hid (∀ (va : Option Addr) (vn vc : Nat) W,Calls Tryz.prog 32 #[.agg #[.slice va vn vc]] W fun e w' => e = .returned (.agg #[.slice va vn vc,.slice none 0 0,.int .i64 (-1)]) ∧ Below W.heap.size W w'):=hyq (fun va vn vc W => fresh_is va vn vc W)
 have HBD : Hid (w.heap.size = bd ∧ bd + 1 < vs.heap.size):=hyq ⟨hbd.symm,U5.out.lt⟩
 have FIN : Hid (∀ (va : Option Addr) (vn vc : Nat) W W9,Below vs.heap.size vs W → OwnI W vs.heap.size (.slice va vn vc) (leftM d keep cut) → Below W.heap.size W W9 → (fun e w' => ∃ v',e = Ending.returned (.tuple #[.agg #[v',.slice none 0 0,.int .i64 (-1)],.int .i64 0]) ∧ OwnI w' w.heap.size v' (leftM d keep cut) ∧ Below w.heap.size w w') (.returned (.tuple #[.agg #[.slice va vn vc,.slice none 0 0,.int .i64 (-1)],.int .i64 0])) (W9.setRow (bd + 1) #[.slice va vn vc,.slice none 0 0,.int .i64 (-1)])):=hyq (fun va vn vc W W9 hb hO hb9 =>
  ⟨_,rfl,own_base (own_row' (hO.on hb9) ((U5.out.on hb).on hb9) (by decide)) HBV.out.size,below_row (bch (bch HBV.out hb) hb9) (by have:=HBD.out; omega) _⟩)
 have c1 : w1.cell? ⟨b1,0,none⟩ = some (.int .i64 keep):=(X1.on HB1.out).cell (k:=0) rfl
 have c2 : w1.cell? ⟨b2,1,none⟩ = some (.slice wa d.wait.length wc):=(X2.on HB1.out).cell (k:=1) rfl
 have c3 : w1.cell? ⟨b3,0,none⟩ = some (.int .i64 cut):=(X3.on HB1.out).cell (k:=0) rfl
 obtain ⟨i,hi⟩:=nmq (d.safe.length)
 obtain ⟨n,hnn⟩:=nmq (d.wait.length)
 rw [← hi,← hnn] at Y2
 rw [← hnn] at HKE c2 hk
 rw [← hi] at HRU
 have t1 : ¬ (keep : Int) < 0:=by omega
 have t2 : ¬ (n : Int) < (keep : Int):=by omega
 have t3 : ¬ (cut : Int) < 0:=by omega
 clear h hz hn hc hT X1 X2 X3 hn1 hn2 hn3 hn4 hn5 hch hi hnn U51 hbs hk
 go_enter Tryz.func43,Tryz.ntmps43
 go_upto_region 1 with fail
 rw [← hw1,← hbd]
 clear hw1 hbd
 go_upto_region 3 with fail
 clear c1 c2 c3
 refine wp_region_held_drew (S:=fun w' => Below vs.heap.size vs w') (by kernel_rfl) (by rw [hvs]; exact Below.refl _ _) (fun hH => ?_)
 rw [← hv0] at hH ⊢
 clear hv0 hvs
 refine tk 0 hH ?_; try go_frame
 refine tkf 1 rfl (fun w hSw => by have p0 : w.cell? ⟨b2,0,none⟩ = some (.slice ia i ic):=(Y2.out.on hSw).cell (k:=0) rfl; go_simp; try with_reducible rfl) hH ?_; try go_frame
 refine tk 2 hH ?_; try go_frame
 refine tkf 3 rfl (fun w hSw => by have p0 : w.cell? ⟨b2,1,none⟩ = some (.slice wa n wc):=(Y2.out.on hSw).cell (k:=1) rfl; go_simp; try with_reducible rfl) hH ?_; try go_frame
 refine tkf 4 rfl (fun w hSw => by have p0 : w.cell? ⟨b1,0,none⟩ = some (.int .i64 keep):=(Y1.out.on hSw).cell (k:=0) rfl; go_simp; try with_reducible rfl) hH ?_; try go_frame
 refine tkf 5 rfl (fun w hSw => by have p0 : w.cell? ⟨b3,0,none⟩ = some (.int .i64 cut):=(Y3.out.on hSw).cell (k:=0) rfl; go_simp; try with_reducible rfl) hH ?_; try go_frame
 refine rd2 6 12 (fun K hK => ?_) (fun K hK => ?_)
 ·go_simp
  refine (HKE.out _ hH).mono ?_
  rintro e v106 ⟨kv,rfl,hkv,hba⟩
  have HKV:=hyq hkv
  refine hK.out _ _ (bch hH hba) (fun hH => ?_)
  have HK44:=hyq hH
  obtain ⟨ka,kc,hkq,_⟩:=hkv.open
  obtain ⟨kn,hkn⟩:=nmq ((keptM d.wait keep cut).length)
  rw [← hkn] at hkq
  subst hkq
  clear hba hkv hkn
  try go_frame
  refine rd2 7 12 (fun K hK => ?_) (fun K hK => ?_)
  ·go_simp
   refine (HRU.out _ _ hH (RdF.on HKV.out (Below.refl _ _))).mono ?_
   rintro e v107 ⟨hba,va,vn,vc,many,er,rfl,ho⟩
   have HO:=hyq ho
   refine hK.out _ _ (bch hH hba) (fun hH => ?_)
   clear hba ho
   try go_frame
   refine tk 8 hH ?_; try go_frame
   refine tk 9 hH ?_; try go_frame
   refine tk 10 hH ?_; try go_frame
   refine tk 11 hH ?_; try go_frame
   refine rd1 12 (fun K hK => ?_)
   ·go_simp
    have hba : Below v107.heap.size v107 (v107.alloc (.cells #[.slice none 0 0] 24)):=below_new _ _
    have Z7 : Hid (Box (v107.alloc (.cells #[.slice none 0 0] 24)) v107.heap.size 24 #[.slice none 0 0]):=hyq box_new
    have HG7 : Hid (vs.heap.size ≤ v107.heap.size):=hyq hH.size
    have HO:=hyq (HO.out.on hba)
    obtain ⟨v112,hv9⟩:=nmq ((v107.alloc (.cells #[.slice none 0 0] 24)))
    refine hK.out _ _ (bch hH hba) (fun hH => ?_)
    have hba2:=hyq hba
    rw [← hv9] at hba2
    clear hba
    rw [← hv9] at Z7 hH HO ⊢
    clear hv9
    obtain ⟨b7,hg9⟩:=nmq (v107.heap.size)
    rw [← hg9] at Z7 HG7 ⊢
    clear hg9
    try go_frame
    refine rd1 13 (fun K hK => ?_)
    ·refine wp_store_if (by rfl) 24 (.tmp 7) (.tmp 33) rfl b7 24 #[.slice none 0 0] #[.slice va vn vc] rfl rfl Z7.out (info24 _) rfl (slice_one _ _ _) ?_
     have Z8 : Hid (Box (v112.setRow b7 #[.slice va vn vc]) b7 24 #[.slice va vn vc]):=hyq (Z7.out.row _)
     have HO8 : Hid (OwnI (v112.setRow b7 #[.slice va vn vc]) vs.heap.size (.slice va vn vc) _):=hyq (own_row' HO.out Z7.out (by decide))
     refine hK.out _ _ (below_row hH HG7.out _) (fun hH => ?_)
     clear Z7 HO
     obtain ⟨v113,hv9⟩:=nmq ((v112.setRow b7 #[.slice va vn vc]))
     rw [← hv9] at Z8 HO8 hH ⊢
     clear hv9
     (try simp only [Act.put])
     refine tk 14 hH ?_; try go_frame
     refine tk 15 hH ?_; try go_frame
     refine wpAnyH_done (by kernel_rfl) ?_ _
     have HH:=hyq hH
     clear hH
     have p7:=Z8.out.cell (k:=0) rfl
     go_wp2_with fail
     refine (HFR.out va vn vc _).mono ?_
     rintro e w9 ⟨rfl,hb9⟩
     have U59:=hyq ((U5.out.on HH.out).on hb9)
     have F9:=hyq (FIN.out va vn vc _ _ HH.out HO8.out hb9)
     clear hb9 p7
     go_wp2_with (first | (refine wpList_store_row rfl 27 (.tmp 5) (.tmp 37) rfl (bd + 1) #[.slice va vn vc,.slice none 0 0,.int .i64 (-1)] rfl rfl 27 #[.slice none 0 0,.slice none 0 0,.int .i64 0] U59.out (info27 _ _ _) rfl (darr_one _ _ _ _ _ _ _) ?_) | fail)
     refine bodyPost_ret ?_ rfl F9.out
     exact end_disk2 rfl _ (U59.out.row _) rfl rfl
  ·go_simp
   have hba : Below v106.heap.size v106 (v106.alloc (.cells #[.slice none 0 0] 24)):=below_new _ _
   have Z7 : Hid (Box (v106.alloc (.cells #[.slice none 0 0] 24)) v106.heap.size 24 #[.slice none 0 0]):=hyq box_new
   have HG7 : Hid (vs.heap.size ≤ v106.heap.size):=hyq hH.size
   obtain ⟨v112,hv9⟩:=nmq ((v106.alloc (.cells #[.slice none 0 0] 24)))
   refine hK.out _ _ (bch hH hba) (fun hH => ?_)
   have hba2:=hyq hba
   rw [← hv9] at hba2
   clear hba
   rw [← hv9] at Z7 hH ⊢
   clear hv9
   obtain ⟨b7,hg9⟩:=nmq (v106.heap.size)
   rw [← hg9] at Z7 HG7 ⊢
   clear hg9
   try go_frame
   refine rd1 7 (fun K hK => ?_)
   ·go_simp
    refine (HRU.out _ _ hH (RdF.on HKV.out (hba2.out))).mono ?_
    rintro e v107 ⟨hba,va,vn,vc,many,er,rfl,ho⟩
    have HO:=hyq ho
    have Z7:=hyq (Z7.out.on hba)
    refine hK.out _ _ (bch hH hba) (fun hH => ?_)
    clear hba ho
    try go_frame
    refine tk 8 hH ?_; try go_frame
    refine tk 9 hH ?_; try go_frame
    refine tk 10 hH ?_; try go_frame
    refine tk 11 hH ?_; try go_frame
    refine rd1 13 (fun K hK => ?_)
    ·refine wp_store_if (by rfl) 24 (.tmp 7) (.tmp 33) rfl b7 24 #[.slice none 0 0] #[.slice va vn vc] rfl rfl Z7.out (info24 _) rfl (slice_one _ _ _) ?_
     have Z8 : Hid (Box (v107.setRow b7 #[.slice va vn vc]) b7 24 #[.slice va vn vc]):=hyq (Z7.out.row _)
     have HO8 : Hid (OwnI (v107.setRow b7 #[.slice va vn vc]) vs.heap.size (.slice va vn vc) _):=hyq (own_row' HO.out Z7.out (by decide))
     refine hK.out _ _ (below_row hH HG7.out _) (fun hH => ?_)
     clear Z7 HO
     obtain ⟨v113,hv9⟩:=nmq ((v107.setRow b7 #[.slice va vn vc]))
     rw [← hv9] at Z8 HO8 hH ⊢
     clear hv9
     (try simp only [Act.put])
     refine tk 14 hH ?_; try go_frame
     refine tk 15 hH ?_; try go_frame
     refine wpAnyH_done (by kernel_rfl) ?_ _
     have HH:=hyq hH
     clear hH
     have p7:=Z8.out.cell (k:=0) rfl
     go_wp2_with fail
     refine (HFR.out va vn vc _).mono ?_
     rintro e w9 ⟨rfl,hb9⟩
     have U59:=hyq ((U5.out.on HH.out).on hb9)
     have F9:=hyq (FIN.out va vn vc _ _ HH.out HO8.out hb9)
     clear hb9 p7
     go_wp2_with (first | (refine wpList_store_row rfl 27 (.tmp 5) (.tmp 37) rfl (bd + 1) #[.slice va vn vc,.slice none 0 0,.int .i64 (-1)] rfl rfl 27 #[.slice none 0 0,.slice none 0 0,.int .i64 0] U59.out (info27 _ _ _) rfl (darr_one _ _ _ _ _ _ _) ?_) | fail)
     refine bodyPost_ret ?_ rfl F9.out
     exact end_disk2 rfl _ (U59.out.row _) rfl rfl
 ·go_simp
  have hba : Below v0.heap.size v0 (v0.alloc (.cells #[.slice none 0 0] 24)):=below_new _ _
  have Z7 : Hid (Box (v0.alloc (.cells #[.slice none 0 0] 24)) v0.heap.size 24 #[.slice none 0 0]):=hyq box_new
  have HG7 : Hid (vs.heap.size ≤ v0.heap.size):=hyq hH.size
  obtain ⟨v112,hv9⟩:=nmq ((v0.alloc (.cells #[.slice none 0 0] 24)))
  refine hK.out _ _ (bch hH hba) (fun hH => ?_)
  clear hba
  rw [← hv9] at Z7 hH ⊢
  clear hv9
  obtain ⟨b7,hg9⟩:=nmq (v0.heap.size)
  rw [← hg9] at Z7 HG7 ⊢
  clear hg9
  try go_frame
  refine rd1 6 (fun K hK => ?_)
  ·go_simp
   refine (HKE.out _ hH).mono ?_
   rintro e v106 ⟨kv,rfl,hkv,hba⟩
   have HKV:=hyq hkv
   have Z7:=hyq (Z7.out.on hba)
   refine hK.out _ _ (bch hH hba) (fun hH => ?_)
   have HK44:=hyq hH
   obtain ⟨ka,kc,hkq,_⟩:=hkv.open
   obtain ⟨kn,hkn⟩:=nmq ((keptM d.wait keep cut).length)
   rw [← hkn] at hkq
   subst hkq
   clear hba hkv hkn
   try go_frame
   refine rd1 7 (fun K hK => ?_)
   ·go_simp
    refine (HRU.out _ _ hH (RdF.on HKV.out (Below.refl _ _))).mono ?_
    rintro e v107 ⟨hba,va,vn,vc,many,er,rfl,ho⟩
    have HO:=hyq ho
    have Z7:=hyq (Z7.out.on hba)
    refine hK.out _ _ (bch hH hba) (fun hH => ?_)
    clear hba ho
    try go_frame
    refine tk 8 hH ?_; try go_frame
    refine tk 9 hH ?_; try go_frame
    refine tk 10 hH ?_; try go_frame
    refine tk 11 hH ?_; try go_frame
    refine rd1 13 (fun K hK => ?_)
    ·refine wp_store_if (by rfl) 24 (.tmp 7) (.tmp 33) rfl b7 24 #[.slice none 0 0] #[.slice va vn vc] rfl rfl Z7.out (info24 _) rfl (slice_one _ _ _) ?_
     have Z8 : Hid (Box (v107.setRow b7 #[.slice va vn vc]) b7 24 #[.slice va vn vc]):=hyq (Z7.out.row _)
     have HO8 : Hid (OwnI (v107.setRow b7 #[.slice va vn vc]) vs.heap.size (.slice va vn vc) _):=hyq (own_row' HO.out Z7.out (by decide))
     refine hK.out _ _ (below_row hH HG7.out _) (fun hH => ?_)
     clear Z7 HO
     obtain ⟨v113,hv9⟩:=nmq ((v107.setRow b7 #[.slice va vn vc]))
     rw [← hv9] at Z8 HO8 hH ⊢
     clear hv9
     (try simp only [Act.put])
     refine tk 14 hH ?_; try go_frame
     refine tk 15 hH ?_; try go_frame
     refine wpAnyH_done (by kernel_rfl) ?_ _
     have HH:=hyq hH
     clear hH
     have p7:=Z8.out.cell (k:=0) rfl
     go_wp2_with fail
     refine (HFR.out va vn vc _).mono ?_
     rintro e w9 ⟨rfl,hb9⟩
     have U59:=hyq ((U5.out.on HH.out).on hb9)
     have F9:=hyq (FIN.out va vn vc _ _ HH.out HO8.out hb9)
     clear hb9 p7
     go_wp2_with (first | (refine wpList_store_row rfl 27 (.tmp 5) (.tmp 37) rfl (bd + 1) #[.slice va vn vc,.slice none 0 0,.int .i64 (-1)] rfl rfl 27 #[.slice none 0 0,.slice none 0 0,.int .i64 0] U59.out (info27 _ _ _) rfl (darr_one _ _ _ _ _ _ _) ?_) | fail)
     refine bodyPost_ret ?_ rfl F9.out
     exact end_disk2 rfl _ (U59.out.row _) rfl rfl
theorem crash_is (d : Dsk) (iv wv : Value) (keep cut : Nat) (w : World) (h : RdD w iv wv d) (hz : SzD d) (hk : keep ≤ d.wait.length) (hc : cut ≤ 1000000000) (hT : TabS w) : Calls Tryz.prog 24 #[.agg #[iv,wv,.int .i64 d.room],.int .i64 keep,.int .i64 cut] w (DskR (crashM d keep cut) w):=by
 obtain ⟨x,hx⟩:=nmq (crashM d keep cut)
 obtain ⟨w1,hw1⟩:=nmq ((((w.alloc (.cells #[iv,wv,.int .i64 d.room] 27)).alloc (.cells #[.int .i64 keep] 3)).alloc (.cells #[.int .i64 cut] 3)).alloc (.cells #[.slice none 0 0,.slice none 0 0,.int .i64 0] 27))
 obtain ⟨bd,hbd⟩:=nmq (w.heap.size)
 have HB1 : Hid (Below w.heap.size w w1):=hyq (by rw [hw1]; exact bch (bch (bch (below_new _ _) (below_new _ _)) (below_new _ _)) (below_new _ _))
 have U1 : Hid (Box w1 bd 27 #[iv,wv,.int .i64 d.room]):=hyq (by rw [hw1,hbd]; exact ((box_new.alloc _).alloc _).alloc _)
 have U3 : Hid (Box w1 (bd + 1) 3 #[.int .i64 keep]):=hyq (by rw [hw1,hbd,show w.heap.size + 1 = (w.alloc (.cells #[iv,wv,.int .i64 d.room] 27)).heap.size from by simp]; exact (box_new.alloc _).alloc _)
 have U4 : Hid (Box w1 (bd + 1 + 1) 3 #[.int .i64 cut]):=hyq (by rw [hw1,hbd,show w.heap.size + 1 + 1 = ((w.alloc (.cells #[iv,wv,.int .i64 d.room] 27)).alloc (.cells #[.int .i64 keep] 3)).heap.size from by simp]; exact box_new.alloc _)
 have U2 : Hid (Box w1 (bd + 1 + 1 + 1) 27 #[.slice none 0 0,.slice none 0 0,.int .i64 0]):=hyq (by rw [hw1,hbd,show w.heap.size + 1 + 1 + 1 = (((w.alloc (.cells #[iv,wv,.int .i64 d.room] 27)).alloc (.cells #[.int .i64 keep] 3)).alloc (.cells #[.int .i64 cut] 3)).heap.size from by simp]; exact box_new)
 have HCH : Hid (Calls Tryz.prog 39 #[.agg #[iv,wv,.int .i64 d.room],.func (.func 43) #[] #[.pointer (some ⟨bd + 1,0,none⟩),.pointer (some ⟨bd,0,none⟩),.pointer (some ⟨bd + 1 + 1,0,none⟩)]] w1 (ChR x (fun V => Below w1.heap.size w1 V) w1)):=hyq (by
  refine change43 d iv wv _ _ _ w1 (h.on HB1.out) hz (hT.on HB1.out) x _ ?_ ?_ ?_
  ·exact fun W cs hb => below_row hb (by omega) _
  ·intro h0
   exact ⟨by rw [hx]; unfold crashM; rw [h0],fun W hb => hb⟩
  ·intro t v' W h0 hb hO hs hB
   obtain ⟨a,n,c,rfl⟩:=own_any hO
   have hx1 : x = (freshM (leftM d keep cut),0):=by rw [hx]; unfold crashM; rw [h0]
   rw [hx1]
   refine (crash43 d iv wv t a n c keep cut (bd + 1) bd (bd + 1 + 1) W ((h.on HB1.out).on hb) hz h0 hk hc ((hT.on HB1.out).on hb) (U3.out.on hb) (U1.out.on hb) (U4.out.on hb)).mono ?_
   rintro e W' ⟨v2,he,hO2,hb'⟩
   exact ⟨_,_,he,own_base hO2 hs,World.ownsRow_nil _ _ _ _,bch hb hb',hB.on hb'⟩)
 rw [← hx]
 obtain ⟨ia,ic,rfl,_⟩:=h.items.open
 obtain ⟨wa,wc,rfl,_⟩:=h.wait.open
 have c0 : w1.cell? ⟨bd,0,none⟩ = some (.slice ia d.safe.length ic):=U1.out.cell (k:=0) rfl
 have c1 : w1.cell? ⟨bd,1,none⟩ = some (.slice wa d.wait.length wc):=U1.out.cell (k:=1) rfl
 have c2 : w1.cell? ⟨bd,2,none⟩ = some (.int .i64 d.room):=U1.out.cell (k:=2) rfl
 obtain ⟨room,hroom⟩:=nmq (d.room)
 obtain ⟨i,hi⟩:=nmq (d.safe.length)
 obtain ⟨n,hnn⟩:=nmq (d.wait.length)
 rw [← hroom] at c2
 rw [← hi] at c0
 rw [← hnn] at c1
 rw [← hi,← hnn,← hroom] at HCH hw1 ⊢
 have HBD : Hid (w.heap.size = bd ∧ bd + 1 + 1 + 1 < w1.heap.size):=hyq ⟨hbd.symm,U2.out.lt⟩
 clear h hz hT hx hroom hi hnn U1 U3 U4 hk hc
 go_enter Tryz.func24,Tryz.ntmps24
 go_upto_region 1 with fail
 rw [← hw1,← hbd]
 clear hw1 hbd
 go_wp2_with fail
 refine HCH.out.mono ?_
 rintro e V ⟨a,b,rfl,h1,h2,h3⟩
 obtain ⟨a1,n1,k1,rfl⟩:=own_any h1
 obtain ⟨a2,k2,rfl⟩:=h2.any
 obtain ⟨n2,hn2⟩:=nmq (x.1.wait.length)
 rw [← hn2] at h2 ⊢
 have U2V:=hyq (U2.out.on h3)
 have FIN : Hid (DskR x w (.returned (.tuple #[.agg #[.slice a1 n1 k1,.slice a2 n2 k2,.int .i64 x.1.room],.int .i64 x.2])) (V.setRow (bd + 1 + 1 + 1) #[.slice a1 n1 k1,.slice a2 n2 k2,.int .i64 x.1.room])):=hyq (by
  have hbd:=HBD.out
  exact ⟨_,_,rfl,own_base (own_row' h1 U2V.out (by decide)) (by omega),OwnO.base (own_row' h2 U2V.out (by decide)) (by omega),below_row (bch HB1.out h3) (by omega) _⟩)
 obtain ⟨rr,hrr⟩:=nmq (x.1.room)
 obtain ⟨ee,hee⟩:=nmq (x.2)
 rw [← hrr,← hee] at FIN ⊢
 clear h1 h2 h3 hn2 hrr hee c0 c1 c2 HCH
 go_wp2_with (first | (refine wpList_store_row rfl 27 (.tmp 6) (.tmp 11) rfl (bd + 1 + 1 + 1) #[.slice a1 n1 k1,.slice a2 n2 k2,.int .i64 rr] rfl rfl 27 #[.slice none 0 0,.slice none 0 0,.int .i64 0] U2V.out (info27 _ _ _) rfl (darr_one _ _ _ _ _ _ _) ?_) | fail)
 refine bodyPost_ret ?_ rfl FIN.out
 exact end_disk2 rfl _ (U2V.out.row _) rfl rfl
end Go.Proofs.YtigopecainocgaaGreatDoor
namespace Go.Proofs.YtigopecainocgaaGreatDoor
open Go.RowKit Go.Shelf
theorem built24o (a : Option Addr) (n c : Nat) : Tryz.prog.built 24 [(0,.slice a n c)] = some #[.slice a n c]:=by kernel_rfl
theorem few8_any (l : List It) (v : Value) (w : World) (hv : RdI w v l) : Calls Tryz.prog 16 #[.agg #[v]] w fun e w' => ∃ x,e = .returned (.agg #[x]) ∧ OwnI w' w.heap.size x (l.take 100) ∧ Below w.heap.size w w':=by
 obtain ⟨a,c,rfl,hlc,hcm,_⟩:=hv.open
 obtain ⟨n,hn⟩:=nmq (l.length)
 have hv1:=hv
 rw [← hn] at hlc hv1 ⊢
 unfold maxLen at hcm
 obtain ⟨m,hm⟩:=nmq (min n 100)
 obtain ⟨w1,hw1⟩:=nmq ((w.alloc (.cells #[.slice a n c] 24)).alloc (.cells #[.slice none 0 0] 24))
 obtain ⟨bd,hbd⟩:=nmq (w.heap.size)
 have X0 : Box w1 bd 24 #[.slice a n c]:=by rw [hw1,hbd]; exact box_new.alloc _
 have X1 : Hid (Box w1 (bd + 1) 24 #[.slice none 0 0]):=hyq (by rw [hw1,hbd,show w.heap.size + 1 = (w.alloc (.cells #[.slice a n c] 24)).heap.size from by simp]; exact box_new)
 have HB1 : Hid (Below w.heap.size w w1):=hyq (by rw [hw1]; exact bch (below_new _ _) (below_new _ _))
 have HTK : RdI w1 (.slice a m c) (l.take 100):=by
  have:=(RdI.take hn hv1 m (by omega)).on HB1.out
  rwa [show l.take m = l.take 100 by rw [List.take_eq_take_iff]; omega] at this
 have HCL:=hyq (clone_any (l.take 100) _ w1 HTK (by rw [List.length_take]; omega))
 have HBD : Hid (w.heap.size = bd ∧ bd + 1 < w1.heap.size):=hyq ⟨hbd.symm,X1.out.lt⟩
 have c0 : w1.cell? ⟨bd,0,none⟩ = some (.slice a n c):=X0.cell (k:=0) rfl
 have k1 : (m : Int) ≤ (c : Int):=by omega
 have k0 : (0 : Int) ≤ (m : Int):=by omega
 have hmm : min (n : Int) 100 = (m : Int):=by omega
 have hcI : (c : Int) ≤ 9223372036854775807:=by omega
 clear hv hv1 HTK hn hm X0
 go_enter Tryz.func16,Tryz.ntmps16
 go_upto_region 1 with fail
 rw [← hw1,← hbd]
 clear hw1 hbd
 go_wp2_with fail
 refine HCL.out.mono ?_
 rintro e w2 ⟨x',rfl,hown,hb2⟩
 have ho : OwnI w2 w1.heap.size x' (l.take 100):=hown
 obtain ⟨a',n',c',rfl⟩:=own_any ho
 have X12:=hyq (X1.out.on hb2)
 have k2:=built24o a' n' c'
 have FIN : Hid ((fun e w' => ∃ x,e = Ending.returned (.agg #[x]) ∧ OwnI w' w.heap.size x (l.take 100) ∧ Below w.heap.size w w') (.returned (.agg #[.slice a' n' c'])) (w2.setRow (bd + 1) #[.slice a' n' c'])):=hyq ⟨_,rfl,own_base (own_row' ho X12.out (by decide)) HB1.out.size,below_row (bch HB1.out hb2) (by have:=HBD.out; omega) _⟩
 clear hown hb2 ho c0 HCL
 go_wp2_with (first | (refine wpList_store_row rfl 24 (.tmp 2) (.tmp 11) rfl (bd + 1) #[.slice a' n' c'] rfl rfl 24 #[.slice none 0 0] X12.out (info24 _) rfl (slice_one _ _ _) ?_) | fail)
 refine bodyPost_ret ?_ rfl FIN.out
 exact results_cell_row rfl _ _ (bd + 1) 24 #[.slice a' n' c'] (0,0) _ rfl (X12.out.row _) Tryz.underlying24 rfl (info24 _)
theorem ops8_any (l : List Opn) (v : Value) (w : World) (hv : RdO w v l) : Calls Tryz.prog 23 #[v] w fun e w' => ∃ x,e = .returned x ∧ OwnO w' w.heap.size x (l.take 16) ∧ Below w.heap.size w w':=by
 obtain ⟨a,c,rfl,hlc,hcm,_⟩:=hv.open
 obtain ⟨n,hn⟩:=nmq (l.length)
 have hv1:=hv
 rw [← hn] at hlc hv1 ⊢
 unfold maxLen at hcm
 obtain ⟨m,hm⟩:=nmq (min n 16)
 have HTK : RdO w (.slice a m c) (l.take 16):=by
  have:=RdO.take hn hv1 m (by omega)
  rwa [show l.take m = l.take 16 by rw [List.take_eq_take_iff]; omega] at this
 have HCL:=hyq (cloneO_any (l.take 16) _ w HTK (by rw [List.length_take]; omega))
 have k1 : (m : Int) ≤ (c : Int):=by omega
 have k0 : (0 : Int) ≤ (m : Int):=by omega
 have hmm : min (n : Int) 16 = (m : Int):=by omega
 have hcI : (c : Int) ≤ 9223372036854775807:=by omega
 clear hv hv1 HTK hn hm
 go_enter Tryz.func23,Tryz.ntmps23
 go_wp2_with fail
 refine HCL.out.mono ?_
 rintro e w2 ⟨x',rfl,hown,hb2⟩
 go_wp2_with fail
 go_ret
 exact ⟨x',rfl,hown,hb2⟩
def OwnDR (d : Dsk) (w : World) (e : Ending) (w' : World) : Prop:=∃ iv wv,e = .returned (.agg #[iv,wv,.int .i64 d.room]) ∧ OwnI w' w.heap.size iv d.safe ∧ OwnO w' w.heap.size wv d.wait ∧ Below w.heap.size w w'
def ownD (d : Dsk) : Dsk:=⟨d.safe.take 100,d.wait.take 16,d.room⟩
theorem own8_any (d : Dsk) (iv wv : Value) (w : World) (h : RdD w iv wv d) : Calls Tryz.prog 8 #[.agg #[iv,wv,.int .i64 d.room]] w (OwnDR (ownD d) w):=by
 unfold ownD
 obtain ⟨ia,ic,rfl,_⟩:=h.items.open
 obtain ⟨wa,wc,rfl,_⟩:=h.wait.open
 obtain ⟨w1,hw1⟩:=nmq ((w.alloc (.cells #[.slice ia d.safe.length ic,.slice wa d.wait.length wc,.int .i64 d.room] 27)).alloc (.cells #[.slice none 0 0,.slice none 0 0,.int .i64 0] 27))
 obtain ⟨bd,hbd⟩:=nmq (w.heap.size)
 have HB1 : Below w.heap.size w w1:=by rw [hw1]; exact bch (below_new _ _) (below_new _ _)
 have U0 : Box w1 bd 27 #[.slice ia d.safe.length ic,.slice wa d.wait.length wc,.int .i64 d.room]:=by rw [hw1,hbd]; exact box_new.alloc _
 have U1 : Box w1 (bd + 1) 27 #[.slice none 0 0,.slice none 0 0,.int .i64 0]:=by rw [hw1,hbd,show w.heap.size + 1 = (w.alloc (.cells #[.slice ia d.safe.length ic,.slice wa d.wait.length wc,.int .i64 d.room] 27)).heap.size from by simp]; exact box_new
 obtain ⟨v0,hv0⟩:=nmq (World.drew w1)
 have hbs : Below w1.heap.size w1 v0:=by rw [hv0]; exact (Below.refl _ _).drew
 have HB0 : Hid (Below w.heap.size w v0):=hyq (bch HB1 hbs)
 have XD : Hid (Box v0 bd 27 #[.slice ia d.safe.length ic,.slice wa d.wait.length wc,.int .i64 d.room]):=hyq (U0.on hbs)
 have XR : Hid (Box v0 (bd + 1) 27 #[.slice none 0 0,.slice none 0 0,.int .i64 0]):=hyq (U1.on hbs)
 have HSZ : Hid (∀ W,Box W (bd + 1) 27 #[.slice none 0 0,.slice none 0 0,.int .i64 0] → w1.heap.size ≤ W.heap.size):=hyq (fun W hW => by have:=hW.lt; rw [hw1]; simp; omega)
 have HFE : Hid (∀ W,Below w.heap.size w W → Box W (bd + 1) 27 #[.slice none 0 0,.slice none 0 0,.int .i64 0] → Calls Tryz.prog 16 #[.agg #[.slice ia d.safe.length ic]] W fun e w' => ∃ x,e = .returned (.agg #[x]) ∧ OwnI w' w1.heap.size x (d.safe.take 100) ∧ Below W.heap.size W w'):=hyq (fun W hW hB => (few8_any d.safe _ W (h.items.on hW)).mono fun e w' ⟨x,he,ho,hb⟩ => ⟨x,he,own_base ho (HSZ.out W hB),hb⟩)
 have HOP : Hid (∀ W,Below w.heap.size w W → Box W (bd + 1) 27 #[.slice none 0 0,.slice none 0 0,.int .i64 0] → Calls Tryz.prog 23 #[.slice wa d.wait.length wc] W fun e w' => ∃ x,e = .returned x ∧ OwnO w' w1.heap.size x (d.wait.take 16) ∧ Below W.heap.size W w'):=hyq (fun W hW hB => (ops8_any d.wait _ W (h.wait.on hW)).mono fun e w' ⟨x,he,ho,hb⟩ => ⟨x,he,ho.base (HSZ.out W hB),hb⟩)
 have HBD : Hid (w.heap.size ≤ bd):=hyq (by rw [hbd]; exact Nat.le_refl _)
 obtain ⟨i,hi⟩:=nmq (d.safe.length)
 obtain ⟨n,hnn⟩:=nmq (d.wait.length)
 rw [← hi,← hnn] at XD hw1 ⊢
 rw [← hi] at HFE
 rw [← hnn] at HOP
 have HB1:=hyq HB1
 clear h U0 U1 hbs hi hnn
 go_enter Tryz.func8,Tryz.ntmps8
 go_upto_region 1 with fail
 rw [← hw1,← hbd]
 clear hw1 hbd
 refine wp_region_held_drew (S:=fun w' => Below w.heap.size w w') (by kernel_rfl) (by rw [← hv0]; exact HB0.out) (fun hH => ?_)
 rw [← hv0] at hH ⊢
 clear hv0
 refine tk 0 hH ?_; try go_frame
 refine tk 3 hH ?_; try go_frame
 refine rd2 1 4 (fun K hK => ?_) (fun K hK => ?_)
 ·have cc : v0.cell? ⟨bd,0,none⟩ = some _:=XD.out.cell (k:=0) rfl
  go_simp
  refine hK.out _ _ hH (fun hH => ?_)
  clear cc
  try go_frame
  refine rd2 2 4 (fun K hK => ?_) (fun K hK => ?_)
  ·go_simp
   refine (HFE.out _ hH XR.out).mono ?_
   rintro e v102 ⟨x,rfl,ho,hba⟩
   obtain ⟨a5,n5,k5,rfl⟩:=own_any ho
   have HOI:=hyq ho
   have XD:=hyq (XD.out.on hba)
   have XR:=hyq (XR.out.on hba)
   refine hK.out _ _ (bch hH hba) (fun hH => ?_)
   clear hba ho
   try go_frame
   refine rd1 4 (fun K hK => ?_)
   ·have cc : v102.cell? ⟨bd,1,none⟩ = some _:=XD.out.cell (k:=1) rfl
    go_simp
    refine hK.out _ _ hH (fun hH => ?_)
    clear cc
    try go_frame
    refine tk 6 hH ?_; try go_frame
    refine rd1 5 (fun K hK => ?_)
    ·go_simp
     refine (HOP.out _ hH XR.out).mono ?_
     rintro e v105 ⟨x,rfl,ho,hba⟩
     obtain ⟨a8,k8,hx8⟩:=ho.any
     have HOW:=hyq ho
     obtain ⟨n8,hn8⟩:=nmq ((d.wait.take 16).length)
     rw [← hn8] at hx8
     subst hx8
     have XD:=hyq (XD.out.on hba)
     have XR:=hyq (XR.out.on hba)
     have HOI:=hyq (HOI.out.on hba)
     refine hK.out _ _ (bch hH hba) (fun hH => ?_)
     clear hba ho hn8
     try go_frame
     refine rd1 7 (fun K hK => ?_)
     ·have cc : v105.cell? ⟨bd,0,none⟩ = some _:=XD.out.cell (k:=0) rfl
      have cf:=frozen_of_row v105 bd 0 _ _ XD.out
      go_simp
      have HOI : Hid (OwnI (v105.setCell ⟨bd,0,none⟩ (.slice a5 n5 k5)) w1.heap.size (.slice a5 n5 k5) (d.safe.take 100)):=hyq (HOI.out.far fun k hk => heap_setCell_other _ _ _ _ (fun e => ownR_not HOI.out XD.out (by decide) (by rw [hk,show k = bd from e])))
      have HOW : Hid (OwnO (v105.setCell ⟨bd,0,none⟩ (.slice a5 n5 k5)) w1.heap.size (.slice a8 n8 k8) (d.wait.take 16)):=hyq (HOW.out.far fun k hk => heap_setCell_other _ _ _ _ (fun e => ownR_not HOW.out XD.out (by decide) (by rw [hk,show k = bd from e])))
      have XR : Hid (Box (v105.setCell ⟨bd,0,none⟩ (.slice a5 n5 k5)) (bd + 1) 27 #[.slice none 0 0,.slice none 0 0,.int .i64 0]):=hyq (XR.out.far (by show bd + 1 ≠ bd; omega) _)
      have XD : Hid (Box (v105.setCell ⟨bd,0,none⟩ (.slice a5 n5 k5)) bd 27 #[.slice a5 n5 k5,.slice wa n wc,.int .i64 d.room]):=hyq (XD.out.set (k:=0) _)
      refine hK.out _ _ (hH.setCell (p:=⟨bd,0,none⟩) HBD.out _) (fun hH => ?_)
      clear cc cf
      obtain ⟨v107,hv9⟩:=nmq ((v105.setCell ⟨bd,0,none⟩ (.slice a5 n5 k5)))
      rw [← hv9] at XD XR HOI HOW hH ⊢
      clear hv9
      try go_frame
      refine tk 8 hH ?_; try go_frame
      refine rd1 9 (fun K hK => ?_)
      ·have cc : v107.cell? ⟨bd,1,none⟩ = some _:=XD.out.cell (k:=1) rfl
       have cf:=frozen_of_row v107 bd 1 _ _ XD.out
       go_simp
       have HOI : Hid (OwnI (v107.setCell ⟨bd,1,none⟩ (.slice a8 n8 k8)) w1.heap.size (.slice a5 n5 k5) (d.safe.take 100)):=hyq (HOI.out.far fun k hk => heap_setCell_other _ _ _ _ (fun e => ownR_not HOI.out XD.out (by decide) (by rw [hk,show k = bd from e])))
       have HOW : Hid (OwnO (v107.setCell ⟨bd,1,none⟩ (.slice a8 n8 k8)) w1.heap.size (.slice a8 n8 k8) (d.wait.take 16)):=hyq (HOW.out.far fun k hk => heap_setCell_other _ _ _ _ (fun e => ownR_not HOW.out XD.out (by decide) (by rw [hk,show k = bd from e])))
       have XR : Hid (Box (v107.setCell ⟨bd,1,none⟩ (.slice a8 n8 k8)) (bd + 1) 27 #[.slice none 0 0,.slice none 0 0,.int .i64 0]):=hyq (XR.out.far (by show bd + 1 ≠ bd; omega) _)
       have XD : Hid (Box (v107.setCell ⟨bd,1,none⟩ (.slice a8 n8 k8)) bd 27 #[.slice a5 n5 k5,.slice a8 n8 k8,.int .i64 d.room]):=hyq (XD.out.set (k:=1) _)
       refine hK.out _ _ (hH.setCell (p:=⟨bd,1,none⟩) HBD.out _) (fun hH => ?_)
       clear cc cf
       obtain ⟨v109,hv9⟩:=nmq ((v107.setCell ⟨bd,1,none⟩ (.slice a8 n8 k8)))
       rw [← hv9] at XD XR HOI HOW hH ⊢
       clear hv9
       try go_frame
       refine wpAnyH_done (by kernel_rfl) ?_ _
       have p0:=XD.out.cell (k:=0) rfl
       have p1:=XD.out.cell (k:=1) rfl
       have p2:=XD.out.cell (k:=2) rfl
       have FIN : Hid (OwnDR ⟨d.safe.take 100,d.wait.take 16,d.room⟩ w (.returned (.agg #[.slice a5 n5 k5,.slice a8 n8 k8,.int .i64 d.room])) (v109.setRow (bd + 1) #[.slice a5 n5 k5,.slice a8 n8 k8,.int .i64 d.room])):=hyq ⟨_,_,rfl,own_base (own_row' HOI.out XR.out (by decide)) HB1.out.size,OwnO.base (own_row' HOW.out XR.out (by decide)) HB1.out.size,below_row hH (Nat.le_succ_of_le HBD.out) _⟩
       clear hH
       go_wp2_with (first | (refine wpList_store_row rfl 27 (.tmp 2) (.tmp 11) rfl (bd + 1) #[.slice a5 n5 k5,.slice a8 n8 k8,.int .i64 d.room] rfl rfl 27 #[.slice none 0 0,.slice none 0 0,.int .i64 0] XR.out (info27 _ _ _) rfl (darr_one _ _ _ _ _ _ _) ?_) | fail)
       refine bodyPost_ret ?_ rfl FIN.out
       exact end_disk rfl _ (XR.out.row _) rfl
  ·have cc : v0.cell? ⟨bd,1,none⟩ = some _:=XD.out.cell (k:=1) rfl
   go_simp
   refine hK.out _ _ hH (fun hH => ?_)
   clear cc
   try go_frame
   refine rd1 2 (fun K hK => ?_)
   ·go_simp
    refine (HFE.out _ hH XR.out).mono ?_
    rintro e v102 ⟨x,rfl,ho,hba⟩
    obtain ⟨a5,n5,k5,rfl⟩:=own_any ho
    have HOI:=hyq ho
    have XD:=hyq (XD.out.on hba)
    have XR:=hyq (XR.out.on hba)
    refine hK.out _ _ (bch hH hba) (fun hH => ?_)
    clear hba ho
    try go_frame
    refine tk 6 hH ?_; try go_frame
    refine rd1 5 (fun K hK => ?_)
    ·go_simp
     refine (HOP.out _ hH XR.out).mono ?_
     rintro e v105 ⟨x,rfl,ho,hba⟩
     obtain ⟨a8,k8,hx8⟩:=ho.any
     have HOW:=hyq ho
     obtain ⟨n8,hn8⟩:=nmq ((d.wait.take 16).length)
     rw [← hn8] at hx8
     subst hx8
     have XD:=hyq (XD.out.on hba)
     have XR:=hyq (XR.out.on hba)
     have HOI:=hyq (HOI.out.on hba)
     refine hK.out _ _ (bch hH hba) (fun hH => ?_)
     clear hba ho hn8
     try go_frame
     refine rd1 7 (fun K hK => ?_)
     ·have cc : v105.cell? ⟨bd,0,none⟩ = some _:=XD.out.cell (k:=0) rfl
      have cf:=frozen_of_row v105 bd 0 _ _ XD.out
      go_simp
      have HOI : Hid (OwnI (v105.setCell ⟨bd,0,none⟩ (.slice a5 n5 k5)) w1.heap.size (.slice a5 n5 k5) (d.safe.take 100)):=hyq (HOI.out.far fun k hk => heap_setCell_other _ _ _ _ (fun e => ownR_not HOI.out XD.out (by decide) (by rw [hk,show k = bd from e])))
      have HOW : Hid (OwnO (v105.setCell ⟨bd,0,none⟩ (.slice a5 n5 k5)) w1.heap.size (.slice a8 n8 k8) (d.wait.take 16)):=hyq (HOW.out.far fun k hk => heap_setCell_other _ _ _ _ (fun e => ownR_not HOW.out XD.out (by decide) (by rw [hk,show k = bd from e])))
      have XR : Hid (Box (v105.setCell ⟨bd,0,none⟩ (.slice a5 n5 k5)) (bd + 1) 27 #[.slice none 0 0,.slice none 0 0,.int .i64 0]):=hyq (XR.out.far (by show bd + 1 ≠ bd; omega) _)
      have XD : Hid (Box (v105.setCell ⟨bd,0,none⟩ (.slice a5 n5 k5)) bd 27 #[.slice a5 n5 k5,.slice wa n wc,.int .i64 d.room]):=hyq (XD.out.set (k:=0) _)
      refine hK.out _ _ (hH.setCell (p:=⟨bd,0,none⟩) HBD.out _) (fun hH => ?_)
      clear cc cf
      obtain ⟨v107,hv9⟩:=nmq ((v105.setCell ⟨bd,0,none⟩ (.slice a5 n5 k5)))
      rw [← hv9] at XD XR HOI HOW hH ⊢
      clear hv9
      try go_frame
      refine tk 8 hH ?_; try go_frame
      refine rd1 9 (fun K hK => ?_)
      ·have cc : v107.cell? ⟨bd,1,none⟩ = some _:=XD.out.cell (k:=1) rfl
       have cf:=frozen_of_row v107 bd 1 _ _ XD.out
       go_simp
       have HOI : Hid (OwnI (v107.setCell ⟨bd,1,none⟩ (.slice a8 n8 k8)) w1.heap.size (.slice a5 n5 k5) (d.safe.take 100)):=hyq (HOI.out.far fun k hk => heap_setCell_other _ _ _ _ (fun e => ownR_not HOI.out XD.out (by decide) (by rw [hk,show k = bd from e])))
       have HOW : Hid (OwnO (v107.setCell ⟨bd,1,none⟩ (.slice a8 n8 k8)) w1.heap.size (.slice a8 n8 k8) (d.wait.take 16)):=hyq (HOW.out.far fun k hk => heap_setCell_other _ _ _ _ (fun e => ownR_not HOW.out XD.out (by decide) (by rw [hk,show k = bd from e])))
       have XR : Hid (Box (v107.setCell ⟨bd,1,none⟩ (.slice a8 n8 k8)) (bd + 1) 27 #[.slice none 0 0,.slice none 0 0,.int .i64 0]):=hyq (XR.out.far (by show bd + 1 ≠ bd; omega) _)
       have XD : Hid (Box (v107.setCell ⟨bd,1,none⟩ (.slice a8 n8 k8)) bd 27 #[.slice a5 n5 k5,.slice a8 n8 k8,.int .i64 d.room]):=hyq (XD.out.set (k:=1) _)
       refine hK.out _ _ (hH.setCell (p:=⟨bd,1,none⟩) HBD.out _) (fun hH => ?_)
       clear cc cf
       obtain ⟨v109,hv9⟩:=nmq ((v107.setCell ⟨bd,1,none⟩ (.slice a8 n8 k8)))
       rw [← hv9] at XD XR HOI HOW hH ⊢
       clear hv9
       try go_frame
       refine wpAnyH_done (by kernel_rfl) ?_ _
       have p0:=XD.out.cell (k:=0) rfl
       have p1:=XD.out.cell (k:=1) rfl
       have p2:=XD.out.cell (k:=2) rfl
       have FIN : Hid (OwnDR ⟨d.safe.take 100,d.wait.take 16,d.room⟩ w (.returned (.agg #[.slice a5 n5 k5,.slice a8 n8 k8,.int .i64 d.room])) (v109.setRow (bd + 1) #[.slice a5 n5 k5,.slice a8 n8 k8,.int .i64 d.room])):=hyq ⟨_,_,rfl,own_base (own_row' HOI.out XR.out (by decide)) HB1.out.size,OwnO.base (own_row' HOW.out XR.out (by decide)) HB1.out.size,below_row hH (Nat.le_succ_of_le HBD.out) _⟩
       clear hH
       go_wp2_with (first | (refine wpList_store_row rfl 27 (.tmp 2) (.tmp 11) rfl (bd + 1) #[.slice a5 n5 k5,.slice a8 n8 k8,.int .i64 d.room] rfl rfl 27 #[.slice none 0 0,.slice none 0 0,.int .i64 0] XR.out (info27 _ _ _) rfl (darr_one _ _ _ _ _ _ _) ?_) | fail)
       refine bodyPost_ret ?_ rfl FIN.out
       exact end_disk rfl _ (XR.out.row _) rfl
 ·have cc : v0.cell? ⟨bd,1,none⟩ = some _:=XD.out.cell (k:=1) rfl
  go_simp
  refine hK.out _ _ hH (fun hH => ?_)
  clear cc
  try go_frame
  refine rd1 1 (fun K hK => ?_)
  ·have cc : v0.cell? ⟨bd,0,none⟩ = some _:=XD.out.cell (k:=0) rfl
   go_simp
   refine hK.out _ _ hH (fun hH => ?_)
   clear cc
   try go_frame
   refine rd1 2 (fun K hK => ?_)
   ·go_simp
    refine (HFE.out _ hH XR.out).mono ?_
    rintro e v102 ⟨x,rfl,ho,hba⟩
    obtain ⟨a5,n5,k5,rfl⟩:=own_any ho
    have HOI:=hyq ho
    have XD:=hyq (XD.out.on hba)
    have XR:=hyq (XR.out.on hba)
    refine hK.out _ _ (bch hH hba) (fun hH => ?_)
    clear hba ho
    try go_frame
    refine tk 6 hH ?_; try go_frame
    refine rd1 5 (fun K hK => ?_)
    ·go_simp
     refine (HOP.out _ hH XR.out).mono ?_
     rintro e v105 ⟨x,rfl,ho,hba⟩
     obtain ⟨a8,k8,hx8⟩:=ho.any
     have HOW:=hyq ho
     obtain ⟨n8,hn8⟩:=nmq ((d.wait.take 16).length)
     rw [← hn8] at hx8
     subst hx8
     have XD:=hyq (XD.out.on hba)
     have XR:=hyq (XR.out.on hba)
     have HOI:=hyq (HOI.out.on hba)
     refine hK.out _ _ (bch hH hba) (fun hH => ?_)
     clear hba ho hn8
     try go_frame
     refine rd1 7 (fun K hK => ?_)
     ·have cc : v105.cell? ⟨bd,0,none⟩ = some _:=XD.out.cell (k:=0) rfl
      have cf:=frozen_of_row v105 bd 0 _ _ XD.out
      go_simp
      have HOI : Hid (OwnI (v105.setCell ⟨bd,0,none⟩ (.slice a5 n5 k5)) w1.heap.size (.slice a5 n5 k5) (d.safe.take 100)):=hyq (HOI.out.far fun k hk => heap_setCell_other _ _ _ _ (fun e => ownR_not HOI.out XD.out (by decide) (by rw [hk,show k = bd from e])))
      have HOW : Hid (OwnO (v105.setCell ⟨bd,0,none⟩ (.slice a5 n5 k5)) w1.heap.size (.slice a8 n8 k8) (d.wait.take 16)):=hyq (HOW.out.far fun k hk => heap_setCell_other _ _ _ _ (fun e => ownR_not HOW.out XD.out (by decide) (by rw [hk,show k = bd from e])))
      have XR : Hid (Box (v105.setCell ⟨bd,0,none⟩ (.slice a5 n5 k5)) (bd + 1) 27 #[.slice none 0 0,.slice none 0 0,.int .i64 0]):=hyq (XR.out.far (by show bd + 1 ≠ bd; omega) _)
      have XD : Hid (Box (v105.setCell ⟨bd,0,none⟩ (.slice a5 n5 k5)) bd 27 #[.slice a5 n5 k5,.slice wa n wc,.int .i64 d.room]):=hyq (XD.out.set (k:=0) _)
      refine hK.out _ _ (hH.setCell (p:=⟨bd,0,none⟩) HBD.out _) (fun hH => ?_)
      clear cc cf
      obtain ⟨v107,hv9⟩:=nmq ((v105.setCell ⟨bd,0,none⟩ (.slice a5 n5 k5)))
      rw [← hv9] at XD XR HOI HOW hH ⊢
      clear hv9
      try go_frame
      refine tk 8 hH ?_; try go_frame
      refine rd1 9 (fun K hK => ?_)
      ·have cc : v107.cell? ⟨bd,1,none⟩ = some _:=XD.out.cell (k:=1) rfl
       have cf:=frozen_of_row v107 bd 1 _ _ XD.out
       go_simp
       have HOI : Hid (OwnI (v107.setCell ⟨bd,1,none⟩ (.slice a8 n8 k8)) w1.heap.size (.slice a5 n5 k5) (d.safe.take 100)):=hyq (HOI.out.far fun k hk => heap_setCell_other _ _ _ _ (fun e => ownR_not HOI.out XD.out (by decide) (by rw [hk,show k = bd from e])))
       have HOW : Hid (OwnO (v107.setCell ⟨bd,1,none⟩ (.slice a8 n8 k8)) w1.heap.size (.slice a8 n8 k8) (d.wait.take 16)):=hyq (HOW.out.far fun k hk => heap_setCell_other _ _ _ _ (fun e => ownR_not HOW.out XD.out (by decide) (by rw [hk,show k = bd from e])))
       have XR : Hid (Box (v107.setCell ⟨bd,1,none⟩ (.slice a8 n8 k8)) (bd + 1) 27 #[.slice none 0 0,.slice none 0 0,.int .i64 0]):=hyq (XR.out.far (by show bd + 1 ≠ bd; omega) _)
       have XD : Hid (Box (v107.setCell ⟨bd,1,none⟩ (.slice a8 n8 k8)) bd 27 #[.slice a5 n5 k5,.slice a8 n8 k8,.int .i64 d.room]):=hyq (XD.out.set (k:=1) _)
       refine hK.out _ _ (hH.setCell (p:=⟨bd,1,none⟩) HBD.out _) (fun hH => ?_)
       clear cc cf
       obtain ⟨v109,hv9⟩:=nmq ((v107.setCell ⟨bd,1,none⟩ (.slice a8 n8 k8)))
       rw [← hv9] at XD XR HOI HOW hH ⊢
       clear hv9
       try go_frame
       refine wpAnyH_done (by kernel_rfl) ?_ _
       have p0:=XD.out.cell (k:=0) rfl
       have p1:=XD.out.cell (k:=1) rfl
       have p2:=XD.out.cell (k:=2) rfl
       have FIN : Hid (OwnDR ⟨d.safe.take 100,d.wait.take 16,d.room⟩ w (.returned (.agg #[.slice a5 n5 k5,.slice a8 n8 k8,.int .i64 d.room])) (v109.setRow (bd + 1) #[.slice a5 n5 k5,.slice a8 n8 k8,.int .i64 d.room])):=hyq ⟨_,_,rfl,own_base (own_row' HOI.out XR.out (by decide)) HB1.out.size,OwnO.base (own_row' HOW.out XR.out (by decide)) HB1.out.size,below_row hH (Nat.le_succ_of_le HBD.out) _⟩
       clear hH
       go_wp2_with (first | (refine wpList_store_row rfl 27 (.tmp 2) (.tmp 11) rfl (bd + 1) #[.slice a5 n5 k5,.slice a8 n8 k8,.int .i64 d.room] rfl rfl 27 #[.slice none 0 0,.slice none 0 0,.int .i64 0] XR.out (info27 _ _ _) rfl (darr_one _ _ _ _ _ _ _) ?_) | fail)
       refine bodyPost_ret ?_ rfl FIN.out
       exact end_disk rfl _ (XR.out.row _) rfl
end Go.Proofs.YtigopecainocgaaGreatDoor
namespace Go.Proofs.YtigopecainocgaaGreatDoor
open Go.RowKit Go.Shelf
theorem own_sz {d : Dsk} (hz : SzD d) : SzD (ownD d):=⟨fun x hx => hz.safe x (List.mem_of_mem_take hx),fun o ho => hz.wait o (List.mem_of_mem_take ho),hz.room⟩
def synD (d : Dsk) (t : List It) : Dsk:=⟨t,[],d.room⟩
theorem sync_some {d : Dsk} {t : List It} (h : nowM d = some t) : syncM d = (synD d t,0):=by unfold syncM; rw [h]; rfl
/-! ### What wakes does -/
def wO : List Opn:=[⟨1,[47,97],[],[]⟩,⟨2,[47,97,47,102],[],[49,50,51]⟩,⟨1,[47,98,47,99],[],[]⟩]
def wD : Dsk:=⟨[],[⟨1,[47,97],[],[]⟩,⟨2,[47,97,47,102],[],[49,50,51]⟩],-1⟩
def wC : List It:=[⟨[47,97],1,[]⟩,⟨[47,97,47,102],2,[49,50]⟩]
def wN : List It:=[⟨[47,97],1,[]⟩,⟨[47,97,47,102],2,[49,50,51]⟩]
theorem wNew : newM [] = (freshM [],0):=by unfold newM; rw [if_pos (by decide +kernel)]
theorem wRunD : (runD (freshM []) wO false).1.safe = wD.safe ∧ (runD (freshM []) wO false).1.wait = wD.wait ∧ (runD (freshM []) wO false).1.room = -1 ∧ (runD (freshM []) wO false).2 = (2,4):=by decide +kernel
theorem wRun3 : runD (freshM []) wO false = (wD,2,4):=by
 have key : ∀ x : Dsk × Nat × Int,x.1.safe = wD.safe ∧ x.1.wait = wD.wait ∧ x.1.room = -1 ∧ x.2 = (2,4) → x = (wD,2,4):=by
  rintro ⟨⟨a,b,c⟩,p⟩ ⟨h1,h2,h3,h4⟩
  simp only at h1 h2 h3 h4
  subst h1 h2 h3 h4
  rfl
 exact key _ wRunD
theorem wNowD : nowM wD = some wN:=by decide +kernel
theorem wLeft : leftM wD 1 2 = wC:=by decide +kernel
theorem wCrash : crashM wD 1 2 = (freshM wC,0):=by unfold crashM; rw [wNowD]; simp only; rw [wLeft]
theorem wNowC : nowM (freshM wC) = some wC:=by decide +kernel
theorem wGet : getT wC [47,97,47,102] = some ⟨[47,97,47,102],2,[49,50]⟩:=by decide +kernel
end Go.Proofs.YtigopecainocgaaGreatDoor
namespace Go.Proofs.YtigopecainocgaaGreatDoor
open Go.RowKit Go.Shelf
theorem own_any3 {w : World} {B e s n : Nat} {v : Value} {xs : List Value} (h : w.ownsRow B e s v n xs) : ∃ a n c,v = .slice a n c:=by
 obtain ⟨a,c,rfl⟩:=ownR_any h
 exact ⟨_,_,_,rfl⟩
theorem b46a : Tryz.prog.built 46 [(0,.int .i64 1),(1,.string ⟨#[47,97]⟩)] = some #[.int .i64 1,.string ⟨#[47,97]⟩,.string ⟨#[]⟩,.string ⟨#[]⟩]:=by kernel_rfl
theorem b46b : Tryz.prog.built 46 [(0,.int .i64 2),(1,.string ⟨#[47,97,47,102]⟩),(3,.string ⟨#[49,50,51]⟩)] = some #[.int .i64 2,.string ⟨#[47,97,47,102]⟩,.string ⟨#[]⟩,.string ⟨#[49,50,51]⟩]:=by kernel_rfl
theorem b46c : Tryz.prog.built 46 [(0,.int .i64 1),(1,.string ⟨#[47,98,47,99]⟩)] = some #[.int .i64 1,.string ⟨#[47,98,47,99]⟩,.string ⟨#[]⟩,.string ⟨#[]⟩]:=by kernel_rfl
theorem info59a {a b c : Value} : (Tryz.prog.info? 59).map (·.size) = some (#[a,b,c] : Array Value).size:=by show _ = some 3; kernel_rfl
def wOC : Array Value:=#[.int .i64 1,.string ⟨#[47,97]⟩,.string ⟨#[]⟩,.string ⟨#[]⟩,.int .i64 2,.string ⟨#[47,97,47,102]⟩,.string ⟨#[]⟩,.string ⟨#[49,50,51]⟩,.int .i64 1,.string ⟨#[47,98,47,99]⟩,.string ⟨#[]⟩,.string ⟨#[]⟩]
theorem wORd {w : World} {g : Nat} (X : Box w g 46 wOC) : RdO w (.slice (some ⟨g,0,none⟩) 3 3) wO :=
 ⟨_,3,rfl,Nat.le_refl _,by decide,fun _ => ⟨g,0,rfl,X.lt,fun j u hu => by
  rw [Nat.zero_add]
  exact X.cell (by rw [← Array.getElem?_toList]; exact hu)⟩⟩
theorem wD_sz : SzD wD:=⟨fun x hx => (by cases hx),by decide,by decide⟩
theorem wF_sz : SzD (freshM []):=⟨fun x hx => (by cases hx),fun x hx => (by cases hx),by decide⟩
theorem wFC_sz : SzD (freshM wC):=⟨by decide,fun x hx => (by cases hx),by decide⟩
theorem wakes8_any (w : World) (hT : TabS w) : Calls Tryz.prog 7 #[] w (EqR true w):=by
 have HT:=hyq hT
 have HB : Hid (Below w.heap.size w w):=hyq (Below.refl _ _)
 have k0:=b24
 have k1:=b46a
 have k2:=b46b
 have k3:=b46c
 clear hT
 go_enter Tryz.func7,Tryz.ntmps7
 go_wp2_with fail
 refine (new_is [] (.slice none 0 0) w (RdI.nil _) (fun x hx => by cases hx) HT.out).mono ?_
 rintro e w2 ⟨iv,wv,he,hI,hW,hb⟩
 rw [wNew] at he hI hW
 have he : e = .returned (.tuple #[.agg #[iv,wv,.int .i64 (-1)],.int .i64 0]):=he
 subst he
 obtain ⟨a1,n1,c1,rfl⟩:=own_any3 hI
 obtain ⟨a2,n2,c2,rfl⟩:=own_any3 hW
 obtain ⟨VA,hVA⟩:=nmq ((w2.alloc (.cells #[.slice none 0 0,.slice none 0 0,.int .i64 0] 27)).setRow w2.heap.size #[.slice a1 n1 c1,.slice a2 n2 c2,.int .i64 (-1)])
 obtain ⟨bA,hbA⟩:=nmq (w2.heap.size)
 have hnA : Below w2.heap.size w2 VA:=by rw [hVA]; exact below_row (below_new _ _) (Nat.le_refl _) _
 have XA : Hid (Box VA bA 27 #[.slice a1 n1 c1,.slice a2 n2 c2,.int .i64 (-1)]):=hyq (by rw [hVA,hbA]; exact box_new.row _)
 have HVA:=hyq hVA
 have HWAle : Hid (w.heap.size ≤ bA):=hyq (by rw [hbA]; exact (bch HB.out hb).size)
 have HWA:=hyq hbA
 have hcar : Below w.heap.size w VA:=bch hb hnA
 have HB:=hyq (bch HB.out hcar)
 clear hcar
 have RA : Hid (RdD VA (.slice a1 n1 c1) (.slice a2 n2 c2) (freshM [])):=hyq (RdD.on ⟨OwnI.rd hI,OwnO.rd hW⟩ hnA)
 have p0:=XA.out.cell (k:=0) rfl
 have p1:=XA.out.cell (k:=1) rfl
 have p2:=XA.out.cell (k:=2) rfl
 obtain ⟨UA,hUA⟩:=nmq (VA.alloc (.cells wOC 46))
 obtain ⟨gA,hgA⟩:=nmq (VA.heap.size)
 have hbU : Below VA.heap.size VA UA:=by rw [hUA]; exact below_new _ _
 have RU : Hid (RdO UA (.slice (some ⟨gA,0,none⟩) 3 3) wO):=hyq (wORd (by rw [hUA,hgA]; exact box_new))
 have hUA' : UA = VA.alloc (.cells #[.int .i64 1,.string ⟨#[47,97]⟩,.string ⟨#[]⟩,.string ⟨#[]⟩,.int .i64 2,.string ⟨#[47,97,47,102]⟩,.string ⟨#[]⟩,.string ⟨#[49,50,51]⟩,.int .i64 1,.string ⟨#[47,98,47,99]⟩,.string ⟨#[]⟩,.string ⟨#[]⟩] 46):=hUA
 clear hI hW hb hUA
 clear hVA hbA
 go_wp2_with (first | (refine wpList_store_row rfl 27 (.tmp 1) (.tmp 16) rfl w2.heap.size #[.slice a1 n1 c1,.slice a2 n2 c2,.int .i64 (-1)] rfl rfl 27 #[.slice none 0 0,.slice none 0 0,.int .i64 0] box_new (info27 _ _ _) rfl (darr_one _ _ _ _ _ _ _) ?_; rw [← HVA.out,← HWA.out]) | fail)
 rw [← hUA',← hgA]
 clear p0 p1 p2
 clear hUA' hgA k0 k1 k2 k3
 have hcar : Below VA.heap.size VA UA:=hbU
 have XA:=hyq (XA.out.on hcar)
 have RA:=hyq (RA.out.on hcar)
 have HB:=hyq (bch HB.out hcar)
 clear hcar
 clear hbU
 refine (runF_is (freshM []) _ _ wO _ false UA RA.out wF_sz RU.out (by decide) (by decide) (HT.out.on HB.out)).mono ?_
 rintro e w3 ⟨iv,wv,he,hI,hW,hb⟩
 rw [wRun3] at he hI hW
 have he : e = .returned (.tuple #[.agg #[iv,wv,.int .i64 (-1)],.int .i64 2,.int .i64 4]):=he
 subst he
 obtain ⟨a3,n3,c3,rfl⟩:=own_any3 hI
 obtain ⟨a4,n4,c4,rfl⟩:=own_any3 hW
 have XA:=hyq (XA.out.on hb)
 obtain ⟨VB,hVB⟩:=nmq (w3.setRow bA #[.slice a3 n3 c3,.slice a4 n4 c4,.int .i64 (-1)])
 have HVB:=hyq hVB
 have XOB:=hyq XA.out
 have XB : Hid (Box VB bA 27 #[.slice a3 n3 c3,.slice a4 n4 c4,.int .i64 (-1)]):=hyq (by rw [hVB]; exact XA.out.row _)
 have hI:=own_row' (cs':=#[.slice a3 n3 c3,.slice a4 n4 c4,.int .i64 (-1)]) hI XA.out (by decide)
 have hW:=own_row' (cs':=#[.slice a3 n3 c3,.slice a4 n4 c4,.int .i64 (-1)]) hW XA.out (by decide)
 rw [← hVB] at hI hW
 have RB : Hid (RdD VB (.slice a3 n3 c3) (.slice a4 n4 c4) wD):=hyq ⟨OwnI.rd hI,OwnO.rd hW⟩
 have HBA : Hid (w.heap.size ≤ bA):=hyq HWAle.out
 have HB : Hid (Below w.heap.size w VB):=hyq (by rw [hVB]; exact below_row (bch HB.out hb) HBA.out _)
 clear hI hW hb
 have p0:=XB.out.cell (k:=0) rfl
 have p1:=XB.out.cell (k:=1) rfl
 have p2:=XB.out.cell (k:=2) rfl
 clear hVB
 go_wp2_with (first | (refine wpList_store_row rfl 27 (.tmp 1) (.tmp 25) rfl bA #[.slice a3 n3 c3,.slice a4 n4 c4,.int .i64 (-1)] rfl rfl 27 #[.slice a1 n1 c1,.slice a2 n2 c2,.int .i64 (-1)] XOB.out (info27 _ _ _) rfl (darr_one _ _ _ _ _ _ _) ?_; rw [← HVB.out]) | fail)
 clear p0 p1 p2
 refine (crash_is wD _ _ 1 2 VB RB.out wD_sz (by decide) (by decide) (HT.out.on HB.out)).mono ?_
 rintro e w4 ⟨iv,wv,he,hI,hW,hb⟩
 rw [wCrash] at he hI hW
 have he : e = .returned (.tuple #[.agg #[iv,wv,.int .i64 (-1)],.int .i64 0]):=he
 subst he
 obtain ⟨a5,n5,c5,rfl⟩:=own_any3 hI
 obtain ⟨a6,n6,c6,rfl⟩:=own_any3 hW
 obtain ⟨VC,hVC⟩:=nmq ((w4.alloc (.cells #[.slice none 0 0,.slice none 0 0,.int .i64 0] 27)).setRow w4.heap.size #[.slice a5 n5 c5,.slice a6 n6 c6,.int .i64 (-1)])
 obtain ⟨bC,hbC⟩:=nmq (w4.heap.size)
 have hnC : Below w4.heap.size w4 VC:=by rw [hVC]; exact below_row (below_new _ _) (Nat.le_refl _) _
 have XC : Hid (Box VC bC 27 #[.slice a5 n5 c5,.slice a6 n6 c6,.int .i64 (-1)]):=hyq (by rw [hVC,hbC]; exact box_new.row _)
 have HVC:=hyq hVC
 have HWC:=hyq hbC
 have hcar : Below VB.heap.size VB VC:=bch hb hnC
 have XB:=hyq (XB.out.on hcar)
 have RB:=hyq (RB.out.on hcar)
 have HB:=hyq (bch HB.out hcar)
 clear hcar
 have RC : Hid (RdD VC (.slice a5 n5 c5) (.slice a6 n6 c6) (freshM wC)):=hyq (RdD.on ⟨OwnI.rd hI,OwnO.rd hW⟩ hnC)
 have p0:=XC.out.cell (k:=0) rfl
 have p1:=XC.out.cell (k:=1) rfl
 have p2:=XC.out.cell (k:=2) rfl
 clear hI hW hb hnC
 clear hVC hbC
 go_wp2_with (first | (refine wpList_store_row rfl 27 (.tmp 5) (.tmp 31) rfl w4.heap.size #[.slice a5 n5 c5,.slice a6 n6 c6,.int .i64 (-1)] rfl rfl 27 #[.slice none 0 0,.slice none 0 0,.int .i64 0] box_new (info27 _ _ _) rfl (darr_one _ _ _ _ _ _ _) ?_; rw [← HVC.out,← HWC.out]) | fail)
 clear p0 p1 p2
 refine (now_is (freshM wC) _ _ VC RC.out wFC_sz (HT.out.on HB.out)).mono ?_
 rintro e w5 ⟨hb,hc⟩
 obtain ⟨v7,he,hI⟩ : ∃ v',e = .returned (.tuple #[.agg #[v'],.int .i64 0]) ∧ OwnI w5 VC.heap.size v' wC:=by
  rw [wNowC] at hc
  rcases hc with ⟨h,_⟩ | ⟨t,v',h,he,ho⟩
  ·cases h
  ·cases h; exact ⟨v',he,ho⟩
 subst he
 obtain ⟨a7,n7,c7,rfl⟩:=own_any3 hI
 obtain ⟨VD,hVD⟩:=nmq ((w5.alloc (.cells #[.slice none 0 0] 24)).setRow w5.heap.size #[.slice a7 n7 c7])
 obtain ⟨bD,hbD⟩:=nmq (w5.heap.size)
 have hnD : Below w5.heap.size w5 VD:=by rw [hVD]; exact below_row (below_new _ _) (Nat.le_refl _) _
 have XD : Hid (Box VD bD 24 #[.slice a7 n7 c7]):=hyq (by rw [hVD,hbD]; exact box_new.row _)
 have HVD:=hyq hVD
 have HWD:=hyq hbD
 have hcar : Below VC.heap.size VC VD:=bch hb hnD
 have XB:=hyq (XB.out.on hcar)
 have RB:=hyq (RB.out.on hcar)
 have XC:=hyq (XC.out.on hcar)
 have RC:=hyq (RC.out.on hcar)
 have HB:=hyq (bch HB.out hcar)
 clear hcar
 have RD : Hid (RdI VD (.slice a7 n7 c7) wC):=hyq (RdI.on (OwnI.rd hI) hnD)
 have p0:=XD.out.cell (k:=0) rfl
 clear hI hb hc hnD
 clear hVD hbD
 go_wp2_with (first | (refine wpList_store_row rfl 24 (.tmp 7) (.tmp 36) rfl w5.heap.size #[.slice a7 n7 c7] rfl rfl 24 #[.slice none 0 0] box_new (info24 _) rfl (slice_one _ _ _) ?_; rw [← HVD.out,← HWD.out]) | fail)
 clear p0
 refine (get_gen wC _ [47,97,47,102] VD RD.out (by decide) (by decide) (HT.out.on HB.out).tab).mono ?_
 rintro e w6 ⟨he,hb⟩
 rw [wGet] at he
 have he : e = .returned (.tuple #[.agg #[.string ⟨#[47,97,47,102]⟩,.int .i64 2,.string ⟨#[49,50]⟩],.bool true]):=he
 subst he
 obtain ⟨VE,hVE⟩:=nmq ((w6.alloc (.cells #[.string ⟨#[]⟩,.int .i64 0,.string ⟨#[]⟩] 59)).setRow w6.heap.size #[.string ⟨#[47,97,47,102]⟩,.int .i64 2,.string ⟨#[49,50]⟩])
 obtain ⟨bE,hbE⟩:=nmq (w6.heap.size)
 have hnE : Below w6.heap.size w6 VE:=by rw [hVE]; exact below_row (below_new _ _) (Nat.le_refl _) _
 have XE : Hid (Box VE bE 59 #[.string ⟨#[47,97,47,102]⟩,.int .i64 2,.string ⟨#[49,50]⟩]):=hyq (by rw [hVE,hbE]; exact box_new.row _)
 have HVE:=hyq hVE
 have HWE:=hyq hbE
 have hcar : Below VD.heap.size VD VE:=bch hb hnE
 have XB:=hyq (XB.out.on hcar)
 have RB:=hyq (RB.out.on hcar)
 have XC:=hyq (XC.out.on hcar)
 have RC:=hyq (RC.out.on hcar)
 have XD:=hyq (XD.out.on hcar)
 have RD:=hyq (RD.out.on hcar)
 have HB:=hyq (bch HB.out hcar)
 clear hcar
 have p0:=XB.out.cell (k:=0) rfl
 have p1:=XB.out.cell (k:=1) rfl
 have p2:=XB.out.cell (k:=2) rfl
 clear hb hnE
 clear hVE hbE
 go_wp2_with (first | (refine wpList_store_row rfl 59 (.tmp 9) (.tmp 41) rfl w6.heap.size #[.string ⟨#[47,97,47,102]⟩,.int .i64 2,.string ⟨#[49,50]⟩] rfl rfl 59 #[.string ⟨#[]⟩,.int .i64 0,.string ⟨#[]⟩] box_new info59a rfl (by simp [Value.oneCell']) ?_; rw [← HVE.out,← HWE.out]) | fail)
 clear p0 p1 p2
 refine (sync_is wD _ _ VE RB.out wD_sz (HT.out.on HB.out)).mono ?_
 rintro e w7 ⟨iv,wv,he,hI,hW,hb⟩
 rw [sync_some wNowD] at he hI hW
 have he : e = .returned (.tuple #[.agg #[iv,wv,.int .i64 (-1)],.int .i64 0]):=he
 subst he
 obtain ⟨a8,c8,h8⟩:=ownR_any hI
 have h8 : iv = .slice a8 2 c8:=h8
 subst h8
 obtain ⟨a9,c9,h9⟩:=ownR_any hW
 have h9 : wv = .slice a9 0 c9:=h9
 subst h9
 obtain ⟨VF,hVF⟩:=nmq ((w7.alloc (.cells #[.slice none 0 0,.slice none 0 0,.int .i64 0] 27)).setRow w7.heap.size #[.slice a8 2 c8,.slice a9 0 c9,.int .i64 (-1)])
 obtain ⟨bF,hbF⟩:=nmq (w7.heap.size)
 have hnF : Below w7.heap.size w7 VF:=by rw [hVF]; exact below_row (below_new _ _) (Nat.le_refl _) _
 have XF : Hid (Box VF bF 27 #[.slice a8 2 c8,.slice a9 0 c9,.int .i64 (-1)]):=hyq (by rw [hVF,hbF]; exact box_new.row _)
 have HVF:=hyq hVF
 have HWF:=hyq hbF
 have hcar : Below VE.heap.size VE VF:=bch hb hnF
 have XB:=hyq (XB.out.on hcar)
 have RB:=hyq (RB.out.on hcar)
 have XC:=hyq (XC.out.on hcar)
 have RC:=hyq (RC.out.on hcar)
 have XD:=hyq (XD.out.on hcar)
 have RD:=hyq (RD.out.on hcar)
 have XE:=hyq (XE.out.on hcar)
 have HB:=hyq (bch HB.out hcar)
 clear hcar
 have p0:=XE.out.cell (k:=2) rfl
 have p1:=XF.out.cell (k:=1) rfl
 have p2:=XF.out.cell (k:=0) rfl
 clear hI hW hb hnF
 clear hVF hbF
 go_wp2_with (first | (refine wpList_store_row rfl 27 (.tmp 11) (.tmp 46) rfl w7.heap.size #[.slice a8 2 c8,.slice a9 0 c9,.int .i64 (-1)] rfl rfl 27 #[.slice none 0 0,.slice none 0 0,.int .i64 0] box_new (info27 _ _ _) rfl (darr_one _ _ _ _ _ _ _) ?_; rw [← HVF.out,← HWF.out]) | fail)
 go_ret
 exact ⟨rfl,HB.out⟩
end Go.Proofs.YtigopecainocgaaGreatDoor
namespace Go.Proofs.YtigopecainocgaaGreatDoor
open Go.ChangeShapes Go.WideShapes Go.ChangeAt Go.RowKit Go.Joins
theorem cells27 : Tryz.prog.cellsOf 27 = 3:=by kernel_rfl
noncomputable abbrev zeroDisk : Value:=.agg #[.slice none 0 0,.slice none 0 0,.int .i64 0]
abbrev zeroDiskD {H : Type} : DataW H:=.agg [.agg [.nil],.nil,.lit (.int .i64 0)]
theorem okWide_disk {r : Reach} {W : World} {b0 : Nat} {v : Value} (h : Value.okWide Tryz.prog W r b0 27 v) : ∃ cs : Array Value,v = .agg cs:=by
 simp only [Value.okWide,Tryz.underlying27] at h
 obtain ⟨cs,h1,_⟩:=h
 exact ⟨cs,h1⟩
end Go.Proofs.YtigopecainocgaaGreatDoor
