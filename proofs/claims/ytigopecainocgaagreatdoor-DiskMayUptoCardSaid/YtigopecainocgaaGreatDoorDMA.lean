/- Proved here: slices.Equal and Same of package tree. | What the last steps of the Tree laws share: what the rows' list gives (the root, and the shapes of operations), a world for the witnesses, and how trees and operations that came in are opened. | Proved here: Get of package tree at whatever path, and Do. | Pla -/
import Derived.Test.YtigopecainocgaaGreatDoorNA
import Derived.Test.YtigopecainocgaaGreatDoorOGrow
import Derived.Laws.StructEq
import Derived.Test.YtigopecainocgaaGreatDoorOMov0
import Derived.Test.YtigopecainocgaaGreatDoorOBusy
import Derived.Test.YtigopecainocgaaGreatDoorORun
import Derived.Test.YtigopecainocgaaGreatDoorCards
import Derived.Test.YtigopecainocgaaGreatDoorTie
import Derived.ProofKit
import Derived.OpenShut
import Derived.ShutString
import Derived.SizedLaws
import Derived.Lib.SmallJoins
import Derived.Lib.LaidTab
import Derived.Deep.DeepHandedRow
import Derived.LaidMore
import Derived.Lib.LaidU8
import Derived.Shelf.Vars
import Derived.Deep.Slices
import Derived.Deep.Strs
import Derived.Test.YtigopecainocgaaGreatDoorOMath4
import Derived.Maps.AppendAt
import Derived.Maps.OwnIn
import Derived.Laws.Tables
import Derived.Test.YtigopecainocgaaGreatDoorOBen
set_option maxRecDepth 100000
set_option maxHeartbeats 32000000
namespace Go.Proofs.YtigopecainocgaaGreatDoor
open Go.RowKit Go.Shelf
theorem neq35 (x y : It) (b : Bool) (hb : b = !decide (x = y)) (w : World) : (binOp .neq 59 (.agg #[.string ⟨x.path.toArray⟩,.int .i64 x.kind,.string ⟨x.data.toArray⟩]) (.agg #[.string ⟨y.path.toArray⟩,.int .i64 y.kind,.string ⟨y.data.toArray⟩])).run Tryz.prog w = .ok (.bool b) w:=by
 rw [run_neq_struct,eq35,hb]
 rfl
theorem guard35 : Tryz.prog.eqGuardType Tryz.prog.depth 59 = false:=by kernel_rfl
theorem list_ne {α : Type} {l m : List α} {k : Nat} {x y : α} (hx : l[k]? = some x) (hy : m[k]? = some y) (h : x ≠ y) : l ≠ m:=fun e => by
 subst e
 exact h (Option.some.inj (hx.symm.trans hy))
def EqR (b : Bool) (w : World) (e : Ending) (w' : World) : Prop:=e = .returned (.bool b) ∧ Below w.heap.size w w'
theorem equal_any (l m : List It) (v1 v2 : Value) (w : World) (h1 : RdI w v1 l) (h2 : RdI w v2 m) : Calls Tryz.prog 48 #[v1,v2] w (EqR (decide (l = m)) w):=by
 obtain ⟨a1,cap1,rfl,hlc1,hcm1,hc1⟩:=h1.open
 obtain ⟨a2,cap2,rfl,hlc2,hcm2,hc2⟩:=h2.open
 unfold maxLen at hcm1 hcm2
 by_cases hlen : l.length = m.length
 ·rw [← hlen] at hlc2 hc2 ⊢
  obtain ⟨n,hn⟩:=nmq (l.length)
  rw [← hn] at hlc1 hlc2 hc1 hc2
  rw [← hn]
  have HN:=hyq hn
  have HNM : Hid (n = m.length):=hyq (hn.trans hlen)
  have H1:=hyq hc1
  have H2:=hyq hc2
  clear hn hc1 hc2 hlen h1 h2
  have t0 : ((n : Int) == (n : Int)) = true:=by simp
  go_enter Tryz.func48,Tryz.ntmps48
  go_wp2
  go_loopw [5,13,14,15,16,17,18,19,20,21,22,23,24,25] (fun _ i _ _ _ _ _ _ _ _ _ _ _ _ wr => ∃ k : Nat,k ≤ n ∧ i = .int .i64 k ∧ Hid (∀ j,j < k → l[j]? = m[j]?) ∧ Below w.heap.size w wr) (fun _ i _ _ _ _ _ _ _ _ _ _ _ _ _ => n - (Lib.intOf i).toNat)
  case atStart => exact ⟨0,Nat.zero_le _,rfl,hyq (fun j h => by omega),Below.refl _ _⟩
  case round =>
   obtain ⟨k,hk,rfl,HE,hB⟩:=hrel
   by_cases hlt : k < n
   ·obtain ⟨p,hp⟩ : ∃ p,l[k]? = some p:=⟨_,List.getElem?_eq_getElem (by have:=HN.out; omega)⟩
    obtain ⟨q,hq⟩ : ∃ q,m[k]? = some q:=⟨_,List.getElem?_eq_getElem (by have:=HNM.out; omega)⟩
    obtain ⟨g1,o1,rfl,hg1,hc1⟩:=H1.out (by omega)
    obtain ⟨g2,o2,rfl,hg2,hc2⟩:=H2.out (by omega)
    obtain ⟨q0,q1,q2⟩:=hc1 k p hp
    obtain ⟨s0,s1,s2⟩:=hc2 k q hq
    have r0:=(hB.cell (p:=⟨g1,_,none⟩) hg1).trans q0
    have r1:=(hB.cell (p:=⟨g1,_,none⟩) hg1).trans q1
    have r2:=(hB.cell (p:=⟨g1,_,none⟩) hg1).trans q2
    have x0:=(hB.cell (p:=⟨g2,_,none⟩) hg2).trans s0
    have x1:=(hB.cell (p:=⟨g2,_,none⟩) hg2).trans s1
    have x2:=(hB.cell (p:=⟨g2,_,none⟩) hg2).trans s2
    have hgd:=guard35
    have HP:=hyq hp
    have HQ:=hyq hq
    clear q0 q1 q2 s0 s1 s2 hc1 hc2 hp hq
    by_cases hpq : p = q
    ·have hne:=neq35 p q false (by simp [hpq])
     have HE' : Hid (∀ j,j < k + 1 → l[j]? = m[j]?):=hyq (fun j hj => by
      by_cases e : j = k
      ·subst e; rw [HP.out,HQ.out,hpq]
      ·exact HE.out j (by omega))
     clear hpq
     go_wp2
     go_region
     go_wp2
     go_roundw
     case rel => exact ⟨k + 1,hlt,by go_num,HE',hB.drew⟩
     case measure => simp [Lib.intOf]; omega
    ·have hne:=neq35 p q true (by simp [hpq])
     have HD : Hid (decide (l = m) = false):=hyq (decide_eq_false (list_ne HP.out HQ.out hpq))
     clear hpq
     go_wp2
     go_region
     go_wp2
     go_ret
     exact ⟨by rw [HD.out]; rfl,hB.drew⟩
   ·have HD : Hid (decide (l = m) = true):=hyq (decide_eq_true (List.ext_getElem? fun j => by
     by_cases h : j < k
     ·exact HE.out j h
     ·rw [List.getElem?_eq_none (by have:=HN.out; omega),List.getElem?_eq_none (by have:=HNM.out; omega)]))
    go_wp2
    go_ret
    exact ⟨by rw [HD.out]; rfl,hB⟩
 ·have t0 : ((l.length : Int) == (m.length : Int)) = false:=by simpa using fun h => hlen (by omega)
  have HD : decide (l = m) = false:=decide_eq_false fun e => hlen (by rw [e])
  obtain ⟨n1,hn1⟩:=nmq (l.length)
  obtain ⟨n2,hn2⟩:=nmq (m.length)
  rw [← hn1,← hn2] at t0 ⊢
  rw [HD]
  clear hc1 hc2 h1 h2 hlen HD hlc1 hlc2 hn1 hn2
  have t1 : ¬ (n1 : Int) = (n2 : Int):=by simpa using t0
  go_enter Tryz.func48,Tryz.ntmps48
  go_wp2
  go_ret
  exact ⟨rfl,Below.refl _ _⟩
theorem same_any (l m : List It) (v1 v2 : Value) (w : World) (h1 : RdI w v1 l) (h2 : RdI w v2 m) : Calls Tryz.prog 26 #[.agg #[v1],.agg #[v2]] w (EqR (decide (l = m)) w):=by
 obtain ⟨w1,hw1⟩:=nmq ((w.alloc (.cells #[v1] 24)).alloc (.cells #[v2] 24))
 have X : Box w1 w.heap.size 24 #[v1]:=by rw [hw1]; exact box_new.alloc _
 have Y : Box w1 (w.heap.size + 1) 24 #[v2]:=by rw [hw1,show w.heap.size + 1 = (w.alloc (.cells #[v1] 24)).heap.size from by simp]; exact box_new
 have HB : Hid (Below w.heap.size w w1):=hyq (by rw [hw1]; exact bch (below_new _ _) (below_new _ _))
 have HE:=hyq (equal_any l m v1 v2 w1 (h1.on HB.out) (h2.on HB.out))
 obtain ⟨z,hz⟩:=nmq (decide (l = m))
 rw [← hz] at HE ⊢
 obtain ⟨a1,c1,rfl,_⟩:=h1.open
 obtain ⟨a2,c2,rfl,_⟩:=h2.open
 have c0:=X.cell (k:=0) rfl
 have d0:=Y.cell (k:=0) rfl
 clear hz h1 h2
 go_enter Tryz.func26,Tryz.ntmps26
 go_upto_region 1 with fail
 rw [← hw1]
 clear hw1 X Y
 go_wp2_with fail
 refine HE.out.mono ?_
 rintro e w2 ⟨rfl,hb⟩
 go_wp2_with fail
 go_ret
 exact ⟨rfl,bch HB.out hb⟩
theorem ownR_far {w w' : World} {B e s n : Nat} {v : Value} {xs : List Value} (h : w.ownsRow B e s v n xs) (hb : ∀ k,v.ownBlock = some k → w'.heap[k]? = w.heap[k]?) : w'.ownsRow B e s v n xs:=by
 obtain ⟨h1,hc⟩:=h
 rcases hc with h0 | ⟨g,c,cur,rfl,hB,hg,hr⟩
 ·exact ⟨h1,.inl h0⟩
 ·exact ⟨h1,.inr ⟨g,c,cur,rfl,hB,(hb g rfl).trans hg,hr⟩⟩
theorem ownR_form {w : World} {B e s n : Nat} {v : Value} {xs : List Value} (h : w.ownsRow B e s v n xs) : v.ownBlock = none ∨ ∃ b cs,v.ownBlock = some b ∧ B ≤ b ∧ w.heap[b]? = some (.cells cs e (0,0)):=by
 rcases h.2 with ⟨rfl,_⟩ | ⟨g,c,cur,rfl,hB,hg,_⟩
 ·exact .inl rfl
 ·exact .inr ⟨g,cur,rfl,hB,hg⟩
theorem ownR_blk {w : World} {B e s n : Nat} {v : Value} {xs : List Value} (h : w.ownsRow B e s v n xs) {k : Nat} (hk : v.ownBlock = some k) : B ≤ k ∧ ∃ cs,w.heap[k]? = some (.cells cs e (0,0)):=by
 rcases ownR_form h with q | ⟨b,cs,q,h1,h2⟩
 ·rw [q] at hk; cases hk
 ·rw [q] at hk; cases hk; exact ⟨h1,cs,h2⟩
theorem ownR_below {w w' : World} {B e s n : Nat} {v : Value} {xs : List Value} (h : w.ownsRow B e s v n xs) (hb : Below w.heap.size w w') : w'.ownsRow B e s v n xs :=
 ownR_far h fun k hk => by
  obtain ⟨_,cs,hc⟩:=ownR_blk h hk
  exact hb.block k (Array.getElem?_eq_some_iff.1 hc).1
theorem ownR_any {w : World} {B e s n : Nat} {v : Value} {xs : List Value} (h : w.ownsRow B e s v n xs) : ∃ a c,v = .slice a n c:=by
 rcases h.2 with ⟨rfl,rfl⟩ | ⟨g,c,cur,rfl,_⟩
 ·exact ⟨_,_,rfl⟩
 ·exact ⟨_,_,rfl⟩
end Go.Proofs.YtigopecainocgaaGreatDoor
namespace Go.Proofs.YtigopecainocgaaGreatDoor
open Go.ChangeShapes Go.WideShapes Go.ChangeAt Go.RowKit Go.Joins
open Go.ChangeMaps (open_string shut_string)
theorem own0 : ownKnob Tryz.prog.godebug = none:=by kernel_rfl
theorem laidOut : laidOutB Tryz.prog = true:=by kernel_rfl
theorem cells35 : Tryz.prog.cellsOf 59 = 3:=by kernel_rfl
theorem cells22 : Tryz.prog.cellsOf 22 = 1:=by kernel_rfl
theorem cells24 : Tryz.prog.cellsOf 24 = 1:=by kernel_rfl
theorem cells3 : Tryz.prog.cellsOf 3 = 1:=by kernel_rfl
theorem cells9 : Tryz.prog.cellsOf 9 = 1:=by kernel_rfl
theorem cells4 : Tryz.prog.cellsOf 4 = 1:=by kernel_rfl
theorem cells26 : Tryz.prog.cellsOf 46 = 4:=by kernel_rfl
theorem cells41 : Tryz.prog.cellsOf 25 = 1:=by kernel_rfl
theorem cells106 : Tryz.prog.cellsOf 97 = 3:=by kernel_rfl
theorem gTRoot : Tryz.prog.globalNamed "puncheon/tree.root" = some 0:=by kernel_rfl
theorem gShapes : Tryz.prog.globalNamed "puncheon/tree.shapes" = some 1:=by kernel_rfl
theorem gTRootType : (Tryz.prog.globals[0]?).map (·.type) = some 59:=by kernel_rfl
theorem gShapesType : (Tryz.prog.globals[1]?).map (·.type) = some 98:=by kernel_rfl
theorem root_read {H : Type} {b : It} (h : (.agg [.lit (.string [47]),.lit (.int .i64 1),.lit (.string [])] : DataW H) = .agg [.lit (.string b.path),.lit (.int .i64 b.kind),.lit (.string b.data)]) : b = ⟨[47],1,[]⟩:=by
 obtain ⟨p,k,d⟩:=b
 simp at h
 obtain ⟨rfl,rfl,rfl⟩:=h
 rfl
theorem list3 {α : Type} {l : List α} (h : l.length = 3) : ∃ a b c,l = [a,b,c]:=by
 match l,h with
 | [a,b,c],_ => exact ⟨a,b,c,rfl⟩
theorem ba_toArray (s : ByteArray) : (⟨s.data.toList.toArray⟩ : ByteArray) = s:=by cases s; rfl
theorem it_of {H : Type} {enc : TypeId × Value → H} {W : World} {base fuel : Nat} {hd : Bool} {cs : List Value} {d : DataW H} {p : List MemPlace} (h : DataW.trod enc Tryz.prog W base (fun _ => true) hd fuel 59 cs = some (d,p)) :
  ∃ b : It,cs = b.cells ∧ d = .agg [.lit (.string b.path),.lit (.int .i64 b.kind),.lit (.string b.data)]:=by
 obtain ⟨y0,y1,y2,n,hx,hl,t0,t1,t2⟩:=Go.Deep.trod_struct3 Tryz.underlying59 h
 rw [cells35] at hl
 rw [cells9] at t0 t2
 rw [cells3] at t1
 obtain ⟨s,e0,hy0,_⟩:=DataW.trod_string Tryz.underlying9 t0
 obtain ⟨m,e1,hy1,_⟩:=DataW.trod_int Tryz.underlying3 t1
 obtain ⟨z,e2,hy2,_⟩:=DataW.trod_string Tryz.underlying9 t2
 obtain ⟨q0,q1,q2,rfl⟩:=list3 hl
 simp at e0 e1 e2
 simp only [Prod.mk.injEq] at hx
 refine ⟨⟨s.data.toList,m,z.data.toList⟩,?_,?_⟩
 ·rw [e0,e1,e2]
  show _ = [Value.string ⟨s.data.toList.toArray⟩,_,Value.string ⟨z.data.toList.toArray⟩]
  rw [ba_toArray,ba_toArray]
 ·rw [hx.1,hy0,hy1,hy2]
theorem list4 {α : Type} {l : List α} (h : l.length = 4) : ∃ a b c d,l = [a,b,c,d]:=by
 match l,h with
 | [a,b,c,d],_ => exact ⟨a,b,c,d,rfl⟩
theorem sh_of {H : Type} {enc : TypeId × Value → H} {W : World} {base fuel : Nat} {hd : Bool} {cs : List Value} {b : Bool} {x y : Int} {p : List MemPlace} (h : DataW.trod enc Tryz.prog W base (fun _ => true) hd fuel 97 cs = some (.agg [.lit (.bool b),.lit (.int .i64 x),.lit (.int .i64 y)],p)) :
  cs = [.bool b,.int .i64 x,.int .i64 y]:=by
 obtain ⟨y0,y1,y2,n,hx,hl,t0,t1,t2⟩:=Go.Deep.trod_struct3 Tryz.underlying97 h
 rw [cells106] at hl
 rw [cells4] at t0
 rw [cells3] at t1 t2
 obtain ⟨s,e0,hy0⟩:=DataW.trod_bool Tryz.underlying4 t0
 obtain ⟨m,e1,hy1,_⟩:=DataW.trod_int Tryz.underlying3 t1
 obtain ⟨z,e2,hy2,_⟩:=DataW.trod_int Tryz.underlying3 t2
 obtain ⟨q0,q1,q2,rfl⟩:=list3 hl
 simp at e0 e1 e2
 simp only [Prod.mk.injEq] at hx
 obtain ⟨hd0,_⟩:=hx
 rw [hy0,hy1,hy2] at hd0
 simp at hd0
 obtain ⟨rfl,rfl,rfl⟩:=hd0
 rw [e0,e1,e2]
theorem mid_at {α : Type} (l : List α) (i r : Nat) (hr : r < 3) : ((l.drop (i * 3)).take 3)[r]? = l[i * 3 + r]?:=by
 rw [List.getElem?_take,if_pos hr,List.getElem?_drop]
theorem shapes_of {H : Type} {enc : TypeId × Value → H} {W : World} {base fuel : Nat} {hd : Bool} {cs : List Value} {p : List MemPlace} (h : DataW.trod enc Tryz.prog W base (fun _ => true) hd fuel 98 cs = some (Rows.laid_puncheon_tree_shapes,p)) (j : Nat) (v : Value) (hj : shapesL[j]? = some v) : cs[j]? = some v:=by
 have hj24 : j < 24:=(List.getElem?_eq_some_iff.1 hj).1
 obtain ⟨i,r,hr,rfl⟩ : ∃ i r,r < 3 ∧ j = i * 3 + r:=⟨j / 3,j % 3,by omega,by omega⟩
 have hi : i < 8:=by omega
 obtain ⟨f',d,q,hd',ht⟩:=Lib.array_elem Tryz.underlying98 h i hi
 rw [cells106] at ht
 have key : (cs.drop (i * 3)).take 3 = (shapesL.drop (i * 3)).take 3:=by
  have h8 : i = 0 ∨ i = 1 ∨ i = 2 ∨ i = 3 ∨ i = 4 ∨ i = 5 ∨ i = 6 ∨ i = 7:=by omega
  clear hj hj24 hi h
  rcases h8 with rfl | rfl | rfl | rfl | rfl | rfl | rfl | rfl
  all_goals
   obtain rfl:=Option.some.inj hd'
   exact (sh_of ht).trans rfl
 rw [← mid_at _ _ _ hr,key,mid_at _ _ _ hr]
 exact hj
theorem tabs {W : World} (h : laidMetH Tryz.prog Rows.diskSafeRow.laid W) (hsh : W.ShapedOpen Tryz.prog) : TabS W:=by
 obtain ⟨ps,⟨g1,t1,cs1,f1,p1,q1,hg1,ht1,hv1,hd1,⟨g2,t2,cs2,f2,p2,q2,hg2,ht2,hv2,hd2,_⟩,_⟩,_⟩:=h
 obtain rfl:=Option.some.inj (gTRoot.symm.trans hg1)
 obtain rfl:=Option.some.inj (gTRootType.symm.trans ht1)
 obtain rfl:=Option.some.inj (gShapes.symm.trans hg2)
 obtain rfl:=Option.some.inj (gShapesType.symm.trans ht2)
 have e1 : ∀ i,W.cell? ⟨0,i,none⟩ = cs1[i]?:=fun i => World.var?_cell gTRoot hv1 i
 have e2 : ∀ i,W.cell? ⟨1,i,none⟩ = cs2[i]?:=fun i => World.var?_cell gShapes hv2 i
 obtain ⟨b1,hc1,hb1⟩:=it_of hd1
 have r1 : b1 = ⟨[47],1,[]⟩:=root_read hb1
 subst r1
 have f1 : ∀ i,cs1[i]? = (It.cells ⟨[47],1,[]⟩)[i]?:=fun i => by rw [← Array.getElem?_toList,hc1]
 have l5 : 2 < W.heap.size:=by
  have hs : (((begin Tryz.prog (fun _ _ => 0) default).world.heap[2]?).bind Obj.row?).isSome = true:=by kernel_rfl
  obtain ⟨⟨zero,t⟩,hz⟩:=Option.isSome_iff_exists.1 hs
  obtain ⟨cs,hc,_⟩:=hsh.1 2 zero t (of_decide_eq_true (by kernel_rfl)) hz
  exact (Array.getElem?_eq_some_iff.1 hc).1
 exact ⟨⟨by rw [e1,f1]; rfl,by rw [e1,f1]; rfl,by rw [e1,f1]; rfl,Go.Proofs.cell_of_shapedOpen_int (zero:=#[.int .i64 0]) (t:=3) hsh (of_decide_eq_true (by kernel_rfl)) (by kernel_rfl) rfl (by kernel_rfl) (by kernel_rfl) Tryz.underlying3,by omega⟩,fun j v hj => by
  rw [e2,← Array.getElem?_toList]
  exact shapes_of hd2 j v hj⟩
theorem weights_all {H : Type} {P : Program} {e : TypeId} {d : DataW H} : ∀ {l : List (DataW H)},d ∈ l → ∀ n ∈ d.weights P e,n ∈ DataW.weightsAll P e l
 | d0 :: l,h,n,hn => by
  simp only [DataW.weightsAll,List.mem_append]
  rcases List.mem_cons.1 h with rfl | h
  ·exact .inl hn
  ·exact .inr (weights_all h n hn)
 | [],h,_,_ => by cases h
theorem op_of {H : Type} {enc : TypeId × Value → H} {W : World} {base fuel : Nat} {hd : Bool} {cs : List Value} {d : DataW H} {p : List MemPlace} (h : DataW.trod enc Tryz.prog W base (fun _ => true) hd fuel 46 cs = some (d,p)) :
  ∃ b : Opn,cs = b.cells ∧ d = .agg [.lit (.int .i64 b.kind),.lit (.string b.path),.lit (.string b.to),.lit (.string b.data)]:=by
 obtain ⟨y0,y1,y2,y3,n,hx,hl,t0,t1,t2,t3⟩:=trod_struct4 Tryz.underlying46 h
 rw [cells26] at hl
 rw [cells3] at t0
 rw [cells9] at t1 t2 t3
 obtain ⟨m,e0,hy0,_⟩:=DataW.trod_int Tryz.underlying3 t0
 obtain ⟨s,e1,hy1,_⟩:=DataW.trod_string Tryz.underlying9 t1
 obtain ⟨z,e2,hy2,_⟩:=DataW.trod_string Tryz.underlying9 t2
 obtain ⟨u,e3,hy3,_⟩:=DataW.trod_string Tryz.underlying9 t3
 obtain ⟨q0,q1,q2,q3,rfl⟩:=list4 hl
 simp at e0 e1 e2 e3
 simp only [Prod.mk.injEq] at hx
 refine ⟨⟨m,s.data.toList,z.data.toList,u.data.toList⟩,?_,?_⟩
 ·rw [e0,e1,e2,e3]
  show _ = [_,Value.string ⟨s.data.toList.toArray⟩,Value.string ⟨z.data.toList.toArray⟩,Value.string ⟨u.data.toList.toArray⟩]
  rw [ba_toArray,ba_toArray,ba_toArray]
 ·rw [hx.1,hy0,hy1,hy2,hy3]
def litV : DataW Unit → Value
 | .lit (.int k z) => .int k z
 | .lit (.bool b) => .bool b
 | .lit (.string s) => .string ⟨s.toArray⟩
 | _ => .nilFunc
def rowV : DataW Unit → List Value
 | .agg l => l.map litV
 | d => [litV d]
def tabV : DataW Unit → List Value
 | .agg l => l.flatMap rowV
 | _ => []
noncomputable def laidWorld (os : Os) : World :=
 let w0:=World.holding Tryz.prog os ⟨#[],#[],[]⟩
 let put (h : Array Obj) (g : Nat) (cs : List Value) : Array Obj:=h.modify g fun
  | .cells _ t frozen => .cells cs.toArray t frozen
  | o => o
 { w0 with heap:=put (put w0.heap 0 (tabV Rows.laid_puncheon_tree_root)) 1 (tabV Rows.laid_puncheon_tree_shapes) }
theorem laid_met (os : Os) (args : Array Value) : laidMet Tryz.prog Rows.diskSafeRow.laid ((laidWorld os).forCall (fun _ _ => 0) ⟨#[],args,[]⟩).memory :=
 laidMet_of_run' 8 (by kernel_rfl) (by kernel_rfl)
end Go.Proofs.YtigopecainocgaaGreatDoor
namespace Go.Proofs.YtigopecainocgaaGreatDoor
open Go.RowKit Go.Shelf
theorem own_row {W : World} {B b : Nat} {v : Value} {l : List It} {cs cs' : Array Value} (h : OwnI W B v l) (Z : Box W b 24 cs) : OwnI (W.setRow b cs') B v l :=
 ownR_far h fun k hk => setRow_other W b k _ (fun e => by
  subst e
  obtain ⟨_,c,hc⟩:=ownR_blk h hk
  rw [show W.heap[k]? = _ from Z] at hc
  cases hc)
theorem b24 : Tryz.prog.built 24 [] = some #[.slice none 0 0]:=by kernel_rfl
def getT (l : List It) (p : Str) : Option It:=if validT l = true then getI l p else none
theorem get_gen (l : List It) (v : Value) (p : Str) (w : World) (hv : RdI w v l) (hx : ∀ x ∈ l,x.path.length ≤ 140737488355328) (hp : p.length ≤ 140737488355328) (hT : Tabs w) :
  Calls Tryz.prog 28 #[.agg #[v],.string ⟨p.toArray⟩] w (GetR (getT l p) w):=by
 obtain ⟨w1,hw1⟩:=nmq ((w.alloc (.cells #[v] 24)).alloc (.cells #[.string ⟨#[]⟩,.int .i64 0,.string ⟨#[]⟩] 59))
 have X : Box w1 w.heap.size 24 #[v]:=by rw [hw1]; exact box_new.alloc _
 have X1 : Hid (Box w1 (w.heap.size + 1) 59 It.nil.arr):=hyq (by rw [hw1,show w.heap.size + 1 = (w.alloc (.cells #[v] 24)).heap.size from by simp]; exact box_new)
 have HB1 : Hid (Below w.heap.size w w1):=hyq (by rw [hw1]; exact bch (below_new _ _) (below_new _ _))
 obtain ⟨bb,hbb⟩:=nmq (validT l)
 have HVA:=hyq (tvalid_is l bb hbb v w1 (hv.on HB1.out) hx (hT.on HB1.out))
 have HV:=hyq (hv.on HB1.out)
 have HT:=hyq (hT.on HB1.out)
 have HX:=hyq hx
 have HBB:=hyq hbb
 obtain ⟨b4,hb4⟩:=nmq (w.heap.size + 1)
 rw [← hb4] at X1
 have H4 : Hid (w.heap.size ≤ b4):=hyq (by rw [hb4]; exact Nat.le_succ _)
 have HLT : Hid (w.heap.size < w1.heap.size):=hyq X.lt
 have c0:=X.cell (k:=0) rfl
 obtain ⟨a,c,rfl,_⟩:=hv.open
 have k0:=zeroI
 clear hv hT hx hbb X
 cases bb with
 | false =>
  have HN : Hid (getT l p = none):=hyq (by unfold getT; rw [← HBB.out]; rfl)
  go_enter Tryz.func28,Tryz.ntmps28
  go_upto_region 1 with fail
  rw [← hw1,← hb4]
  clear hw1 hb4
  go_wp2_with fail
  refine HVA.out.mono ?_
  rintro e w2 ⟨rfl,hb2⟩
  have HB2:=hyq (bch HB1.out hb2)
  have X2:=hyq (X1.out.on hb2)
  clear hb2 c0 X1 HVA
  go_wp2_with (refine wpList_store_row rfl 59 (.tmp 4) (.tmp 10) rfl b4 It.nil.arr rfl rfl 59 _ X2.out (info35 _) rfl (iarr_one _) ?_)
  exact bodyPost_ret (end_item rfl _ (X2.out.row _) rfl rfl) rfl ⟨by rw [HN.out]; rfl,below_row HB2.out H4.out _⟩
 | true =>
  have HOK : Hid (TreeOk l):=hyq (tree_ok HBB.out.symm)
  obtain ⟨o,ho⟩:=nmq (getT l p)
  have HG0 : Hid (o = getI l p):=hyq (by rw [ho]; unfold getT; rw [if_pos HBB.out.symm])
  rw [← ho]
  obtain ⟨y,hy⟩:=nmq (o.getD .nil)
  obtain ⟨is,his⟩:=nmq (o.isSome)
  have HE : Hid (∀ W',Below w.heap.size w W' → GetR o w (.returned (.tuple #[.agg y.arr,.bool is])) W'):=hyq (fun W' h => ⟨by rw [hy,his],h⟩)
  have HY:=hyq hy
  have HI:=hyq his
  clear ho hy his
  go_enter Tryz.func28,Tryz.ntmps28
  go_upto_region 1 with fail
  rw [← hw1,← hb4]
  clear hw1 hb4
  go_wp2_with fail
  refine HVA.out.mono ?_
  rintro e w2 ⟨rfl,hb2⟩
  have HB2:=hyq (bch HB1.out hb2)
  have c2:=(hb2.cell (p:=⟨w.heap.size,0,none⟩) HLT.out).trans c0
  have X2:=hyq (X1.out.on hb2)
  have HG : Hid (Calls Tryz.prog 49 #[.slice a l.length c,.string ⟨p.toArray⟩] w2 fun e w' => e = .returned (.tuple #[.agg y.arr,.bool is]) ∧ Below w2.heap.size w2 w'):=hyq (by
   have:=tget_gen l (.slice a l.length c) p w2 (srt_of HOK.out) HOK.out.many (HV.out.on hb2) HX.out hp (HT.out.on hb2)
   rw [← HG0.out] at this
   rw [HY.out,HI.out]
   exact this)
  clear hb2 c0 X1 HVA
  go_wp2_with fail
  refine HG.out.mono ?_
  rintro e w3 ⟨rfl,hb3⟩
  have X3:=hyq (X2.out.on hb3)
  have HB3:=hyq (bch HB2.out hb3)
  clear hb3 c2 HG
  go_wp2_with (refine wpList_store_row rfl 59 (.tmp 4) (.tmp 15) rfl b4 y.arr rfl rfl 59 _ X3.out (info35 _) rfl (iarr_one _) ?_)
  refine bodyPost_ret ?_ rfl (HE.out _ (below_row HB3.out H4.out _))
  exact end_item rfl _ (X3.out.row _) rfl rfl
theorem end_tree2 {fn : Func} {p q : Tmp} (h : fn.results = #[.cell p 24,.tmp q]) (tmps : Array Value) {w : World} {g : Nat} {v : Value} (X : Box w g 24 #[v]) (hp : tmps.getD p undef = .pointer (some ⟨g,0,none⟩)) {x : Value} (hq : tmps.getD q undef = x) :
  (results fn tmps).run Tryz.prog w = .ok (.tuple #[.agg #[v],x]) w:=by
 rw [← hq]
 exact results_two h tmps w g hp #[v] (run_loadVar_row _ g 24 24 #[v] (0,0) _ X Tryz.underlying24 rfl (info24 v))
end Go.Proofs.YtigopecainocgaaGreatDoor
namespace Go.Proofs.YtigopecainocgaaGreatDoor
end Go.Proofs.YtigopecainocgaaGreatDoor
namespace Go.Proofs.YtigopecainocgaaGreatDoor
open Go.RowKit Go.Shelf
theorem flatO_append (a b : List Opn) : flatO (a ++ b) = flatO a ++ flatO b:=List.flatMap_append
theorem ocells_len (v : Opn) : v.cells.length = 4:=rfl
theorem flatO_cons (v : Opn) (l : List Opn) : flatO (v :: l) = v.cells ++ flatO l:=rfl
theorem flatO_len (l : List Opn) : (flatO l).length = l.length * 4:=by
 induction l with
 | nil => rfl
 | cons v l ih => rw [flatO_cons,List.length_append,ih,List.length_cons,ocells_len]; omega
theorem op_one (v : Opn) : ∀ u ∈ v.cells,u.oneCell' = true:=by
 intro u hu
 simp [Opn.cells] at hu
 rcases hu with rfl | rfl | rfl | rfl <;> rfl
theorem flatO_one (l : List Opn) : ∀ u ∈ flatO l,u.oneCell' = true:=by
 intro u hu
 obtain ⟨v,_,hv⟩:=List.mem_flatMap.1 hu
 exact op_one v u hv
theorem flatO_take (l : List Opn) (k : Nat) : flatO (l.take k) = (flatO l).take (k * 4):=by
 induction l generalizing k with
 | nil => simp [flatO]
 | cons v l ih =>
  cases k with
  | zero => simp [flatO]
  | succ k =>
   rw [List.take_succ_cons,flatO_cons,flatO_cons,ih,show (k + 1) * 4 = v.cells.length + k * 4 by rw [ocells_len]; omega,List.take_append,Nat.add_sub_cancel_left,List.take_of_length_le (l:=v.cells) (by omega)]
def Opn.zero : Opn:=⟨0,[],[],[]⟩
def OwnO (w : World) (B : Nat) (v : Value) (l : List Opn) : Prop:=w.ownsRow B 46 4 v l.length (flatO l)
theorem OwnO.rd {w : World} {B : Nat} {v : Value} {l : List Opn} (h : OwnO w B v l) : RdO w v l:=RdF.of_own h
theorem OwnO.on {w w' : World} {B : Nat} {v : Value} {l : List Opn} (h : OwnO w B v l) (hb : Below w.heap.size w w') : OwnO w' B v l:=ownR_below h hb
theorem OwnO.far {w w' : World} {B : Nat} {v : Value} {l : List Opn} (h : OwnO w B v l) (hb : ∀ k,v.ownBlock = some k → w'.heap[k]? = w.heap[k]?) : OwnO w' B v l:=ownR_far h hb
theorem OwnO.any {w : World} {B : Nat} {v : Value} {l : List Opn} (h : OwnO w B v l) : ∃ a c,v = .slice a l.length c:=ownR_any h
theorem OwnO.base {w : World} {B B' : Nat} {v : Value} {l : List Opn} (h : OwnO w B v l) (hb : B' ≤ B) : OwnO w B' v l:=own_base h hb
theorem RdO.on {w w' : World} {x : Value} {l : List Opn} (h : RdO w x l) (hb : Below w.heap.size w w') : RdO w' x l:=RdF.on h hb
theorem RdO.nil (w : World) : RdO w (.slice none 0 0) []:=RdF.nil w
theorem RdO.take {w : World} {a : Option Addr} {n c : Nat} {l : List Opn} (hn : n = l.length) (h : RdO w (.slice a n c) l) (q : Nat) (hq : q ≤ n) : RdO w (.slice a q c) (l.take q):=by
 obtain ⟨a',c',e,h1,h2,h3⟩:=h
 cases e
 have el : (l.take q).length = q:=by rw [List.length_take]; omega
 unfold RdO
 rw [el]
 refine ⟨a,c,rfl,by omega,h2,fun h0 => ?_⟩
 obtain ⟨g,o,e,hg,hc⟩:=h3 (by omega)
 refine ⟨g,o,e,hg,fun j u hj => hc j u ?_⟩
 rw [flatO_take] at hj
 rw [List.getElem?_take] at hj
 split at hj
 ·exact hj
 ·cases hj
theorem info46a {a b c d : Value} : (Tryz.prog.info? 46).map (·.size) = some (#[a,b,c,d] : Array Value).size:=by
 show _ = some 4
 kernel_rfl
theorem info46z : (Tryz.prog.info? 46).map (fun i => (i.zero,i.size,i.bytes)) = some (some (.agg Opn.zero.arr),4,56):=by kernel_rfl
theorem cloneO_any (l : List Opn) (x : Value) (w : World) (hx : RdO w x l) (hl : l.length ≤ 1000000) :
  Calls Tryz.prog 42 #[x] w fun e w' => ∃ x',e = .returned x' ∧ OwnO w' w.heap.size x' l ∧ Below w.heap.size w w':=by
 obtain ⟨a,cap,rfl,hlc,hcm,hcell⟩:=id hx
 obtain ⟨i0,hi,hz0,hz1,hz2⟩:=info_parts info46z
 have q33 : ∀ (w : World) (a : Option Addr) (n c n' c' : Nat),(binOp .eql 25 (.slice a n c) (.slice none n' c')).run Tryz.prog w = .ok (.bool a.isNone) w:=fun w a n c n' c' => Lib.run_eql_slice_nil w _ _ a n c n' c' Tryz.underlying25
 cases a with
 | none =>
  have h0 : l.length = 0:=by
   rcases Nat.eq_zero_or_pos l.length with h | h
   ·exact h
   ·obtain ⟨g,o,e,_⟩:=hcell h; cases e
  have : l = []:=List.eq_nil_of_length_eq_zero h0
  subst this
  clear hcell hx
  go_enter Tryz.func42,Tryz.ntmps42
  go_wp2
  go_ret
  exact ⟨_,rfl,World.ownsRow_nil _ _ _ _,Below.refl _ _⟩
 | some ad =>
  have hnews : ∀ (j : Nat) (u : Value),(flatO l)[j]? = some u → (w.alloc (.cells #[] 46)).cell? (ad.add j) = some u:=fun j u hu => by
   have h0 : 0 < l.length:=by
    have:=(List.getElem?_eq_some_iff.1 hu).1
    rw [flatO_len] at this
    omega
   obtain ⟨g,o,e,hg,hc⟩:=hcell h0
   cases e
   rw [add_to]
   exact Lib.cell?_alloc_some _ (hc j u hu)
  have FIN : Hid (∀ v' (w' : World),w'.ownsRow w.heap.size 46 4 v' l.length (flatO l) → OwnO w' w.heap.size v' l):=hyq fun v' w' h => h
  obtain ⟨n,hn⟩:=nmq (l.length)
  have hfl:=flatO_len l
  rw [← hn] at hfl hl hlc FIN
  rw [← hn]
  have HFL:=hyq hfl
  have HNW:=hyq hnews
  clear hcell hx hn hfl hnews
  go_enter Tryz.func42,Tryz.ntmps42
  go_wp2_with (at_builtin; refine wpList_append_own _ rfl _ _ 25 rfl w.heap.size 46 i0 (.agg Opn.zero.arr) 4 56 Tryz.underlying25 hi hz0 hz1 hz2 rfl (by decide) _ _ _ rfl (World.ownsRow_made w #[] 0 (Nat.le_refl _) (Nat.zero_le _) rfl) ad n cap (flatO l) rfl HFL.out HNW.out (flatO_one l) (by unfold maxLen; omega) (by omega) (by simp) ?_)
  intro v' w1 hown hgrow _
  go_wp2
  go_ret
  refine ⟨v',rfl,FIN.out v' w1 (by simpa using hown),?_⟩
  exact ((Below.refl _ w).alloc (Nat.le_refl _) _).grown hgrow (by simp) (by intro k hk; simp [Value.ownBlock] at hk; omega)
/-! ### == of operations -/
instance : DecidableEq Opn:=fun a b => decidable_of_iff _ (show (a.kind = b.kind ∧ a.path = b.path ∧ a.to = b.to ∧ a.data = b.data) ↔ a = b by cases a; cases b; simp [Opn.mk.injEq])
theorem op_eq (a b : Opn) : a = b ↔ a.kind = b.kind ∧ a.path = b.path ∧ a.to = b.to ∧ a.data = b.data:=by
 cases a
 cases b
 simp [Opn.mk.injEq]
theorem eq46 (a b : Opn) (w : World) : (Op.equalIn 10000 46 (.agg #[.int .i64 a.kind,.string ⟨a.path.toArray⟩,.string ⟨a.to.toArray⟩,.string ⟨a.data.toArray⟩]) (.agg #[.int .i64 b.kind,.string ⟨b.path.toArray⟩,.string ⟨b.to.toArray⟩,.string ⟨b.data.toArray⟩])).run Tryz.prog w = .ok (decide (a = b)) w:=by
 have u3:=Tryz.underlying3
 have a3:=Tryz.isAgg3
 have z3:=Tryz.sizeOf3
 have u9:=Tryz.underlying9
 have a9:=Tryz.isAgg9
 have z9:=Tryz.sizeOf9
 have hS : Tryz.prog.underlying 46 = some (.struct (Tryz.prog.fieldsOf 46)):=by kernel_rfl
 have hp : Tryz.prog.stoodInHeld 46 = false:=by kernel_rfl
 have hv:=op_eq a b
 rw [show (10000 : Nat) = 9999 + 1 from rfl,run_equalIn_agg w 9999 46 _ _ hS hp]
 simp only [Program.fieldsOf,Tryz.underlying46]
 go_simp
 clear u3 a3 z3 u9 a9 z9 hS hp
 by_cases h0 : a.kind = b.kind <;> by_cases h1 : a.path = b.path <;> by_cases h2 : a.to = b.to <;> by_cases h3 : a.data = b.data <;> simp [h0,h1,h2,h3]
theorem neq46 (x y : Opn) (b : Bool) (hb : b = !decide (x = y)) (w : World) : (binOp .neq 46 (.agg #[.int .i64 x.kind,.string ⟨x.path.toArray⟩,.string ⟨x.to.toArray⟩,.string ⟨x.data.toArray⟩]) (.agg #[.int .i64 y.kind,.string ⟨y.path.toArray⟩,.string ⟨y.to.toArray⟩,.string ⟨y.data.toArray⟩])).run Tryz.prog w = .ok (.bool b) w:=by
 rw [run_neq_struct,eq46,hb]
 rfl
theorem guard46 : Tryz.prog.eqGuardType Tryz.prog.depth 46 = false:=by kernel_rfl
theorem equalO_any (l m : List Opn) (v1 v2 : Value) (w : World) (h1 : RdO w v1 l) (h2 : RdO w v2 m) : Calls Tryz.prog 38 #[v1,v2] w (EqR (decide (l = m)) w):=by
 obtain ⟨a1,cap1,rfl,hlc1,hcm1,hc1⟩:=h1.open
 obtain ⟨a2,cap2,rfl,hlc2,hcm2,hc2⟩:=h2.open
 unfold maxLen at hcm1 hcm2
 by_cases hlen : l.length = m.length
 ·rw [← hlen] at hlc2 hc2 ⊢
  obtain ⟨n,hn⟩:=nmq (l.length)
  rw [← hn] at hlc1 hlc2 hc1 hc2
  rw [← hn]
  have HN:=hyq hn
  have HNM : Hid (n = m.length):=hyq (hn.trans hlen)
  have H1:=hyq hc1
  have H2:=hyq hc2
  clear hn hc1 hc2 hlen h1 h2
  have t0 : ((n : Int) == (n : Int)) = true:=by simp
  go_enter Tryz.func38,Tryz.ntmps38
  go_wp2
  go_loopw [5,13,14,15,16,17,18,19,20,21,22,23,24,25] (fun _ i _ _ _ _ _ _ _ _ _ _ _ _ wr => ∃ k : Nat,k ≤ n ∧ i = .int .i64 k ∧ Hid (∀ j,j < k → l[j]? = m[j]?) ∧ Below w.heap.size w wr) (fun _ i _ _ _ _ _ _ _ _ _ _ _ _ _ => n - (Lib.intOf i).toNat)
  case atStart => exact ⟨0,Nat.zero_le _,rfl,hyq (fun j h => by omega),Below.refl _ _⟩
  case round =>
   obtain ⟨k,hk,rfl,HE,hB⟩:=hrel
   by_cases hlt : k < n
   ·obtain ⟨p,hp⟩ : ∃ p,l[k]? = some p:=⟨_,List.getElem?_eq_getElem (by have:=HN.out; omega)⟩
    obtain ⟨q,hq⟩ : ∃ q,m[k]? = some q:=⟨_,List.getElem?_eq_getElem (by have:=HNM.out; omega)⟩
    obtain ⟨g1,o1,rfl,hg1,hc1⟩:=H1.out (by omega)
    obtain ⟨g2,o2,rfl,hg2,hc2⟩:=H2.out (by omega)
    obtain ⟨q0,q1,q2,q3⟩:=hc1 k p hp
    obtain ⟨s0,s1,s2,s3⟩:=hc2 k q hq
    have r0:=(hB.cell (p:=⟨g1,_,none⟩) hg1).trans q0
    have r1:=(hB.cell (p:=⟨g1,_,none⟩) hg1).trans q1
    have r2:=(hB.cell (p:=⟨g1,_,none⟩) hg1).trans q2
    have r3:=(hB.cell (p:=⟨g1,_,none⟩) hg1).trans q3
    have x0:=(hB.cell (p:=⟨g2,_,none⟩) hg2).trans s0
    have x1:=(hB.cell (p:=⟨g2,_,none⟩) hg2).trans s1
    have x2:=(hB.cell (p:=⟨g2,_,none⟩) hg2).trans s2
    have x3:=(hB.cell (p:=⟨g2,_,none⟩) hg2).trans s3
    have hgd:=guard46
    have HP:=hyq hp
    have HQ:=hyq hq
    clear q0 q1 q2 q3 s0 s1 s2 s3 hc1 hc2 hp hq
    by_cases hpq : p = q
    ·have hne:=neq46 p q false (by simp [hpq])
     have HE' : Hid (∀ j,j < k + 1 → l[j]? = m[j]?):=hyq (fun j hj => by
      by_cases e : j = k
      ·subst e; rw [HP.out,HQ.out,hpq]
      ·exact HE.out j (by omega))
     clear hpq
     go_wp2
     go_region
     go_wp2
     go_roundw
     case rel => exact ⟨k + 1,hlt,by go_num,HE',hB.drew⟩
     case measure => simp [Lib.intOf]; omega
    ·have hne:=neq46 p q true (by simp [hpq])
     have HD : Hid (decide (l = m) = false):=hyq (decide_eq_false (list_ne HP.out HQ.out hpq))
     clear hpq
     go_wp2
     go_region
     go_wp2
     go_ret
     exact ⟨by rw [HD.out]; rfl,hB.drew⟩
   ·have HD : Hid (decide (l = m) = true):=hyq (decide_eq_true (List.ext_getElem? fun j => by
     by_cases h : j < k
     ·exact HE.out j h
     ·rw [List.getElem?_eq_none (by have:=HN.out; omega),List.getElem?_eq_none (by have:=HNM.out; omega)]))
    go_wp2
    go_ret
    exact ⟨by rw [HD.out]; rfl,hB⟩
 ·have t0 : ((l.length : Int) == (m.length : Int)) = false:=by simpa using fun h => hlen (by omega)
  have HD : decide (l = m) = false:=decide_eq_false fun e => hlen (by rw [e])
  obtain ⟨n1,hn1⟩:=nmq (l.length)
  obtain ⟨n2,hn2⟩:=nmq (m.length)
  rw [← hn1,← hn2] at t0 ⊢
  rw [HD]
  clear hc1 hc2 h1 h2 hlen HD hlc1 hlc2 hn1 hn2
  have t1 : ¬ (n1 : Int) = (n2 : Int):=by simpa using t0
  go_enter Tryz.func38,Tryz.ntmps38
  go_wp2
  go_ret
  exact ⟨rfl,Below.refl _ _⟩
end Go.Proofs.YtigopecainocgaaGreatDoor
namespace Go.Proofs.YtigopecainocgaaGreatDoor
structure Dsk where
 safe : List It
 wait : List Opn
 room : Int
def needsB (o : Opn) : Bool:=decide (o.kind = 1 ∨ o.kind = 2 ∨ o.kind = 3 ∨ o.kind = 4)
def takesM (room : Int) (o : Opn) (free : Bool) : Int:=if room ≠ -1 ∧ needsB o = true ∧ free = false then room - 1 else room
def refM (len : Nat) (room : Int) (o : Opn) (free : Bool) : Int:=if len = 8000 then 6 else if room = 0 ∧ needsB o = true ∧ free = false then 181 else 0
def goD (free : Bool) (fine : Nat) (fault : Int) : Nat → Nat → Int → List Opn → Int × Nat × Int
 | _,_,room,[] => (room,0,0)
 | n,len,room,o :: r =>
  if refM len room o free ≠ 0 then (room,0,refM len room o free)
  else if n = fine ∧ fault ≠ 0 then (room,0,fault)
  else ((goD free fine fault (n + 1) (len + 1) (takesM room o free) r).1,(goD free fine fault (n + 1) (len + 1) (takesM room o free) r).2.1 + 1,(goD free fine fault (n + 1) (len + 1) (takesM room o free) r).2.2)
def drun (free : Bool) : List It → Nat → Int → List Opn → Int × Nat × Int
 | _,_,room,[] => (room,0,0)
 | now,len,room,o :: r =>
  if refM len room o free ≠ 0 then (room,0,refM len room o free)
  else match actM now o with
   | .error e => (room,0,e)
   | .ok now' => ((drun free now' (len + 1) (takesM room o free) r).1,(drun free now' (len + 1) (takesM room o free) r).2.1 + 1,(drun free now' (len + 1) (takesM room o free) r).2.2)
theorem go_drun (free : Bool) (now : List It) (len n : Nat) (room : Int) (ops : List Opn) (hl : len ≤ 8000) :
  goD free ((runM now (ops.take (8000 - len))).2.1 + n) (runM now (ops.take (8000 - len))).2.2 n len room ops = drun free now len room ops:=by
 induction ops generalizing now len n room with
 | nil => rfl
 | cons o r ih =>
  rw [goD,drun]
  by_cases hr : refM len room o free = 0
  ·have hlen : len < 8000:=by
    unfold refM at hr
    split at hr
    ·omega
    ·omega
   have hne : ¬ refM len room o free ≠ 0:=by simpa using hr
   rw [if_neg hne,if_neg hne]
   obtain ⟨j,hj⟩ : ∃ j,8000 - len = j + 1:=⟨8000 - len - 1,by omega⟩
   have hj' : 8000 - (len + 1) = j:=by omega
   rw [hj,List.take_succ_cons]
   cases e : actM now o with
   | error k =>
    rw [run_no e]
    simp only
    rw [if_pos ⟨by omega,act_err e⟩]
   | ok l' =>
    rw [run_yes e]
    simp only
    rw [if_neg (by omega)]
    have:=ih l' (len + 1) (n + 1) (takesM room o free) (by omega)
    rw [hj'] at this
    rw [show (runM l' (List.take j r)).2.1 + 1 + n = (runM l' (List.take j r)).2.1 + (n + 1) by omega,this]
  ·have hne : refM len room o free ≠ 0:=hr
   rw [if_pos hne,if_pos hne]
def nowM (d : Dsk) : Option (List It) :=
 if 8000 < d.wait.length ∨ d.room < -1 then none
 else if validT d.safe = true ∧ (runM d.safe d.wait).2.2 = 0 then some (runM d.safe d.wait).1 else none
theorem now_some {d : Dsk} {t : List It} (h : nowM d = some t) : d.wait.length ≤ 8000 ∧ -1 ≤ d.room ∧ validT d.safe = true ∧ (runM d.safe d.wait).2.2 = 0 ∧ (runM d.safe d.wait).1 = t:=by
 unfold nowM at h
 split at h
 ·cases h
 ·split at h
  ·rename_i h1 h2
   injection h with h
   exact ⟨by omega,by omega,h2.1,h2.2,h⟩
  ·cases h
theorem now_of {d : Dsk} (h1 : d.wait.length ≤ 8000) (h2 : -1 ≤ d.room) (h3 : validT d.safe = true) (h4 : (runM d.safe d.wait).2.2 = 0) : nowM d = some (runM d.safe d.wait).1:=by
 unfold nowM
 rw [if_neg (by omega),if_pos ⟨h3,h4⟩]
theorem now_valid {d : Dsk} {t : List It} (h : nowM d = some t) : validT t = true:=by
 obtain ⟨_,_,h3,_,h5⟩:=now_some h
 rw [← h5]
 exact ok_tree (run_ok' (tree_ok h3) d.wait)
def freshM (l : List It) : Dsk:=⟨l,[],-1⟩
def behindM (d : Dsk) (ops : List Opn) (x : Int × Nat × Int) : Dsk:=⟨d.safe,d.wait ++ ops.take x.2.1,x.1⟩
def runD (d : Dsk) (ops : List Opn) (free : Bool) : Dsk × Nat × Int:=match nowM d with
 | none => (⟨[],[],0⟩,0,180)
 | some t => (behindM d ops (drun free t d.wait.length d.room ops),(drun free t d.wait.length d.room ops).2.1,(drun free t d.wait.length d.room ops).2.2)
theorem takes_ge {room : Int} {len : Nat} {o : Opn} {free : Bool} (h : -1 ≤ room) (hr : refM len room o free = 0) : -1 ≤ takesM room o free:=by
 unfold takesM
 split
 ·rename_i h1
  unfold refM at hr
  split at hr
  ·omega
  ·split at hr
   ·omega
   ·rename_i h2
    have : room ≠ 0:=fun e => h2 ⟨e,h1.2⟩
    omega
 ·exact h
/-! ### By parts,and the room -/
/-! ### What a fall leaves -/
def partB (o : Opn) : Bool:=decide (o.kind = 2 ∨ o.kind = 3)
def lessO (o : Opn) (cut : Nat) : Opn:=⟨o.kind,o.path,o.to,o.data.take cut⟩
def keptM (wait : List Opn) (keep cut : Nat) : List Opn:=match wait[keep]? with
 | none => wait.take keep
 | some o => if cut = 0 ∨ partB o = false then wait.take keep else wait.take keep ++ [lessO o cut]
end Go.Proofs.YtigopecainocgaaGreatDoor
namespace Go.Proofs.YtigopecainocgaaGreatDoor
open Go.RowKit Go.Shelf
theorem info27 (a v r : Value) : (Tryz.prog.info? 27).map (·.size) = some (#[a,v,r] : Array Value).size:=by
 show _ = some 3
 kernel_rfl
theorem darr_one (ia : Option Addr) (i c : Nat) (wa : Option Addr) (n d : Nat) (r : Int) : (#[Value.slice ia i c,.slice wa n d,.int .i64 r] : Array Value).all (·.oneCell') = true:=by simp [Value.oneCell']
theorem end_disk {fn : Func} {p : Tmp} (h : fn.results = #[.cell p 27]) (tmps : Array Value) {w : World} {g : Nat} {a v r : Value} (X : Box w g 27 #[a,v,r]) (hp : tmps.getD p undef = .pointer (some ⟨g,0,none⟩)) :
  (results fn tmps).run Tryz.prog w = .ok (.agg #[a,v,r]) w :=
 results_cell_row h tmps w g 27 #[a,v,r] (0,0) _ hp X Tryz.underlying27 rfl (info27 a v r)
theorem end_disk2 {fn : Func} {p q : Tmp} (h : fn.results = #[.cell p 27,.tmp q]) (tmps : Array Value) {w : World} {g : Nat} {a v r : Value} (X : Box w g 27 #[a,v,r]) (hp : tmps.getD p undef = .pointer (some ⟨g,0,none⟩)) {x : Value} (hq : tmps.getD q undef = x) :
  (results fn tmps).run Tryz.prog w = .ok (.tuple #[.agg #[a,v,r],x]) w:=by
 rw [← hq]
 exact results_two h tmps w g hp #[a,v,r] (run_loadVar_row _ g 27 27 #[a,v,r] (0,0) _ X Tryz.underlying27 rfl (info27 a v r))
theorem end_disk3 {fn : Func} {p q r : Tmp} (h : fn.results = #[.cell p 27,.tmp q,.tmp r]) (tmps : Array Value) {w : World} {g : Nat} {a v z : Value} (X : Box w g 27 #[a,v,z]) (hp : tmps.getD p undef = .pointer (some ⟨g,0,none⟩)) {x y : Value} (hq : tmps.getD q undef = x) (hr : tmps.getD r undef = y) :
  (results fn tmps).run Tryz.prog w = .ok (.tuple #[.agg #[a,v,z],x,y]) w:=by
 rw [← hq,← hr]
 exact results_three h tmps w g hp #[a,v,z] (run_loadVar_row _ g 27 27 #[a,v,z] (0,0) _ X Tryz.underlying27 rfl (info27 a v z))
theorem needs_is (o : Opn) (b : Bool) (hb : needsB o = b) (w : World) : Calls Tryz.prog 19 #[.agg o.arr] w (EqR b w):=by
 obtain ⟨w1,hw1⟩:=nmq (w.alloc (.cells o.arr 46))
 obtain ⟨bo,hbo⟩:=nmq (w.heap.size)
 have X1 : Hid (Box w1 bo 46 o.arr):=hyq (by rw [hw1,hbo]; exact box_new)
 have HB0 : Hid (Below w.heap.size w w1):=hyq (by rw [hw1]; exact below_new _ _)
 have m0 : w1.cell? ⟨bo,0,none⟩ = some (.int .i64 o.kind):=X1.out.cell (k:=0) rfl
 obtain ⟨k,hk⟩:=nmq (o.kind)
 have hnb : b = decide (k = 1 ∨ k = 2 ∨ k = 3 ∨ k = 4):=by rw [← hb,hk]; rfl
 rw [← hk] at m0
 clear hb hk
 by_cases hk1 : k = 1
 ·subst hk1
  obtain rfl : b = true:=by rw [hnb]; decide
  clear hnb
  go_enter Tryz.func19,Tryz.ntmps19
  go_upto_region 1 with fail
  rw [← hw1,← hbo]
  clear hw1 hbo
  go_wp2_with fail
  go_ret
  exact ⟨rfl,HB0.out⟩
 by_cases hk2 : k = 2
 ·subst hk2
  obtain rfl : b = true:=by rw [hnb]; decide
  clear hnb hk1
  go_enter Tryz.func19,Tryz.ntmps19
  go_upto_region 1 with fail
  rw [← hw1,← hbo]
  clear hw1 hbo
  go_wp2_with fail
  go_ret
  exact ⟨rfl,HB0.out⟩
 by_cases hk3 : k = 3
 ·subst hk3
  obtain rfl : b = true:=by rw [hnb]; decide
  clear hnb hk1 hk2
  go_enter Tryz.func19,Tryz.ntmps19
  go_upto_region 1 with fail
  rw [← hw1,← hbo]
  clear hw1 hbo
  go_wp2_with fail
  go_ret
  exact ⟨rfl,HB0.out⟩
 by_cases hk4 : k = 4
 ·subst hk4
  obtain rfl : b = true:=by rw [hnb]; decide
  clear hnb hk1 hk2 hk3
  go_enter Tryz.func19,Tryz.ntmps19
  go_upto_region 1 with fail
  rw [← hw1,← hbo]
  clear hw1 hbo
  go_wp2_with fail
  go_ret
  exact ⟨rfl,HB0.out⟩
 obtain rfl : b = false:=by rw [hnb]; exact decide_eq_false (by omega)
 have t1 : (k == 1) = false:=by simpa using hk1
 have t2 : (k == 2) = false:=by simpa using hk2
 have t3 : (k == 3) = false:=by simpa using hk3
 have t4 : (k == 4) = false:=by simpa using hk4
 clear hnb
 go_enter Tryz.func19,Tryz.ntmps19
 go_upto_region 1 with fail
 rw [← hw1,← hbo]
 clear hw1 hbo
 go_wp2_with fail
 go_ret
 exact ⟨rfl,HB0.out⟩
theorem parts_is (o : Opn) (b : Bool) (hb : partB o = b) (w : World) : Calls Tryz.prog 59 #[.agg o.arr] w (EqR b w):=by
 obtain ⟨w1,hw1⟩:=nmq (w.alloc (.cells o.arr 46))
 obtain ⟨bo,hbo⟩:=nmq (w.heap.size)
 have X1 : Hid (Box w1 bo 46 o.arr):=hyq (by rw [hw1,hbo]; exact box_new)
 have HB0 : Hid (Below w.heap.size w w1):=hyq (by rw [hw1]; exact below_new _ _)
 have m0 : w1.cell? ⟨bo,0,none⟩ = some (.int .i64 o.kind):=X1.out.cell (k:=0) rfl
 obtain ⟨k,hk⟩:=nmq (o.kind)
 have hnb : b = decide (k = 2 ∨ k = 3):=by rw [← hb,hk]; rfl
 rw [← hk] at m0
 clear hb hk
 by_cases hk2 : k = 2
 ·subst hk2
  obtain rfl : b = true:=by rw [hnb]; decide
  clear hnb
  go_enter Tryz.func59,Tryz.ntmps59
  go_upto_region 1 with fail
  rw [← hw1,← hbo]
  clear hw1 hbo
  go_wp2_with fail
  go_ret
  exact ⟨rfl,HB0.out⟩
 by_cases hk3 : k = 3
 ·subst hk3
  obtain rfl : b = true:=by rw [hnb]; decide
  clear hnb hk2
  go_enter Tryz.func59,Tryz.ntmps59
  go_upto_region 1 with fail
  rw [← hw1,← hbo]
  clear hw1 hbo
  go_wp2_with fail
  go_ret
  exact ⟨rfl,HB0.out⟩
 obtain rfl : b = false:=by rw [hnb]; exact decide_eq_false (by omega)
 have t2 : (k == 2) = false:=by simpa using hk2
 have t3 : (k == 3) = false:=by simpa using hk3
 clear hnb
 go_enter Tryz.func59,Tryz.ntmps59
 go_upto_region 1 with fail
 rw [← hw1,← hbo]
 clear hw1 hbo
 go_wp2_with fail
 go_ret
 exact ⟨rfl,HB0.out⟩
def NumR (c : Int) (w : World) (e : Ending) (w' : World) : Prop:=e = .returned (.int .i64 c) ∧ Below w.heap.size w w'
theorem refusal_is (iv : Value) (wa : Option Addr) (wn wc : Nat) (room : Int) (o : Opn) (free : Bool) (er : Int) (he : refM wn room o free = er) (w : World) :
  Calls Tryz.prog 82 #[.agg #[iv,.slice wa wn wc,.int .i64 room],.agg o.arr,.bool free] w (NumR er w):=by
 obtain ⟨w1,hw1⟩:=nmq ((w.alloc (.cells #[iv,.slice wa wn wc,.int .i64 room] 27)).alloc (.cells o.arr 46))
 obtain ⟨bd,hbd⟩:=nmq (w.heap.size)
 have X0 : Hid (Box w1 bd 27 #[iv,.slice wa wn wc,.int .i64 room]):=hyq (by rw [hw1,hbd]; exact box_new.alloc _)
 have X1 : Hid (Box w1 (bd + 1) 46 o.arr):=hyq (by rw [hw1,hbd,show w.heap.size + 1 = (w.alloc (.cells #[iv,.slice wa wn wc,.int .i64 room] 27)).heap.size from by simp]; exact box_new)
 have HB0 : Hid (Below w.heap.size w w1):=hyq (by rw [hw1]; exact bch (below_new _ _) (below_new _ _))
 have d1 : w1.cell? ⟨bd,1,none⟩ = some (.slice wa wn wc):=X0.out.cell (k:=1) rfl
 have d2 : w1.cell? ⟨bd,2,none⟩ = some (.int .i64 room):=X0.out.cell (k:=2) rfl
 have m0 : w1.cell? ⟨bd + 1,0,none⟩ = some (.int .i64 o.kind):=X1.out.cell (k:=0) rfl
 have m1 : w1.cell? ⟨bd + 1,1,none⟩ = some (.string ⟨o.path.toArray⟩):=X1.out.cell (k:=1) rfl
 have m2 : w1.cell? ⟨bd + 1,2,none⟩ = some (.string ⟨o.to.toArray⟩):=X1.out.cell (k:=2) rfl
 have m3 : w1.cell? ⟨bd + 1,3,none⟩ = some (.string ⟨o.data.toArray⟩):=X1.out.cell (k:=3) rfl
 obtain ⟨nb,hnb⟩ : ∃ nb,needsB o = nb:=⟨_,rfl⟩
 have HN : Hid (Calls Tryz.prog 19 #[.agg #[.int .i64 o.kind,.string ⟨o.path.toArray⟩,.string ⟨o.to.toArray⟩,.string ⟨o.data.toArray⟩]] w1 (EqR nb w1)):=hyq (needs_is o nb hnb w1)
 unfold refM at he
 rw [hnb] at he
 clear hnb
 by_cases h8 : wn = 8000
 ·rw [if_pos h8] at he
  subst he h8
  have t0 : ((8000 : Int) == 8000) = true:=rfl
  go_enter Tryz.func82,Tryz.ntmps82
  go_upto_region 1 with fail
  rw [← hw1,← hbd]
  clear hw1 hbd
  go_wp2_with fail
  go_ret
  exact ⟨rfl,HB0.out⟩
 ·rw [if_neg h8] at he
  have t0 : ((wn : Int) == 8000) = false:=by simpa using fun h => h8 (by omega)
  have t0' : ¬ ((wn : Int) = 8000):=by omega
  by_cases hr : room = 0
  ·subst hr
   cases nb with
   | false =>
    rw [if_neg (by simp)] at he
    subst he
    go_enter Tryz.func82,Tryz.ntmps82
    go_upto_region 1 with fail
    rw [← hw1,← hbd]
    clear hw1 hbd
    go_wp2_with fail
    refine HN.out.mono ?_
    rintro e w2 ⟨rfl,hb⟩
    go_wp2_with fail
    go_ret
    exact ⟨rfl,bch HB0.out hb⟩
   | true =>
    cases free with
    | false =>
     rw [if_pos ⟨rfl,rfl,rfl⟩] at he
     subst he
     go_enter Tryz.func82,Tryz.ntmps82
     go_upto_region 1 with fail
     rw [← hw1,← hbd]
     clear hw1 hbd
     go_wp2_with fail
     refine HN.out.mono ?_
     rintro e w2 ⟨rfl,hb⟩
     go_wp2_with fail
     go_ret
     exact ⟨rfl,bch HB0.out hb⟩
    | true =>
     rw [if_neg (by simp)] at he
     subst he
     go_enter Tryz.func82,Tryz.ntmps82
     go_upto_region 1 with fail
     rw [← hw1,← hbd]
     clear hw1 hbd
     go_wp2_with fail
     refine HN.out.mono ?_
     rintro e w2 ⟨rfl,hb⟩
     go_wp2_with fail
     go_ret
     exact ⟨rfl,bch HB0.out hb⟩
  ·rw [if_neg (by simp [hr])] at he
   subst he
   have t1 : (room == 0) = false:=by simpa using hr
   go_enter Tryz.func82,Tryz.ntmps82
   go_upto_region 1 with fail
   rw [← hw1,← hbd]
   clear hw1 hbd
   go_wp2_with fail
   go_ret
   exact ⟨rfl,HB0.out⟩
end Go.Proofs.YtigopecainocgaaGreatDoor
namespace Go.Proofs.YtigopecainocgaaGreatDoor
open Go.RowKit Go.Shelf
theorem nxt_on {s : Nat} {v v' : Value} {w W W' : World} (h : Nxt s v v' w W) (hb : Below W.heap.size W W') : Nxt s v v' w W':=h.trans (Nxt.below hb s v')
theorem nxt_set {s g o : Nat} {v v' u : Value} {w W : World} (h : Nxt s v v' w W) (hg : w.heap.size ≤ g) : Nxt s v v' w (W.setCell ⟨g,o,none⟩ u) :=
 ⟨h.os,h.tape,h.output,by simpa using h.size,fun x hx hn hv => (heap_setCell_other W ⟨g,o,none⟩ x u (by show x ≠ g; omega)).trans (h.block x hx hn hv),h.row⟩
theorem nxt_row {s g : Nat} {v v' : Value} {cs : Array Value} {w W : World} (h : Nxt s v v' w W) (hg : w.heap.size ≤ g) : Nxt s v v' w (W.setRow g cs) :=
 ⟨h.os,h.tape,h.output,by simpa using h.size,fun x hx hn hv => (setRow_other W g x cs (by omega)).trans (h.block x hx hn hv),h.row⟩
theorem nxt_grown {s : Nat} {v v' : Value} {w W W' : World} (h : Below w.heap.size w W) (hg : W.grownBy W' v.ownBlock) (hr : v'.ownBlock = v.ownBlock ∨ v'.ownBlock = some W.heap.size) : Nxt s v v' w W' :=
 ⟨hg.os.trans h.os,hg.tape.trans h.tape,hg.output.trans h.output,Nat.le_trans h.size hg.size,fun x hx _ hv => (hg.block x (Nat.lt_of_lt_of_le hx h.size) (fun e => hv e.symm)).trans (h.block x hx),hr.imp id fun e k hk => by rw [e] at hk; cases hk; exact h.size⟩
theorem own_lt {w : World} {B : Nat} {v : Value} {l : List Opn} (h : OwnO w B v l) {k : Nat} (hk : v.ownBlock = some k) : k < w.heap.size:=by
 obtain ⟨_,cs,hc⟩:=ownR_blk h hk
 exact (Array.getElem?_eq_some_iff.1 hc).1
def WaitR (B : Nat) (iv wv : Value) (l : List Opn) (o : Opn) (room : Int) (w : World) (e : Ending) (w' : World) : Prop :=
 ∃ v',e = .returned (.agg #[iv,v',.int .i64 room]) ∧ OwnO w' B v' (l ++ [o]) ∧ Nxt w.heap.size wv v' w w'
theorem waiting_is (B : Nat) (ia : Option Addr) (i ic : Nat) (wv : Value) (l : List Opn) (room : Int) (o : Opn) (free : Bool) (room' : Int) (hr : takesM room o free = room') (hb1 : -1 ≤ room) (hb2 : room ≤ 9223372036854775807) (w : World) (hO : OwnO w B wv l) (hB : B ≤ w.heap.size) (hl : l.length ≤ 100000) :
  Calls Tryz.prog 83 #[.agg #[.slice ia i ic,wv,.int .i64 room],.agg o.arr,.bool free] w (WaitR B (.slice ia i ic) wv l o room' w):=by
 obtain ⟨i0,hi,hz0,hz1,hz2⟩:=info_parts info46z
 obtain ⟨wa,wc,rfl⟩:=hO.any
 obtain ⟨n,hn⟩:=nmq (l.length)
 have hO1 : w.ownsRow B 46 4 (.slice wa n wc) n (flatO l):=by rw [hn]; exact hO
 have HLT : Hid (∀ k,(Value.slice wa n wc).ownBlock = some k → k < w.heap.size):=hyq (fun k hk => own_lt hO (by rw [← hn]; exact hk))
 rw [← hn] at hl ⊢
 obtain ⟨w1,hw1⟩:=nmq (((w.alloc (.cells #[.slice ia i ic,.slice wa n wc,.int .i64 room] 27)).alloc (.cells o.arr 46)).alloc (.cells #[.slice none 0 0,.slice none 0 0,.int .i64 0] 27))
 obtain ⟨bd,hbd⟩:=nmq (w.heap.size)
 have X0 : Hid (Box w1 bd 27 #[.slice ia i ic,.slice wa n wc,.int .i64 room]):=hyq (by rw [hw1,hbd]; exact (box_new.alloc _).alloc _)
 have X1 : Hid (Box w1 (bd + 1) 46 o.arr):=hyq (by rw [hw1,hbd,show w.heap.size + 1 = (w.alloc (.cells #[.slice ia i ic,.slice wa n wc,.int .i64 room] 27)).heap.size from by simp]; exact box_new.alloc _)
 have X2 : Hid (Box w1 (bd + 1 + 1) 27 #[.slice none 0 0,.slice none 0 0,.int .i64 0]):=hyq (by rw [hw1,hbd,show w.heap.size + 1 + 1 = ((w.alloc (.cells #[.slice ia i ic,.slice wa n wc,.int .i64 room] 27)).alloc (.cells o.arr 46)).heap.size from by simp]; exact box_new)
 have HB0 : Hid (Below w.heap.size w w1):=hyq (by rw [hw1]; exact bch (bch (below_new _ _) (below_new _ _)) (below_new _ _))
 have d1 : w1.cell? ⟨bd,1,none⟩ = some (.slice wa n wc):=X0.out.cell (k:=1) rfl
 have m0 : w1.cell? ⟨bd + 1,0,none⟩ = some (.int .i64 o.kind):=X1.out.cell (k:=0) rfl
 have m1 : w1.cell? ⟨bd + 1,1,none⟩ = some (.string ⟨o.path.toArray⟩):=X1.out.cell (k:=1) rfl
 have m2 : w1.cell? ⟨bd + 1,2,none⟩ = some (.string ⟨o.to.toArray⟩):=X1.out.cell (k:=2) rfl
 have m3 : w1.cell? ⟨bd + 1,3,none⟩ = some (.string ⟨o.data.toArray⟩):=X1.out.cell (k:=3) rfl
 obtain ⟨w2,hw2⟩:=nmq (w1.alloc (.cells o.arr 46))
 have hb12 : Below w1.heap.size w1 w2:=by rw [hw2]; exact below_new _ _
 have HO2 : Hid (w2.ownsRow B 46 4 (.slice wa n wc) n (flatO l)):=hyq (ownR_below (ownR_below hO1 HB0.out) hb12)
 have XN : Box w2 w1.heap.size 46 o.arr:=by rw [hw2]; exact box_new
 have HNW : Hid (∀ (j : Nat) (u : Value),(flatO [o])[j]? = some u → w2.cell? ((⟨w1.heap.size,0,none⟩ : Addr).add j) = some u):=hyq (fun j u hu => by
  rw [add_to,Nat.zero_add]
  exact XN.cell (by rw [← Array.getElem?_toList]; simpa [flatO,Opn.cells,Opn.arr] using hu))
 have HSZ : Hid (B ≤ w2.heap.size):=hyq (Nat.le_trans hB (bch HB0.out hb12).size)
 have HB2 : Hid (Below w.heap.size w w2):=hyq (bch HB0.out hb12)
 have Y0 : Hid (Box w2 bd 27 #[.slice ia i ic,.slice wa n wc,.int .i64 room]):=hyq (X0.out.on hb12)
 have Y1 : Hid (Box w2 (bd + 1) 46 o.arr):=hyq (X1.out.on hb12)
 have Y2 : Hid (Box w2 (bd + 1 + 1) 27 #[.slice none 0 0,.slice none 0 0,.int .i64 0]):=hyq (X2.out.on hb12)
 have HBD : Hid (bd = w.heap.size):=hyq hbd
 have HN:=hyq hn
 have hw2' : w2 = w1.alloc (.cells #[.int .i64 o.kind,.string ⟨o.path.toArray⟩,.string ⟨o.to.toArray⟩,.string ⟨o.data.toArray⟩] 46):=hw2
 have HW2:=hyq hw2'
 obtain ⟨nb,hnb⟩ : ∃ nb,needsB o = nb:=⟨_,rfl⟩
 have HNE : Hid (∀ W,Calls Tryz.prog 19 #[.agg #[.int .i64 o.kind,.string ⟨o.path.toArray⟩,.string ⟨o.to.toArray⟩,.string ⟨o.data.toArray⟩]] W (EqR nb W)):=hyq (fun W => needs_is o nb hnb W)
 have HTK : Hid ((if room ≠ -1 ∧ nb = true ∧ free = false then room - 1 else room) = room'):=hyq (by rw [← hr,← hnb]; rfl)
 have hcap : n ≤ wc:=by
  obtain ⟨_,_,e,h1,_⟩:=hO.rd.open
  injection e with _ _ e3
  rw [← e3,← hn] at h1
  exact h1
 have FIN : Hid (∀ v' W,OwnO W B v' (l ++ [o]) → Nxt w.heap.size (.slice wa n wc) v' w W → Box W bd 27 #[.slice ia i ic,v',.int .i64 room'] → Box W (bd + 1 + 1) 27 #[.slice none 0 0,.slice none 0 0,.int .i64 0] → v'.ownBlock ≠ some (bd + 1 + 1) →
   WaitR B (.slice ia i ic) (.slice wa n wc) l o room' w (.returned (.agg #[.slice ia i ic,v',.int .i64 room'])) (W.setRow (bd + 1 + 1) #[.slice ia i ic,v',.int .i64 room'])):=hyq (fun v' W h1 h2 h3 h4 h5 =>
  ⟨v',rfl,h1.far (fun k hk => setRow_other W _ k _ (fun e => h5 (by rw [hk,e]))),nxt_row h2 (by omega)⟩)
 -- behind the append
 have STEP : Hid (∀ (v' : Value) (w3 : World),w3.ownsRow B 46 4 v' (n + 1) (flatO l ++ flatO [o]) → w2.grownBy w3 (Value.slice wa n wc).ownBlock → (v'.ownBlock = (Value.slice wa n wc).ownBlock ∨ v'.ownBlock = some w2.heap.size) → ∀ V,V = w3.setCell ⟨bd,1,none⟩ v' →
   (∃ a c,v' = .slice a (n + 1) c) ∧ OwnO V B v' (l ++ [o]) ∧ Nxt w.heap.size (.slice wa n wc) v' w V ∧ Box V bd 27 #[.slice ia i ic,v',.int .i64 room] ∧ Box V (bd + 1) 46 o.arr ∧ Box V (bd + 1 + 1) 27 #[.slice none 0 0,.slice none 0 0,.int .i64 0] ∧ (∀ k,v'.ownBlock = some k → k < bd ∨ bd + 1 + 1 < k) ∧ w3.frozen? ⟨bd,1,none⟩ = false ∧ w3.cell? ⟨bd,1,none⟩ = some (.slice wa n wc)):=hyq (fun v' w3 h1 h2 h3 V hV => by
  have hs:=HB2.out.size
  have hlt2:=Y2.out.lt
  have hfar : ∀ k,v'.ownBlock = some k → k < bd ∨ bd + 1 + 1 < k:=fun k hk => by
   rcases h3 with e | e
   ·rw [e] at hk; exact .inl (by rw [HBD.out]; exact HLT.out k hk)
   ·rw [e] at hk; cases hk; exact .inr hlt2
  have hown : ∀ k,(Value.slice wa n wc).ownBlock = some k → k < bd:=fun k hk => by rw [HBD.out]; exact HLT.out k hk
  have Z0 : Box w3 bd 27 #[.slice ia i ic,.slice wa n wc,.int .i64 room]:=(h2.block bd Y0.out.lt (fun e => by have:=hown bd e.symm; omega)).trans Y0.out
  have Z1 : Box w3 (bd + 1) 46 o.arr:=(h2.block (bd + 1) Y1.out.lt (fun e => by have:=hown _ e.symm; omega)).trans Y1.out
  have Z2 : Box w3 (bd + 1 + 1) 27 #[.slice none 0 0,.slice none 0 0,.int .i64 0]:=(h2.block (bd + 1 + 1) Y2.out.lt (fun e => by have:=hown _ e.symm; omega)).trans Y2.out
  have hO3 : OwnO w3 B v' (l ++ [o]):=by
   unfold OwnO
   rw [List.length_append,← HN.out,flatO_append]
   exact h1
  obtain ⟨a,c,hv⟩:=hO3.any
  rw [hV]
  refine ⟨⟨a,c,by rw [hv,List.length_append,← HN.out]; rfl⟩,hO3.far (fun k hk => heap_setCell_other _ _ _ _ (by show k ≠ bd; have:=hfar k hk; omega)),nxt_set (nxt_grown HB2.out h2 h3) (by rw [HBD.out]; exact Nat.le_refl _),Z0.set (k:=1) v',Z1.far (by show bd + 1 ≠ bd; omega) _,Z2.far (by show bd + 1 + 1 ≠ bd; omega) _,hfar,frozen_of_row w3 bd 1 _ _ Z0,Z0.cell (k:=1) rfl⟩)
 clear hO hO1 hB hb12 XN hn hw2 hw2' hr hnb X0 X1 X2
 go_enter Tryz.func83,Tryz.ntmps83
 go_upto_region 1 with fail
 rw [← hw1,← hbd]
 clear hw1 hbd
 go_wp2_with (at_builtin; rw [← HW2.out]; refine wpList_append_own_at _ rfl _ _ 25 rfl B 46 i0 (.agg Opn.zero.arr) 4 56 Tryz.underlying25 hi hz0 hz1 hz2 rfl (by decide) _ _ _ rfl HO2.out ⟨w1.heap.size,0,none⟩ 1 1 (flatO [o]) rfl rfl HNW.out (flatO_one _) (by unfold maxLen; omega) (by omega) HSZ.out ?_)
 all_goals
  intro v' w3 hown hgrow _ hat
  obtain ⟨V,hV⟩:=nmq (w3.setCell ⟨bd,1,none⟩ v')
  obtain ⟨⟨a',c',rfl⟩,hOV,hNV,hX0,hX1,hX2,hfar,hq,hq1⟩:=STEP.out v' w3 hown hgrow hat V hV
  have HO:=hyq hOV
  have HNX:=hyq hNV
  have HX0:=hyq hX0
  have HX2:=hyq hX2
  have HFR:=hyq hfar
  have HV:=hyq hV
  have d0 : V.cell? ⟨bd,0,none⟩ = some (.slice ia i ic):=hX0.cell (k:=0) rfl
  have d1' : V.cell? ⟨bd,1,none⟩ = some (.slice a' (n + 1) c'):=hX0.cell (k:=1) rfl
  have d2 : V.cell? ⟨bd,2,none⟩ = some (.int .i64 room):=hX0.cell (k:=2) rfl
  have n0 : V.cell? ⟨bd + 1,0,none⟩ = some (.int .i64 o.kind):=hX1.cell (k:=0) rfl
  have n1 : V.cell? ⟨bd + 1,1,none⟩ = some (.string ⟨o.path.toArray⟩):=hX1.cell (k:=1) rfl
  have n2 : V.cell? ⟨bd + 1,2,none⟩ = some (.string ⟨o.to.toArray⟩):=hX1.cell (k:=2) rfl
  have n3 : V.cell? ⟨bd + 1,3,none⟩ = some (.string ⟨o.data.toArray⟩):=hX1.cell (k:=3) rfl
  have hfz:=frozen_of_row V bd 0 _ _ hX0
  clear d1 m0 m1 m2 m3 hown hgrow hat hOV hNV hX0 hX1 hX2 hfar STEP HNW HO2 HSZ hV
  by_cases hr1 : room = -1
  ·have t1 : (room != -1) = false:=by simp [hr1]
   have HR : Hid (room = room'):=hyq (by rw [← HTK.out,if_neg (by simp [hr1])])
   clear hr1
   have hr2:=HR.out
   subst hr2
   go_upto_region 2 with fail
   rw [← HV.out]
   go_wp2_with (first | (refine wpList_store_row rfl 27 (.tmp 6) (.tmp 28) rfl (bd + 1 + 1) #[.slice ia i ic,.slice a' (n + 1) c',.int .i64 room] rfl rfl 27 #[.slice none 0 0,.slice none 0 0,.int .i64 0] HX2.out (info27 _ _ _) rfl (darr_one _ _ _ _ _ _ _) ?_) | fail)
   refine bodyPost_ret ?_ rfl (FIN.out _ V HO.out HNX.out HX0.out HX2.out (fun e => by have:=HFR.out _ e; omega))
   exact end_disk rfl _ (HX2.out.row _) rfl
  ·have t1 : (room != -1) = true:=by simp [hr1]
   cases nb with
   | false =>
    have HR : Hid (room = room'):=hyq (by rw [← HTK.out,if_neg (by simp)])
    have hr2:=HR.out
    subst hr2
    clear hr1
    go_upto_region 2 with fail
    rw [← HV.out]
    go_wp2_with fail
    refine (HNE.out _).mono ?_
    rintro e w5 ⟨rfl,hb5⟩
    have Y50:=hyq (HX0.out.on hb5)
    have Y52:=hyq (HX2.out.on hb5)
    have O5:=hyq (HO.out.on hb5)
    have N5:=hyq (nxt_on HNX.out hb5)
    have p0 : w5.cell? ⟨bd,0,none⟩ = some (.slice ia i ic):=Y50.out.cell (k:=0) rfl
    have p1 : w5.cell? ⟨bd,1,none⟩ = some (.slice a' (n + 1) c'):=Y50.out.cell (k:=1) rfl
    have p2 : w5.cell? ⟨bd,2,none⟩ = some (.int .i64 room):=Y50.out.cell (k:=2) rfl
    clear hb5 d0 d1' d2 n0 n1 n2 n3 hfz hq hq1
    go_wp2_with (first | (refine wpList_store_row rfl 27 (.tmp 6) (.tmp 28) rfl (bd + 1 + 1) #[.slice ia i ic,.slice a' (n + 1) c',.int .i64 room] rfl rfl 27 #[.slice none 0 0,.slice none 0 0,.int .i64 0] Y52.out (info27 _ _ _) rfl (darr_one _ _ _ _ _ _ _) ?_) | fail)
    refine bodyPost_ret ?_ rfl (FIN.out _ w5 O5.out N5.out Y50.out Y52.out (fun e => by have:=HFR.out _ e; omega))
    exact end_disk rfl _ (Y52.out.row _) rfl
   | true =>
    cases free with
    | true =>
     have HR : Hid (room = room'):=hyq (by rw [← HTK.out,if_neg (by simp)])
     have hr2:=HR.out
     subst hr2
     clear hr1
     go_upto_region 2 with fail
     rw [← HV.out]
     go_wp2_with fail
     refine (HNE.out _).mono ?_
     rintro e w5 ⟨rfl,hb5⟩
     have Y50:=hyq (HX0.out.on hb5)
     have Y52:=hyq (HX2.out.on hb5)
     have O5:=hyq (HO.out.on hb5)
     have N5:=hyq (nxt_on HNX.out hb5)
     have p0 : w5.cell? ⟨bd,0,none⟩ = some (.slice ia i ic):=Y50.out.cell (k:=0) rfl
     have p1 : w5.cell? ⟨bd,1,none⟩ = some (.slice a' (n + 1) c'):=Y50.out.cell (k:=1) rfl
     have p2 : w5.cell? ⟨bd,2,none⟩ = some (.int .i64 room):=Y50.out.cell (k:=2) rfl
     clear hb5 d0 d1' d2 n0 n1 n2 n3 hfz hq hq1
     go_wp2_with (first | (refine wpList_store_row rfl 27 (.tmp 6) (.tmp 28) rfl (bd + 1 + 1) #[.slice ia i ic,.slice a' (n + 1) c',.int .i64 room] rfl rfl 27 #[.slice none 0 0,.slice none 0 0,.int .i64 0] Y52.out (info27 _ _ _) rfl (darr_one _ _ _ _ _ _ _) ?_) | fail)
     refine bodyPost_ret ?_ rfl (FIN.out _ w5 O5.out N5.out Y50.out Y52.out (fun e => by have:=HFR.out _ e; omega))
     exact end_disk rfl _ (Y52.out.row _) rfl
    | false =>
     have HR : Hid (room - 1 = room'):=hyq (by rw [← HTK.out,if_pos ⟨hr1,rfl,rfl⟩])
     go_upto_region 2 with fail
     rw [← HV.out]
     go_wp2_with fail
     refine (HNE.out _).mono ?_
     rintro e w5 ⟨rfl,hb5⟩
     have Y50:=hyq (HX0.out.on hb5)
     have Y52:=hyq (HX2.out.on hb5)
     have O5:=hyq (HO.out.on hb5)
     have N5:=hyq (nxt_on HNX.out hb5)
     have p0 : w5.cell? ⟨bd,0,none⟩ = some (.slice ia i ic):=Y50.out.cell (k:=0) rfl
     have p1 : w5.cell? ⟨bd,1,none⟩ = some (.slice a' (n + 1) c'):=Y50.out.cell (k:=1) rfl
     have p2 : w5.cell? ⟨bd,2,none⟩ = some (.int .i64 room):=Y50.out.cell (k:=2) rfl
     have hfz5:=frozen_of_row w5 bd 2 _ _ Y50.out
     obtain ⟨w6,hw6⟩:=nmq (w5.setCell ⟨bd,2,none⟩ (.int .i64 room'))
     have Y60 : Hid (Box w6 bd 27 #[.slice ia i ic,.slice a' (n + 1) c',.int .i64 room']):=hyq (by rw [hw6]; exact Y50.out.set (k:=2) _)
     have Y62 : Hid (Box w6 (bd + 1 + 1) 27 #[.slice none 0 0,.slice none 0 0,.int .i64 0]):=hyq (by rw [hw6]; exact Y52.out.far (by show bd + 1 + 1 ≠ bd; omega) _)
     have O6 : Hid (OwnO w6 B (.slice a' (n + 1) c') (l ++ [o])):=hyq (by rw [hw6]; exact O5.out.far fun k hk => heap_setCell_other _ _ _ _ (by show k ≠ bd; have:=HFR.out k hk; omega))
     have N6 : Hid (Nxt w.heap.size (.slice wa n wc) (.slice a' (n + 1) c') w w6):=hyq (by rw [hw6]; exact nxt_set N5.out (by rw [HBD.out]; exact Nat.le_refl _))
     have s0 : w6.cell? ⟨bd,0,none⟩ = some (.slice ia i ic):=Y60.out.cell (k:=0) rfl
     have s1 : w6.cell? ⟨bd,1,none⟩ = some (.slice a' (n + 1) c'):=Y60.out.cell (k:=1) rfl
     have s2 : w6.cell? ⟨bd,2,none⟩ = some (.int .i64 room'):=Y60.out.cell (k:=2) rfl
     have HW6:=hyq hw6
     have HRR:=HR.out
     clear hb5 d0 d1' d2 n0 n1 n2 n3 hfz hq hq1 hw6
     go_upto_region 4 with fail
     rw [← HW6.out]
     go_wp2_with (first | (refine wpList_store_row rfl 27 (.tmp 6) (.tmp 28) rfl (bd + 1 + 1) #[.slice ia i ic,.slice a' (n + 1) c',.int .i64 room'] rfl rfl 27 #[.slice none 0 0,.slice none 0 0,.int .i64 0] Y62.out (info27 _ _ _) rfl (darr_one _ _ _ _ _ _ _) ?_) | fail)
     refine bodyPost_ret ?_ rfl (FIN.out _ w6 O6.out N6.out Y60.out Y62.out (fun e => by have:=HFR.out _ e; omega))
     exact end_disk rfl _ (Y62.out.row _) rfl
end Go.Proofs.YtigopecainocgaaGreatDoor
namespace Go.Proofs.YtigopecainocgaaGreatDoor
open Go.RowKit Go.Shelf
structure RdD (w : World) (iv wv : Value) (d : Dsk) : Prop where
 items : RdI w iv d.safe
 wait : RdO w wv d.wait
theorem RdD.on {w w' : World} {iv wv : Value} {d : Dsk} (h : RdD w iv wv d) (hb : Below w.heap.size w w') : RdD w' iv wv d:=⟨h.items.on hb,h.wait.on hb⟩
structure SzD (d : Dsk) : Prop where
 safe : ∀ x ∈ d.safe,x.path.length ≤ 140737488355328
 wait : ∀ o ∈ d.wait,o.path.length ≤ 140737488355328 ∧ o.to.length ≤ 140737488355328
 room : -9223372036854775808 ≤ d.room ∧ d.room ≤ 9223372036854775807
theorem b27 : Tryz.prog.built 27 [] = some #[.slice none 0 0,.slice none 0 0,.int .i64 0]:=by kernel_rfl
def NowR (d : Dsk) (w : World) (e : Ending) (w' : World) : Prop:=Below w.heap.size w w' ∧ ((nowM d = none ∧ e = .returned (.tuple #[.agg #[.slice none 0 0],.int .i64 180])) ∨ ∃ t v',nowM d = some t ∧ e = .returned (.tuple #[.agg #[v'],.int .i64 0]) ∧ OwnI w' w.heap.size v' t)
theorem now_is (d : Dsk) (iv wv : Value) (w : World) (h : RdD w iv wv d) (hz : SzD d) (hT : TabS w) : Calls Tryz.prog 10 #[.agg #[iv,wv,.int .i64 d.room]] w (NowR d w):=by
 obtain ⟨ia,ic,rfl,_⟩:=h.items.open
 obtain ⟨wa,wc,rfl,hwc,hwm,_⟩:=h.wait.open
 obtain ⟨room,hroom⟩:=nmq (d.room)
 obtain ⟨i,hi⟩:=nmq (d.safe.length)
 obtain ⟨n,hn⟩:=nmq (d.wait.length)
 have hr:=hz.room
 rw [← hi,← hn] at h
 rw [← hn] at hwc
 unfold maxLen at hwm
 rw [← hroom] at hr
 rw [← hi,← hn,← hroom]
 obtain ⟨w1,hw1⟩:=nmq ((w.alloc (.cells #[.slice ia i ic,.slice wa n wc,.int .i64 room] 27)).alloc (.cells #[.slice none 0 0] 24))
 obtain ⟨bd,hbd⟩:=nmq (w.heap.size)
 have X0 : Hid (Box w1 bd 27 #[.slice ia i ic,.slice wa n wc,.int .i64 room]):=hyq (by rw [hw1,hbd]; exact box_new.alloc _)
 have X1 : Hid (Box w1 (bd + 1) 24 #[.slice none 0 0]):=hyq (by rw [hw1,hbd,show w.heap.size + 1 = (w.alloc (.cells #[.slice ia i ic,.slice wa n wc,.int .i64 room] 27)).heap.size from by simp]; exact box_new)
 have HB1 : Hid (Below w.heap.size w w1):=hyq (by rw [hw1]; exact bch (below_new _ _) (below_new _ _))
 have d0 : w1.cell? ⟨bd,0,none⟩ = some (.slice ia i ic):=X0.out.cell (k:=0) rfl
 have d1 : w1.cell? ⟨bd,1,none⟩ = some (.slice wa n wc):=X0.out.cell (k:=1) rfl
 have d2 : w1.cell? ⟨bd,2,none⟩ = some (.int .i64 room):=X0.out.cell (k:=2) rfl
 have HLE : Hid (w.heap.size ≤ bd):=hyq (by rw [hbd]; exact Nat.le_refl _)
 have FN : Hid (nowM d = none → ∀ W,Below w.heap.size w W → NowR d w (.returned (.tuple #[.agg #[.slice none 0 0],.int .i64 180])) (W.setRow (bd + 1) #[.slice none 0 0])):=hyq (fun h0 W hb => ⟨below_row hb (by have:=HLE.out; omega) _,.inl ⟨h0,rfl⟩⟩)
 have k0:=b24
 by_cases hbad : 8000 < n ∨ room < -1
 ·have HN : Hid (nowM d = none):=hyq (by unfold nowM; rw [if_pos (by rw [← hn,← hroom]; exact hbad)])
  clear hn hroom hi hz
  by_cases h8 : 8000 < n
  ·have t0 : (8000 : Int) < (n : Int):=by omega
   clear hbad
   go_enter Tryz.func10,Tryz.ntmps10
   go_upto_region 1 with fail
   rw [← hw1,← hbd]
   clear hw1 hbd
   go_wp2_with (first | (refine wpList_store_row rfl 24 (.tmp 2) (.tmp 16) rfl (bd + 1) #[.slice none 0 0] rfl rfl 24 #[.slice none 0 0] X1.out (info24 _) rfl (slice_one _ _ _) ?_) | fail)
   (refine bodyPost_ret ?_ rfl (FN.out HN.out _ HB1.out); exact end_tree2 rfl _ (X1.out.row _) rfl rfl)
  ·have t0 : ¬ (8000 : Int) < (n : Int):=by omega
   have t1 : room < -1:=by omega
   clear hbad
   go_enter Tryz.func10,Tryz.ntmps10
   go_upto_region 1 with fail
   rw [← hw1,← hbd]
   clear hw1 hbd
   go_wp2_with (first | (refine wpList_store_row rfl 24 (.tmp 2) (.tmp 16) rfl (bd + 1) #[.slice none 0 0] rfl rfl 24 #[.slice none 0 0] X1.out (info24 _) rfl (slice_one _ _ _) ?_) | fail)
   (refine bodyPost_ret ?_ rfl (FN.out HN.out _ HB1.out); exact end_tree2 rfl _ (X1.out.row _) rfl rfl)
 ·have t0 : ¬ (8000 : Int) < (n : Int):=by omega
  have t1 : ¬ room < -1:=by omega
  have HRU:=hyq (run_any d.safe (.slice ia i ic) d.wait (.slice wa n wc) w1 (h.items.on HB1.out) hz.safe (RdF.on h.wait HB1.out) hz.wait (hT.on HB1.out))
  have HNM : Hid (nowM d = if validT d.safe = true ∧ (runM d.safe d.wait).2.2 = 0 then some (runM d.safe d.wait).1 else none):=hyq (by unfold nowM; rw [if_neg (by rw [← hn,← hroom]; exact hbad)])
  have HSZ : Hid (bd + 1 < w1.heap.size):=hyq X1.out.lt
  clear hn hroom hi hz h hT hbad
  go_enter Tryz.func10,Tryz.ntmps10
  go_upto_region 1 with fail
  rw [← hw1,← hbd]
  clear hw1 hbd
  go_wp2_with fail
  refine HRU.out.mono ?_
  rintro e w2 ⟨hb2,hc⟩
  have X12:=hyq (X1.out.on hb2)
  have HB2:=hyq (bch HB1.out hb2)
  obtain ⟨v',z,many,rfl,hz0,hown⟩ : ∃ v' z many,e = .returned (.tuple #[.agg #[v'],.int .i64 many,.int .i64 z]) ∧ ((z ≠ 0 ∧ nowM d = none) ∨ (z = 0 ∧ nowM d = some (runM d.safe d.wait).1 ∧ OwnI w2 w1.heap.size v' (runM d.safe d.wait).1)) ∧ ∃ a n c,v' = .slice a n c:=by
   rcases hc with ⟨h0,rfl⟩ | ⟨h0,v',rfl,ho⟩
   ·exact ⟨_,160,0,rfl,.inl ⟨by decide,by rw [HNM.out,if_neg (by simp [h0])]⟩,_,_,_,rfl⟩
   ·refine ⟨v',(runM d.safe d.wait).2.2,_,rfl,?_,own_any ho⟩
    by_cases hq : (runM d.safe d.wait).2.2 = 0
    ·exact .inr ⟨hq,by rw [HNM.out,if_pos ⟨h0,hq⟩],ho⟩
    ·exact .inl ⟨hq,by rw [HNM.out,if_neg (by simp [hq])]⟩
  obtain ⟨va,vn,vc,rfl⟩:=hown
  obtain ⟨w3,hw3⟩:=nmq ((w2.alloc (.cells #[.slice none 0 0] 24)).setRow w2.heap.size #[.slice va vn vc])
  obtain ⟨b4,hb4⟩:=nmq (w2.heap.size)
  have hb23 : Below w2.heap.size w2 w3:=by rw [hw3]; exact below_row (below_new _ _) (Nat.le_refl _) _
  have X4 : Hid (Box w3 b4 24 #[.slice va vn vc]):=hyq (by rw [hw3,hb4]; exact box_new.row _)
  have X13:=hyq (X12.out.on hb23)
  have HB3:=hyq (bch HB2.out hb23)
  have HW3:=hyq hw3
  have HB4:=hyq hb4
  have e0 : w3.cell? ⟨b4,0,none⟩ = some (.slice va vn vc):=X4.out.cell (k:=0) rfl
  clear hc hb2 hw3 hb4 d0 d1 d2 HRU
  rcases hz0 with ⟨hz0,h0⟩ | ⟨rfl,h0,ho⟩
  ·have t2 : (z == 0) = false:=by simpa using hz0
   have t3 : (z != 0) = true:=by simpa using hz0
   have HN:=hyq h0
   clear hz0 h0 hb23
   go_wp2_with (first | (refine wpList_store_row rfl 24 (.tmp 4) (.tmp 23) rfl w2.heap.size #[.slice va vn vc] rfl rfl 24 #[.slice none 0 0] box_new (info24 _) rfl (slice_one _ _ _) ?_; rw [← HW3.out,← HB4.out]) | (refine wpList_store_row rfl 24 (.tmp 2) (.tmp 28) rfl (bd + 1) #[.slice none 0 0] rfl rfl 24 #[.slice none 0 0] X13.out (info24 _) rfl (slice_one _ _ _) ?_) | fail)
   (refine bodyPost_ret ?_ rfl (FN.out HN.out _ HB3.out); exact end_tree2 rfl _ (X13.out.row _) rfl rfl)
  ·have HN:=hyq h0
   have HO : Hid (OwnI w3 w1.heap.size (.slice va vn vc) (runM d.safe d.wait).1):=hyq (ho.on hb23)
   clear h0 ho hb23
   go_wp2_with (first | (refine wpList_store_row rfl 24 (.tmp 4) (.tmp 23) rfl w2.heap.size #[.slice va vn vc] rfl rfl 24 #[.slice none 0 0] box_new (info24 _) rfl (slice_one _ _ _) ?_; rw [← HW3.out,← HB4.out]) | (refine wpList_store_row rfl 24 (.tmp 2) (.tmp 29) rfl (bd + 1) #[.slice va vn vc] rfl rfl 24 #[.slice none 0 0] X13.out (info24 _) rfl (slice_one _ _ _) ?_) | fail)
   refine bodyPost_ret ?_ rfl ⟨below_row HB3.out (by have:=HLE.out; omega) _,.inr ⟨_,_,HN.out,rfl,own_base (HO.out.far fun k hk => setRow_other _ _ _ _ (fun e => by
    have:=(ownR_blk HO.out hk).1
    have:=HSZ.out
    omega)) HB1.out.size⟩⟩
   exact end_tree2 rfl _ (X13.out.row _) rfl rfl
def CheckR (d : Dsk) (w : World) (e : Ending) (w' : World) : Prop:=e = .returned (.int .i64 (if (nowM d).isSome then 0 else 180)) ∧ Below w.heap.size w w'
theorem check_is (d : Dsk) (iv wv : Value) (w : World) (h : RdD w iv wv d) (hz : SzD d) (hT : TabS w) : Calls Tryz.prog 12 #[.agg #[iv,wv,.int .i64 d.room]] w (CheckR d w):=by
 obtain ⟨w1,hw1⟩:=nmq (w.alloc (.cells #[iv,wv,.int .i64 d.room] 27))
 obtain ⟨bd,hbd⟩:=nmq (w.heap.size)
 have X0 : Hid (Box w1 bd 27 #[iv,wv,.int .i64 d.room]):=hyq (by rw [hw1,hbd]; exact box_new)
 have HB1 : Hid (Below w.heap.size w w1):=hyq (by rw [hw1]; exact below_new _ _)
 have HNO:=hyq (now_is d iv wv w1 (h.on HB1.out) hz (hT.on HB1.out))
 obtain ⟨ia,ic,rfl,_⟩:=h.items.open
 obtain ⟨wa,wc,rfl,_⟩:=h.wait.open
 obtain ⟨room,hroom⟩:=nmq (d.room)
 obtain ⟨i,hi⟩:=nmq (d.safe.length)
 obtain ⟨n,hn⟩:=nmq (d.wait.length)
 rw [← hi,← hn,← hroom] at HNO X0 hw1 ⊢
 have d0 : w1.cell? ⟨bd,0,none⟩ = some (.slice ia i ic):=X0.out.cell (k:=0) rfl
 have d1 : w1.cell? ⟨bd,1,none⟩ = some (.slice wa n wc):=X0.out.cell (k:=1) rfl
 have d2 : w1.cell? ⟨bd,2,none⟩ = some (.int .i64 room):=X0.out.cell (k:=2) rfl
 clear hn hroom hi hz h hT
 go_enter Tryz.func12,Tryz.ntmps12
 go_upto_region 1 with fail
 rw [← hw1,← hbd]
 clear hw1 hbd
 go_wp2_with fail
 refine HNO.out.mono ?_
 rintro e w2 ⟨hb2,hc⟩
 obtain ⟨va,vn,vc,z,rfl,hz⟩ : ∃ va vn vc z,e = .returned (.tuple #[.agg #[.slice va vn vc],.int .i64 z]) ∧ z = (if (nowM d).isSome then 0 else 180):=by
  rcases hc with ⟨h0,rfl⟩ | ⟨t,v',h0,rfl,ho⟩
  ·exact ⟨_,_,_,_,rfl,by rw [h0]; rfl⟩
  ·obtain ⟨a,n,c,rfl⟩:=own_any ho
   exact ⟨_,_,_,_,rfl,by rw [h0]; rfl⟩
 have HZ:=hyq hz
 have HB2:=hyq (bch HB1.out hb2)
 obtain ⟨w3,hw3⟩:=nmq ((w2.alloc (.cells #[.slice none 0 0] 24)).setRow w2.heap.size #[.slice va vn vc])
 have HB3 : Hid (Below w.heap.size w w3):=hyq (by rw [hw3]; exact bch HB2.out (below_row (below_new _ _) (Nat.le_refl _) _))
 have HW3:=hyq hw3
 clear hc hb2 hw3 hz d0 d1 d2 HNO
 go_wp2_with (first | (refine wpList_store_row rfl 24 (.tmp 3) (.tmp 8) rfl w2.heap.size #[.slice va vn vc] rfl rfl 24 #[.slice none 0 0] box_new (info24 _) rfl (slice_one _ _ _) ?_; rw [← HW3.out]) | fail)
 go_ret
 exact ⟨by rw [HZ.out]; rfl,HB3.out⟩
end Go.Proofs.YtigopecainocgaaGreatDoor
namespace Go.Proofs.YtigopecainocgaaGreatDoor
open Go.RowKit Go.Shelf
theorem storeIn_row {F : Fence} {nF : Nat} {P : Program} {ops : Array Oper} {rest : List Oper} {o : Oper} {a : Act} {w : World} {Q : Exit → Act → World → Prop} (hgd : o.guard = none) (ty : TypeId) (x y : Operand) (ho : o.op = .store ty x y)
  (g : Nat) (cells : Array Value) (hx : a.eval x = .pointer (some ⟨g,0,none⟩)) (hy : a.eval y = .agg cells)
  (t : TypeId) (old : Array Value) (hg : w.heap[g]? = some (.cells old t (0,0))) (hi : (P.info? ty).map (·.size) = some cells.size)
  (hold : old.size = cells.size) (h1 : cells.all (·.oneCell') = true)
  (h : wpListIn F nF P ops Q rest (a.put o.dst undef) (w.setRow g cells)) : wpListIn F nF P ops Q (o :: rest) a w:=by
 refine wpListIn_plain hgd fun K hK => ?_
 unfold Oper.wpIn
 refine ⟨by simp [Oper.about,ho],?_⟩
 rw [Oper.semAt_plain F _ _ (by rw [ho]; intro c hc'; cases hc')]
 simp only [execOp,ho,hx,hy,Instr.storeAt,Instr.sureAddr,Sem.run_bind,Sem.run_pure,Result.andThen_ok,run_storeVar_row w g t ty old cells hg hi hold h1]
 exact hK _ _ h
end Go.Proofs.YtigopecainocgaaGreatDoor
namespace Go.Proofs.YtigopecainocgaaGreatDoor
open Go.RowKit Go.Shelf
attribute [local go_sem] Oper.semAt_some
structure Apart (T : Nat → Prop) (X Y : World) : Prop where
 os : Y.os = X.os
 tape : Y.tape = X.tape
 output : Y.output = X.output
 size : X.heap.size ≤ Y.heap.size
 block : ∀ k,k < X.heap.size → ¬ T k → Y.heap[k]? = X.heap[k]?
theorem Apart.refl (T : Nat → Prop) (X : World) : Apart T X X:=⟨rfl,rfl,rfl,Nat.le_refl _,fun _ _ _ => rfl⟩
theorem Apart.trans {T : Nat → Prop} {X Y Z : World} (h : Apart T X Y) (k : Apart T Y Z) : Apart T X Z :=
 ⟨k.os.trans h.os,k.tape.trans h.tape,k.output.trans h.output,Nat.le_trans h.size k.size,fun i hi hT => (k.block i (Nat.lt_of_lt_of_le hi h.size) hT).trans (h.block i hi hT)⟩
theorem Apart.below {T : Nat → Prop} {w X Y : World} (h : Apart T X Y) (hb : Below w.heap.size w X) (hT : ∀ k,T k → w.heap.size ≤ k) : Below w.heap.size w Y :=
 ⟨h.os.trans hb.os,h.tape.trans hb.tape,h.output.trans hb.output,Nat.le_trans hb.size h.size,fun k hk => (h.block k (Nat.lt_of_lt_of_le hk hb.size) (fun t => by have:=hT k t; omega)).trans (hb.block k hk)⟩
theorem Apart.box {T : Nat → Prop} {X Y : World} (h : Apart T X Y) {g : Nat} {t : TypeId} {cs : Array Value} (hX : Box X g t cs) (hg : ¬ T g) : Box Y g t cs:=(h.block g hX.lt hg).trans hX
theorem nxt_below {s : Nat} {v v' : Value} {w X Y : World} (h : Nxt s v v' X Y) (hb : Below w.heap.size w X) (hv : ∀ k,v.ownBlock = some k → w.heap.size ≤ k) (hs : w.heap.size ≤ s) : Below w.heap.size w Y :=
 ⟨h.os.trans hb.os,h.tape.trans hb.tape,h.output.trans hb.output,Nat.le_trans hb.size h.size,fun k hk => (h.block k (Nat.lt_of_lt_of_le hk hb.size) (by omega) (fun e => by have:=hv k e; omega)).trans (hb.block k hk)⟩
theorem nxt_box {s : Nat} {v v' : Value} {X Y : World} (h : Nxt s v v' X Y) {g : Nat} {t : TypeId} {cs : Array Value} (hX : Box X g t cs) (hs : g ≠ s) (hv : v.ownBlock ≠ some g) : Box Y g t cs:=(h.block g hX.lt hs hv).trans hX
theorem own_not {w : World} {B : Nat} {v : Value} {l : List Opn} (h : OwnO w B v l) {g : Nat} {t : TypeId} {cs : Array Value} (hX : Box w g t cs) (ht : t ≠ 46) : v.ownBlock ≠ some g:=fun e => by
 obtain ⟨_,cs',hc⟩:=ownR_blk h e
 rw [show w.heap[g]? = _ from hX] at hc
 injection hc with hc
 injection hc with _ hc
 exact ht hc
structure Caps (W : World) (bd bl bf bn be : Nat) (iv wv : Value) (room : Int) (lv : Value) (free : Bool) (fine : Nat) (fault : Int) : Prop where
 d : Box W bd 27 #[iv,wv,.int .i64 room]
 l : Box W bl 25 #[lv]
 f : Box W bf 4 #[.bool free]
 n : Box W bn 3 #[.int .i64 fine]
 e : Box W be 32 #[.int .i64 fault]
theorem Caps.keep {W W' : World} {bd bl bf bn be : Nat} {iv wv : Value} {room : Int} {lv : Value} {free : Bool} {fine : Nat} {fault : Int} (h : Caps W bd bl bf bn be iv wv room lv free fine fault) (hk : ∀ g t cs,Box W g t cs → (g = bd ∨ g = bl ∨ g = bf ∨ g = bn ∨ g = be) → t ≠ 46 → Box W' g t cs) : Caps W' bd bl bf bn be iv wv room lv free fine fault :=
 ⟨hk _ _ _ h.d (by simp) (by decide),hk _ _ _ h.l (by simp) (by decide),hk _ _ _ h.f (by simp) (by decide),hk _ _ _ h.n (by simp) (by decide),hk _ _ _ h.e (by simp) (by decide)⟩
structure KI (w0 : World) (T : Nat → Prop) (bb : Nat) (W0 ops : List Opn) (free : Bool) (fine : Nat) (fault : Int) (room0 : Int) (iv : Value) (k : Nat) (v : Value) (r : Int) (X : World) : Prop where
 low : Below w0.heap.size w0 X
 own : OwnO X w0.heap.size v (W0 ++ ops.take k)
 sep : ∀ g,v.ownBlock = some g → ¬ T g
 box : Box X bb 27 #[iv,v,.int .i64 r]
 eq : goD free fine fault 0 W0.length room0 ops = ((goD free fine fault k (W0.length + k) r (ops.drop k)).1,(goD free fine fault k (W0.length + k) r (ops.drop k)).2.1 + k,(goD free fine fault k (W0.length + k) r (ops.drop k)).2.2)
 room : -1 ≤ r ∧ r ≤ 9223372036854775807
 len : k ≤ ops.length ∧ W0.length + k ≤ 8000
theorem KI.apart {w0 : World} {T : Nat → Prop} {bb : Nat} {W0 ops : List Opn} {free : Bool} {fine : Nat} {fault room0 : Int} {iv : Value} {k : Nat} {v : Value} {r : Int} {X Y : World} (h : KI w0 T bb W0 ops free fine fault room0 iv k v r X) (ha : Apart T X Y) (hT : ∀ b,T b → w0.heap.size ≤ b ∧ b < bb) : KI w0 T bb W0 ops free fine fault room0 iv k v r Y :=
 ⟨ha.below h.low fun b hb => (hT b hb).1,h.own.far fun g hg => ha.block g (own_lt h.own hg) (h.sep g hg),h.sep,ha.box h.box (fun hb => by have:=(hT bb hb).2; omega),h.eq,h.room,h.len⟩
theorem Caps.apart {X Y : World} {T : Nat → Prop} {bd bl bf bn be : Nat} {iv wv : Value} {room : Int} {lv : Value} {free : Bool} {fine : Nat} {fault : Int} (h : Caps X bd bl bf bn be iv wv room lv free fine fault) (ha : Apart T X Y) (hT : ¬ T bd ∧ ¬ T bl ∧ ¬ T bf ∧ ¬ T bn ∧ ¬ T be) : Caps Y bd bl bf bn be iv wv room lv free fine fault :=
 h.keep fun g t cs hX hg _ => ha.box hX (by rcases hg with rfl | rfl | rfl | rfl | rfl <;> simp [hT])
theorem go_stop {free : Bool} {fine : Nat} {fault room0 : Int} {k len : Nat} {r : Int} {o : Opn} {ops L : List Opn} {W0 : List Opn} {er : Int} (h : goD free fine fault 0 W0.length room0 ops = ((goD free fine fault k len r L).1,(goD free fine fault k len r L).2.1 + k,(goD free fine fault k len r L).2.2)) (hL : L = o :: ops.drop (k + 1))
  (he : (refM len r o free = er ∧ er ≠ 0) ∨ (refM len r o free = 0 ∧ k = fine ∧ fault = er ∧ er ≠ 0)) : goD free fine fault 0 W0.length room0 ops = (r,k,er):=by
 subst hL
 rw [h]
 rw [goD]
 rcases he with ⟨h1,h2⟩ | ⟨h1,h2,h3,h4⟩
 ·rw [if_pos (by rw [h1]; exact h2),h1]
  simp
 ·have hn : ¬ refM len r o free ≠ 0:=by simpa using h1
  rw [if_neg hn,if_pos ⟨h2,by rw [h3]; exact h4⟩,h3]
  simp
theorem go_more {free : Bool} {fine : Nat} {fault room0 : Int} {k len : Nat} {r : Int} {o : Opn} {ops L : List Opn} {W0 : List Opn} (h : goD free fine fault 0 W0.length room0 ops = ((goD free fine fault k len r L).1,(goD free fine fault k len r L).2.1 + k,(goD free fine fault k len r L).2.2)) (hL : L = o :: ops.drop (k + 1))
  (h1 : refM len r o free = 0) (h2 : ¬ (k = fine ∧ fault ≠ 0)) : goD free fine fault 0 W0.length room0 ops = ((goD free fine fault (k + 1) (len + 1) (takesM r o free) (ops.drop (k + 1))).1,(goD free fine fault (k + 1) (len + 1) (takesM r o free) (ops.drop (k + 1))).2.1 + (k + 1),(goD free fine fault (k + 1) (len + 1) (takesM r o free) (ops.drop (k + 1))).2.2):=by
 subst hL
 rw [h]
 conv => lhs; rw [goD]
 have hn : ¬ refM len r o free ≠ 0:=by simpa using h1
 rw [if_neg hn,if_neg h2]
 refine Prod.ext rfl (Prod.ext ?_ rfl)
 simp only
 omega
theorem takes_le (r : Int) (o : Opn) (free : Bool) : takesM r o free ≤ r:=by unfold takesM; split <;> omega
theorem KI.step {w0 : World} {T : Nat → Prop} {bb : Nat} {W0 ops : List Opn} {free : Bool} {fine : Nat} {fault room0 : Int} {iv : Value} {k : Nat} {v : Value} {r : Int} {X X3 : World} {v3 : Value} {o : Opn}
  (h : KI w0 T bb W0 ops free fine fault room0 iv k v r X) (hT : ∀ b,T b → w0.heap.size ≤ b ∧ b < bb) (hk : k < ops.length) (htk : ops.take (k + 1) = ops.take k ++ [o]) (hdr : ops.drop k = o :: ops.drop (k + 1)) (hlow : w0.heap.size ≤ bb)
  (h1 : refM (W0.length + k) r o free = 0) (h2 : ¬ (k = fine ∧ fault ≠ 0)) (hO : OwnO X3 w0.heap.size v3 (W0 ++ ops.take k ++ [o])) (hN : Nxt X.heap.size v v3 X X3) :
  Box X3 bb 27 #[iv,v,.int .i64 r] ∧ KI w0 T bb W0 ops free fine fault room0 iv (k + 1) v3 (takesM r o free) (X3.setRow bb #[iv,v3,.int .i64 (takesM r o free)]) ∧
   (∀ g t cs,Box X g t cs → g < bb → t ≠ 46 → Box (X3.setRow bb #[iv,v3,.int .i64 (takesM r o free)]) g t cs) ∧ (∀ b,T b → (X3.setRow bb #[iv,v3,.int .i64 (takesM r o free)]).heap[b]? = X.heap[b]?):=by
 have hbb:=h.box.lt
 have hB3 : Box X3 bb 27 #[iv,v,.int .i64 r]:=nxt_box hN h.box (by omega) (own_not h.own h.box (by decide))
 have h8 : W0.length + k ≠ 8000:=fun e => by
  unfold refM at h1
  rw [if_pos e] at h1
  cases h1
 refine ⟨hB3,⟨below_row (nxt_below hN h.low (fun g hg => (ownR_blk h.own hg).1) h.low.size) hlow _,?_,fun g hg => ?_,hB3.row _,?_,⟨takes_ge h.room.1 h1,Int.le_trans (takes_le _ _ _) h.room.2⟩,⟨hk,by have:=h.len; omega⟩⟩,fun g t cs hX hg ht => ?_,fun b hb => ?_⟩
 ·rw [htk,← List.append_assoc]
  exact hO.far fun g hg => setRow_other _ _ _ _ (fun e => own_not hO hB3 (by decide) (by rw [hg,e]))
 ·rcases hN.row with e | e
  ·exact h.sep g (by rw [← e]; exact hg)
  ·exact fun hb => by have:=e g hg; have:=(hT g hb).2; omega
 ·have:=go_more h.eq hdr h1 h2
  rw [show W0.length + k + 1 = W0.length + (k + 1) by omega] at this
  exact this
 ·exact (setRow_other _ _ _ _ (by omega)).trans (nxt_box hN hX (by have:=hX.lt; omega) (own_not h.own hX ht))
 ·have:=(hT b hb).2
  exact (setRow_other _ _ _ _ (by omega)).trans (hN.block b (by omega) (by omega) (fun e => h.sep b e hb))
theorem each_hands (nf : Nat) (hnf : 1 ≤ nf) (q : Nat) (T : Nat → Prop) (w0 W : World) (bd bl bf bn be : Nat) (ia : Option Addr) (i ic : Nat) (wa : Option Addr) (wn wc : Nat) (W0 ops : List Opn) (lv : Value) (free : Bool) (fine : Nat) (fault room0 : Int)
  (hC : Caps W bd bl bf bn be (.slice ia i ic) (.slice wa wn wc) room0 lv free fine fault) (hlow : Below w0.heap.size w0 W) (hown : OwnO W w0.heap.size (.slice wa wn wc) W0) (hl : RdO w0 lv ops)
  (hT1 : ∀ b,T b → w0.heap.size ≤ b ∧ b < W.heap.size) (hT2 : ¬ T bd ∧ ¬ T bl ∧ ¬ T bf ∧ ¬ T bn ∧ ¬ T be) (hT3 : ∀ g,(Value.slice wa wn wc).ownBlock = some g → ¬ T g)
  (hroom : -1 ≤ room0 ∧ room0 ≤ 9223372036854775807) (hW0 : W0.length ≤ 8000) (hol : ops.length ≤ 100000)
  (J : Nat → Value → Int → World → Prop) (Jx : Nat → Value → Int → Int → World → Prop)
  (hJ : ∀ k v r X Y,J k v r X → (∀ b,T b → Y.heap[b]? = X.heap[b]?) → J k v r Y)
  (hJx : ∀ k v r e X Y,Jx k v r e X → (∀ b,T b → Y.heap[b]? = X.heap[b]?) → Jx k v r e Y)
  (hY : ∀ k v r v' r' e X,J k v r X → W.heap.size ≤ X.heap.size → k < ops.length → (e ≠ 0 → v' = v ∧ r' = r) → (∃ a n c,v' = .slice a n c) → YieldAt Fence.wide (nf - 1) Tryz.prog q #[.agg #[.slice ia i ic,v',.int .i64 r'],.int .i64 e] X (fun en Y => Apart T X Y ∧ ((en = .returned (.bool true) ∧ e = 0 ∧ J (k + 1) v' r' Y) ∨ (en = .returned (.bool false) ∧ e ≠ 0 ∧ Jx k v r e Y))))
  (h0 : J 0 (.slice wa wn wc) room0 W) :
  CallsIn Fence.wide nf Tryz.prog 81 #[.func (.yield q) #[] #[],.pointer (some ⟨bd,0,none⟩),.pointer (some ⟨bl,0,none⟩),.pointer (some ⟨bf,0,none⟩),.pointer (some ⟨bn,0,none⟩),.pointer (some ⟨be,0,none⟩)] W (fun en Y => (∃ u,en = .returned u) ∧ ∃ (v : Value) (r : Int) (many : Nat) (er : Int),goD free fine fault 0 W0.length room0 ops = (r,many,er) ∧ Below w0.heap.size w0 Y ∧ OwnO Y w0.heap.size v (W0 ++ ops.take many) ∧ ((er = 0 ∧ J many v r Y) ∨ (er ≠ 0 ∧ Jx many v r er Y))):=by
 obtain ⟨la,lc,rfl,hlc,hcm,hcell⟩:=hl.open
 obtain ⟨m,hm⟩:=nmq (ops.length)
 rw [← hm] at hC hl hlc hcell hol
 have HM:=hyq hm
 have HL:=hyq hl
 have HCELL:=hyq hcell
 have HC0:=hyq hC
 obtain ⟨bb,hbb⟩:=nmq (W.heap.size)
 obtain ⟨w1,hw1⟩:=nmq ((W.alloc (.cells #[.slice none 0 0,.slice none 0 0,.int .i64 0] 27)).setRow W.heap.size #[.slice ia i ic,.slice wa wn wc,.int .i64 room0])
 have hb1 : Below W.heap.size W w1:=by rw [hw1]; exact below_row (below_new _ _) (Nat.le_refl _) _
 have XB : Box w1 bb 27 #[.slice ia i ic,.slice wa wn wc,.int .i64 room0]:=by rw [hw1,hbb]; exact box_new.row _
 have HBB : Hid (bb = W.heap.size):=hyq hbb
 have HTB : Hid (∀ b,T b → w0.heap.size ≤ b ∧ b < bb):=hyq (by rw [hbb]; exact hT1)
 have HT2:=hyq hT2
 have HC1 : Hid (Caps w1 bd bl bf bn be (.slice ia i ic) (.slice wa wn wc) room0 (.slice la m lc) free fine fault):=hyq (hC.keep fun g t cs hX _ _ => hX.on hb1)
 have HJ1 : Hid (J 0 (.slice wa wn wc) room0 w1):=hyq (hJ _ _ _ _ _ h0 fun b hb => hb1.block b (hT1 b hb).2)
 have HK1 : Hid (KI w0 T bb W0 ops free fine fault room0 (.slice ia i ic) 0 (.slice wa wn wc) room0 w1):=hyq ⟨(hb1.mono hlow.size |> fun h => hlow.trans h),by rw [List.take_zero,List.append_nil]; exact hown.on hb1,hT3,XB,rfl,hroom,Nat.zero_le _,by omega⟩
 have HLOW:=hyq hlow.size
 have HLTC : Hid (∀ g,(g = bd ∨ g = bl ∨ g = bf ∨ g = bn ∨ g = be) → g < bb):=hyq (by
  have h1:=hC.d.lt
  have h2:=hC.l.lt
  have h3:=hC.f.lt
  have h4:=hC.n.lt
  have h5:=hC.e.lt
  rw [hbb]
  rintro g (rfl | rfl | rfl | rfl | rfl) <;> assumption)
 have HJT:=hyq hJ
 have HJX:=hyq hJx
 have HYY:=hyq hY
 have c1 : W.cell? ⟨bd,0,none⟩ = some (.slice ia i ic):=hC.d.cell (k:=0) rfl
 have c2 : W.cell? ⟨bd,1,none⟩ = some (.slice wa wn wc):=hC.d.cell (k:=1) rfl
 have c3 : W.cell? ⟨bd,2,none⟩ = some (.int .i64 room0):=hC.d.cell (k:=2) rfl
 have c4 : w1.cell? ⟨bl,0,none⟩ = some (.slice la m lc):=HC1.out.l.cell (k:=0) rfl
 have HW1:=hyq hw1
 clear hC hl hcell hlow hown hT1 hT2 hT3 hroom hJ hJx hY h0 hb1 XB hbb hw1 hm HC0
 refine callsIn_of_wp Tryz.func81 rfl trivial ?_ rfl
 simp only [Tryz.ntmps81,List.size_toArray,List.length_cons,List.length_nil,Nat.reduceAdd,Nat.reduceSub,Array.replicate_succ,Array.replicate_zero,List.push_toArray,List.append_toArray,List.nil_append,List.cons_append]
 gi_wp2_with (first | (refine storeIn_row rfl 27 (.tmp 7) (.tmp 11) rfl W.heap.size #[.slice ia i ic,.slice wa wn wc,.int .i64 room0] rfl rfl 27 #[.slice none 0 0,.slice none 0 0,.int .i64 0] box_new (info27 _ _ _) rfl (darr_one _ _ _ _ _ _ _) ?_; rw [← HW1.out,← HBB.out]) | fail)
 clear c1 c2 c3 c4
 gi_loopw [14] (fun at14 wr => ∃ (k : Nat) (v : Value) (r : Int),at14 = .int .i64 (k : Int) ∧ k ≤ m ∧ Hid (KI w0 T bb W0 ops free fine fault room0 (.slice ia i ic) k v r wr) ∧ Hid (Caps wr bd bl bf bn be (.slice ia i ic) (.slice wa wn wc) room0 (.slice la m lc) free fine fault) ∧ Hid (J k v r wr)) (fun at14 _ => m - (Lib.intOf at14).toNat)
 case atStart => exact ⟨0,_,_,rfl,Nat.zero_le _,HK1,HC1,HJ1⟩
 case round =>
  obtain ⟨k,v,r,rfl,hkm,HK,HC,HJ⟩:=hrel
  obtain ⟨X,hX⟩:=nmq (wr)
  rw [← hX] at HK HC HJ ⊢
  clear hX HK1 HC1 HJ1 HW1
  obtain ⟨va,vc,hv⟩:=HK.out.own.any
  subst hv
  obtain ⟨vn,hvn⟩:=nmq ((W0 ++ ops.take k).length)
  rw [← hvn] at HK HJ
  have hvl : vn = W0.length + k:=by rw [hvn,List.length_append,List.length_take]; have:=HM.out; omega
  have HVN:=hyq hvl
  clear hvn
  by_cases hlt : k < m
  ·obtain ⟨o,hko⟩ : ∃ o,ops[k]? = some o:=⟨_,List.getElem?_eq_getElem (by rw [← HM.out]; exact hlt)⟩
   have hdrop : ops.drop k = o :: ops.drop (k + 1):=by
    obtain ⟨h1,h2⟩:=List.getElem?_eq_some_iff.1 hko
    rw [List.drop_eq_getElem_cons h1,h2]
   have HDR:=hyq hdrop
   have HTK : Hid (ops.take (k + 1) = ops.take k ++ [o]):=hyq (by rw [List.take_add_one,hko]; rfl)
   have hRq : RdO X (.slice la m lc) ops:=RdF.on HL.out HK.out.low
   obtain ⟨a',c',e,_,_,hc⟩:=hRq.open
   rw [← HM.out] at e
   injection e with e1 e2 e3
   subst e1 e3
   clear e2
   obtain ⟨g,oo,rfl,hg,hc⟩:=hc (by rw [← HM.out]; omega)
   obtain ⟨q0,q1,q2,q3⟩:=hc k o hko
   obtain ⟨bo,hbo⟩:=nmq (X.heap.size)
   obtain ⟨X1,hX1⟩:=nmq ((X.alloc (.cells Opn.zero.arr 46)).setRow X.heap.size o.arr)
   have hb1 : Below X.heap.size X X1:=by rw [hX1]; exact below_row (below_new _ _) (Nat.le_refl _) _
   have XO1 : Hid (Box X1 bo 46 o.arr):=hyq (by rw [hX1,hbo]; exact box_new.row _)
   have onK : ∀ {A C : World} {e : Nat},e = e → Below A.heap.size A C → KI w0 T bb W0 ops free fine fault room0 (.slice ia i ic) k (.slice va vn vc) r A → KI w0 T bb W0 ops free fine fault room0 (.slice ia i ic) k (.slice va vn vc) r C:=fun _ hb h => ⟨h.low.trans (hb.mono h.low.size),h.own.on hb,h.sep,h.box.on hb,h.eq,h.room,h.len⟩
   have onJ : ∀ {A C : World},Below A.heap.size A C → bb ≤ A.heap.size → J k (.slice va vn vc) r A → J k (.slice va vn vc) r C:=fun hb hs h => HJT.out _ _ _ _ _ h fun b hT => hb.block b (by have:=(HTB.out b hT).2; omega)
   have hbs : bb ≤ X.heap.size:=Nat.le_of_lt HK.out.box.lt
   have HK1:=hyq (onK (e:=0) rfl hb1 HK.out)
   have HC1 : Hid (Caps X1 bd bl bf bn be (.slice ia i ic) (.slice wa wn wc) room0 (.slice (some ⟨g,oo,none⟩) m lc) free fine fault):=hyq (HC.out.keep fun _ _ _ hX _ _ => hX.on hb1)
   have HJ1:=hyq (onJ hb1 hbs HJ.out)
   have hbs1 : bb ≤ X1.heap.size:=Nat.le_of_lt HK1.out.box.lt
   have hX1' : X1 = (X.alloc (.cells #[.int .i64 0,.string ⟨#[]⟩,.string ⟨#[]⟩,.string ⟨#[]⟩] 46)).setRow X.heap.size #[.int .i64 o.kind,.string ⟨o.path.toArray⟩,.string ⟨o.to.toArray⟩,.string ⟨o.data.toArray⟩]:=hX1
   have HX1:=hyq hX1'
   have HBO:=hyq hbo
   obtain ⟨er,her⟩ : ∃ z,refM vn r o free = z:=⟨_,rfl⟩
   have HER:=hyq her
   have HRF : Hid (∀ W,Calls Tryz.prog 82 #[.agg #[.slice ia i ic,.slice va vn vc,.int .i64 r],.agg #[.int .i64 o.kind,.string ⟨o.path.toArray⟩,.string ⟨o.to.toArray⟩,.string ⟨o.data.toArray⟩],.bool free] W (NumR er W)):=hyq (fun W => refusal_is (.slice ia i ic) va vn vc r o free er her W)
   have HWT : Hid (∀ W,OwnO W w0.heap.size (.slice va vn vc) (W0 ++ ops.take k) → w0.heap.size ≤ W.heap.size → Calls Tryz.prog 83 #[.agg #[.slice ia i ic,.slice va vn vc,.int .i64 r],.agg #[.int .i64 o.kind,.string ⟨o.path.toArray⟩,.string ⟨o.to.toArray⟩,.string ⟨o.data.toArray⟩],.bool free] W (WaitR w0.heap.size (.slice ia i ic) (.slice va vn vc) (W0 ++ ops.take k) o (takesM r o free) W)):=hyq (fun W h1 h2 => waiting_is w0.heap.size ia i ic (.slice va vn vc) (W0 ++ ops.take k) r o free _ rfl HK.out.room.1 HK.out.room.2 W h1 h2 (by rw [List.length_append,List.length_take]; have:=HK.out.len; omega))
   have d0 : X1.cell? ⟨bb,0,none⟩ = some (.slice ia i ic):=HK1.out.box.cell (k:=0) rfl
   have d1 : X1.cell? ⟨bb,1,none⟩ = some (.slice va vn vc):=HK1.out.box.cell (k:=1) rfl
   have d2 : X1.cell? ⟨bb,2,none⟩ = some (.int .i64 r):=HK1.out.box.cell (k:=2) rfl
   have m0 : X1.cell? ⟨bo,0,none⟩ = some (.int .i64 o.kind):=XO1.out.cell (k:=0) rfl
   have m1 : X1.cell? ⟨bo,1,none⟩ = some (.string ⟨o.path.toArray⟩):=XO1.out.cell (k:=1) rfl
   have m2 : X1.cell? ⟨bo,2,none⟩ = some (.string ⟨o.to.toArray⟩):=XO1.out.cell (k:=2) rfl
   have m3 : X1.cell? ⟨bo,3,none⟩ = some (.string ⟨o.data.toArray⟩):=XO1.out.cell (k:=3) rfl
   have f0 : X1.cell? ⟨bf,0,none⟩ = some (.bool free):=HC1.out.f.cell (k:=0) rfl
   have k1 : (k : Int) < (m : Int):=by omega
   have k2 : (0 : Int) ≤ (k : Int):=by omega
   have HB1:=hyq hb1
   have hltO : k < ops.length:=by rw [← HM.out]; exact hlt
   rw [HVN.out] at her
   clear hko hdrop hRq hc hg hb1 hX1 hX1' hbo hvl
   by_cases hz : er = 0
   ·have HER0 : Hid (refM (W0.length + k) r o free = 0):=hyq (her.trans hz)
    subst hz
    by_cases hf : k = fine
    ·have t0 : ((k : Int) == (fine : Int)) = true:=by simp [hf]
     have t0' : ((fine : Int) == (fine : Int)) = true:=by simp
     by_cases hz : fault = 0
     ·have HFZ:=hyq hz
      have u0 : (fault == 0) = true:=by simp [hz]
      have HKF:=hyq hf
      clear hf hz
      have HS : Hid (∀ X2 X3 v3,KI w0 T bb W0 ops free fine fault room0 (.slice ia i ic) k (.slice va vn vc) r X2 → OwnO X3 w0.heap.size v3 (W0 ++ ops.take k ++ [o]) → Nxt X2.heap.size (.slice va vn vc) v3 X2 X3 → _):=hyq (fun X2 X3 v3 h1 h2 h3 => KI.step h1 HTB.out hltO HTK.out HDR.out (by rw [HBB.out]; exact HLOW.out) HER0.out (fun h => h.2 HFZ.out) h2 h3)
      gi_wp2_with (first | (refine storeIn_row rfl 46 (.tmp 9) (.tmp 18) rfl X.heap.size #[.int .i64 o.kind,.string ⟨o.path.toArray⟩,.string ⟨o.to.toArray⟩,.string ⟨o.data.toArray⟩] rfl rfl 46 #[.int .i64 0,.string ⟨#[]⟩,.string ⟨#[]⟩,.string ⟨#[]⟩] box_new info46a rfl (by simp [Value.oneCell']) ?_; rw [← HX1.out,← HBO.out]) | (refine ⟨trivial,?_⟩; gi_at_call 82; refine (callsIn_wide.2 (HRF.out X1)).mono ?_; rintro e X2 ⟨rfl,hb2⟩; clear q0 q1 q2 q3 d0 d1 d2 m0 m1 m2 m3 f0; have HK2:=hyq (onK (e:=0) rfl hb2 HK1.out); have HC2 : Hid (Caps X2 bd bl bf bn be (.slice ia i ic) (.slice wa wn wc) room0 (.slice (some ⟨g,oo,none⟩) m lc) free fine fault):=hyq (HC1.out.keep fun _ _ _ hX _ _ => hX.on hb2); have HJ2:=hyq (onJ hb2 hbs1 HJ1.out); have XO2:=hyq (XO1.out.on hb2); have d0 : X2.cell? ⟨bb,0,none⟩ = some (.slice ia i ic):=HK2.out.box.cell (k:=0) rfl; have d1 : X2.cell? ⟨bb,1,none⟩ = some (.slice va vn vc):=HK2.out.box.cell (k:=1) rfl; have d2 : X2.cell? ⟨bb,2,none⟩ = some (.int .i64 r):=HK2.out.box.cell (k:=2) rfl; have m0 : X2.cell? ⟨bo,0,none⟩ = some (.int .i64 o.kind):=XO2.out.cell (k:=0) rfl; have m1 : X2.cell? ⟨bo,1,none⟩ = some (.string ⟨o.path.toArray⟩):=XO2.out.cell (k:=1) rfl; have m2 : X2.cell? ⟨bo,2,none⟩ = some (.string ⟨o.to.toArray⟩):=XO2.out.cell (k:=2) rfl; have m3 : X2.cell? ⟨bo,3,none⟩ = some (.string ⟨o.data.toArray⟩):=XO2.out.cell (k:=3) rfl; have f0 : X2.cell? ⟨bf,0,none⟩ = some (.bool free):=HC2.out.f.cell (k:=0) rfl; have f1 : X2.cell? ⟨bn,0,none⟩ = some (.int .i64 fine):=HC2.out.n.cell (k:=0) rfl; have f2 : X2.cell? ⟨be,0,none⟩ = some (.int .i64 fault):=HC2.out.e.cell (k:=0) rfl; have HS2 : Hid (W.heap.size ≤ X2.heap.size):=hyq (by have:=HK2.out.box.lt; have:=HBB.out; omega); clear hb2) | fail)
      refine ⟨trivial,?_⟩
      refine (callsIn_wide.2 (HWT.out _ HK2.out.own HK2.out.low.size)).mono ?_
      rintro e X3 ⟨v3,rfl,hO3,hN3⟩
      obtain ⟨hB3,hK4,hC4,hJ4⟩:=HS.out _ X3 v3 HK2.out hO3 hN3
      obtain ⟨a3,c3,rfl⟩:=hO3.any
      obtain ⟨n3,hn3⟩:=nmq ((W0 ++ ops.take k ++ [o]).length)
      rw [← hn3] at hK4 hC4 hJ4 ⊢
      clear hn3
      obtain ⟨r3,hr3⟩:=nmq (takesM r o free)
      rw [← hr3] at hK4 hC4 hJ4 ⊢
      clear hr3
      obtain ⟨X4,hX4⟩:=nmq (X3.setRow bb #[.slice ia i ic,.slice a3 n3 c3,.int .i64 r3])
      rw [← hX4] at hK4 hC4 hJ4
      have HB3:=hyq hB3
      have HK4:=hyq hK4
      have HC4 : Hid (Caps X4 bd bl bf bn be (.slice ia i ic) (.slice wa wn wc) room0 (.slice (some ⟨g,oo,none⟩) m lc) free fine fault):=hyq (HC2.out.keep fun g t cs hX hg ht => hC4 g t cs hX (HLTC.out g hg) ht)
      have HJ4:=hyq (HJT.out _ _ _ _ X4 HJ2.out hJ4)
      have HX4:=hyq hX4
      have HS4 : Hid (W.heap.size ≤ X4.heap.size):=hyq (Nat.le_of_lt (by rw [← HBB.out]; exact HK4.out.box.lt))
      clear hO3 hN3 hB3 hK4 hC4 hJ4 hX4 d0 d1 d2 m0 m1 m2 m3 f0 f1 f2
      have d0 : X4.cell? ⟨bb,0,none⟩ = some (.slice ia i ic):=HK4.out.box.cell (k:=0) rfl
      have d1 : X4.cell? ⟨bb,1,none⟩ = some (.slice a3 n3 c3):=HK4.out.box.cell (k:=1) rfl
      have d2 : X4.cell? ⟨bb,2,none⟩ = some (.int .i64 r3):=HK4.out.box.cell (k:=2) rfl
      obtain ⟨fn,tmps,assign,body,hy,hR⟩:=HYY.out k _ r (.slice a3 n3 c3) r3 fault X4 HJ4.out HS4.out hltO (fun h => absurd HFZ.out h) ⟨_,_,_,rfl⟩
      gi_wp2_with (first | (refine storeIn_row rfl 27 (.tmp 7) (.tmp 36) rfl bb #[.slice ia i ic,.slice a3 n3 c3,.int .i64 r3] rfl rfl 27 #[.slice ia i ic,.slice va vn vc,.int .i64 r] HB3.out (info27 _ _ _) rfl (darr_one _ _ _ _ _ _ _) ?_; rw [← HX4.out]) | fail)
      refine hR.mono ?_
      rintro e W3 ⟨hap,(⟨rfl,he,hJ3⟩ | ⟨rfl,he,hJ3⟩)⟩
      ·have HK5:=hyq (HK4.out.apart hap HTB.out)
       have HC5:=hyq (HC4.out.apart hap HT2.out)
       have HJ5:=hyq hJ3
       clear hR hy he hap hJ3 d0 d1 d2
       gi_wp2
       go_roundw
       case rel => exact ⟨k + 1,_,_,by go_num,hlt,HK5,HC5,HJ5⟩
       case measure => simp [Lib.intOf]; omega
      ·exact absurd HFZ.out he
     ·have u0 : (fault == 0) = false:=by simpa using hz
      have HKF:=hyq hf
      clear hf
      have HEQ : Hid (goD free fine fault 0 W0.length room0 ops = (r,k,fault)):=hyq (go_stop HK.out.eq HDR.out (.inr ⟨HER0.out,HKF.out,rfl,hz⟩))
      gi_wp2_with (first | (refine storeIn_row rfl 46 (.tmp 9) (.tmp 18) rfl X.heap.size #[.int .i64 o.kind,.string ⟨o.path.toArray⟩,.string ⟨o.to.toArray⟩,.string ⟨o.data.toArray⟩] rfl rfl 46 #[.int .i64 0,.string ⟨#[]⟩,.string ⟨#[]⟩,.string ⟨#[]⟩] box_new info46a rfl (by simp [Value.oneCell']) ?_; rw [← HX1.out,← HBO.out]) | (refine ⟨trivial,?_⟩; gi_at_call 82; refine (callsIn_wide.2 (HRF.out X1)).mono ?_; rintro e X2 ⟨rfl,hb2⟩; clear q0 q1 q2 q3 d0 d1 d2 m0 m1 m2 m3 f0; have HK2:=hyq (onK (e:=0) rfl hb2 HK1.out); have HC2 : Hid (Caps X2 bd bl bf bn be (.slice ia i ic) (.slice wa wn wc) room0 (.slice (some ⟨g,oo,none⟩) m lc) free fine fault):=hyq (HC1.out.keep fun _ _ _ hX _ _ => hX.on hb2); have HJ2:=hyq (onJ hb2 hbs1 HJ1.out); have XO2:=hyq (XO1.out.on hb2); have d0 : X2.cell? ⟨bb,0,none⟩ = some (.slice ia i ic):=HK2.out.box.cell (k:=0) rfl; have d1 : X2.cell? ⟨bb,1,none⟩ = some (.slice va vn vc):=HK2.out.box.cell (k:=1) rfl; have d2 : X2.cell? ⟨bb,2,none⟩ = some (.int .i64 r):=HK2.out.box.cell (k:=2) rfl; have m0 : X2.cell? ⟨bo,0,none⟩ = some (.int .i64 o.kind):=XO2.out.cell (k:=0) rfl; have m1 : X2.cell? ⟨bo,1,none⟩ = some (.string ⟨o.path.toArray⟩):=XO2.out.cell (k:=1) rfl; have m2 : X2.cell? ⟨bo,2,none⟩ = some (.string ⟨o.to.toArray⟩):=XO2.out.cell (k:=2) rfl; have m3 : X2.cell? ⟨bo,3,none⟩ = some (.string ⟨o.data.toArray⟩):=XO2.out.cell (k:=3) rfl; have f0 : X2.cell? ⟨bf,0,none⟩ = some (.bool free):=HC2.out.f.cell (k:=0) rfl; have f1 : X2.cell? ⟨bn,0,none⟩ = some (.int .i64 fine):=HC2.out.n.cell (k:=0) rfl; have f2 : X2.cell? ⟨be,0,none⟩ = some (.int .i64 fault):=HC2.out.e.cell (k:=0) rfl; have HS2 : Hid (W.heap.size ≤ X2.heap.size):=hyq (by have:=HK2.out.box.lt; have:=HBB.out; omega); clear hb2; obtain ⟨fn,tmps,assign,body,hy,hR⟩:=HYY.out k _ r (.slice va vn vc) r fault X2 HJ2.out HS2.out hltO (fun _ => ⟨rfl,rfl⟩) ⟨_,_,_,rfl⟩) | fail)
      refine hR.mono ?_
      rintro e W3 ⟨hap,(⟨rfl,he,hJ3⟩ | ⟨rfl,he,hJ3⟩)⟩
      ·exact absurd he hz
      ·have HK3:=hyq (HK2.out.apart hap HTB.out)
       have HJ3:=hyq hJ3
       have HE3:=hyq he
       clear hR hy he hap hJ3 d0 d1 d2 m0 m1 m2 m3 f0 f1 f2
       gi_wp2
       refine bodyPost_ret (results_none rfl _ _ _) rfl ?_
       exact ⟨⟨_,rfl⟩,_,r,k,fault,HEQ.out,HK3.out.low,HK3.out.own,.inr ⟨HE3.out,HJ3.out⟩⟩
    ·have t0 : ((k : Int) == (fine : Int)) = false:=by simpa using fun h => hf (by omega)
     have HKF:=hyq hf
     have t0' : ¬ (k : Int) = (fine : Int):=by omega
     clear hf
     have HS : Hid (∀ X2 X3 v3,KI w0 T bb W0 ops free fine fault room0 (.slice ia i ic) k (.slice va vn vc) r X2 → OwnO X3 w0.heap.size v3 (W0 ++ ops.take k ++ [o]) → Nxt X2.heap.size (.slice va vn vc) v3 X2 X3 → _):=hyq (fun X2 X3 v3 h1 h2 h3 => KI.step h1 HTB.out hltO HTK.out HDR.out (by rw [HBB.out]; exact HLOW.out) HER0.out (fun h => HKF.out h.1) h2 h3)
     gi_wp2_with (first | (refine storeIn_row rfl 46 (.tmp 9) (.tmp 18) rfl X.heap.size #[.int .i64 o.kind,.string ⟨o.path.toArray⟩,.string ⟨o.to.toArray⟩,.string ⟨o.data.toArray⟩] rfl rfl 46 #[.int .i64 0,.string ⟨#[]⟩,.string ⟨#[]⟩,.string ⟨#[]⟩] box_new info46a rfl (by simp [Value.oneCell']) ?_; rw [← HX1.out,← HBO.out]) | (refine ⟨trivial,?_⟩; gi_at_call 82; refine (callsIn_wide.2 (HRF.out X1)).mono ?_; rintro e X2 ⟨rfl,hb2⟩; clear q0 q1 q2 q3 d0 d1 d2 m0 m1 m2 m3 f0; have HK2:=hyq (onK (e:=0) rfl hb2 HK1.out); have HC2 : Hid (Caps X2 bd bl bf bn be (.slice ia i ic) (.slice wa wn wc) room0 (.slice (some ⟨g,oo,none⟩) m lc) free fine fault):=hyq (HC1.out.keep fun _ _ _ hX _ _ => hX.on hb2); have HJ2:=hyq (onJ hb2 hbs1 HJ1.out); have XO2:=hyq (XO1.out.on hb2); have d0 : X2.cell? ⟨bb,0,none⟩ = some (.slice ia i ic):=HK2.out.box.cell (k:=0) rfl; have d1 : X2.cell? ⟨bb,1,none⟩ = some (.slice va vn vc):=HK2.out.box.cell (k:=1) rfl; have d2 : X2.cell? ⟨bb,2,none⟩ = some (.int .i64 r):=HK2.out.box.cell (k:=2) rfl; have m0 : X2.cell? ⟨bo,0,none⟩ = some (.int .i64 o.kind):=XO2.out.cell (k:=0) rfl; have m1 : X2.cell? ⟨bo,1,none⟩ = some (.string ⟨o.path.toArray⟩):=XO2.out.cell (k:=1) rfl; have m2 : X2.cell? ⟨bo,2,none⟩ = some (.string ⟨o.to.toArray⟩):=XO2.out.cell (k:=2) rfl; have m3 : X2.cell? ⟨bo,3,none⟩ = some (.string ⟨o.data.toArray⟩):=XO2.out.cell (k:=3) rfl; have f0 : X2.cell? ⟨bf,0,none⟩ = some (.bool free):=HC2.out.f.cell (k:=0) rfl; have f1 : X2.cell? ⟨bn,0,none⟩ = some (.int .i64 fine):=HC2.out.n.cell (k:=0) rfl; have f2 : X2.cell? ⟨be,0,none⟩ = some (.int .i64 fault):=HC2.out.e.cell (k:=0) rfl; have HS2 : Hid (W.heap.size ≤ X2.heap.size):=hyq (by have:=HK2.out.box.lt; have:=HBB.out; omega); clear hb2) | fail)
     refine ⟨trivial,?_⟩
     refine (callsIn_wide.2 (HWT.out _ HK2.out.own HK2.out.low.size)).mono ?_
     rintro e X3 ⟨v3,rfl,hO3,hN3⟩
     obtain ⟨hB3,hK4,hC4,hJ4⟩:=HS.out _ X3 v3 HK2.out hO3 hN3
     obtain ⟨a3,c3,rfl⟩:=hO3.any
     obtain ⟨n3,hn3⟩:=nmq ((W0 ++ ops.take k ++ [o]).length)
     rw [← hn3] at hK4 hC4 hJ4 ⊢
     clear hn3
     obtain ⟨r3,hr3⟩:=nmq (takesM r o free)
     rw [← hr3] at hK4 hC4 hJ4 ⊢
     clear hr3
     obtain ⟨X4,hX4⟩:=nmq (X3.setRow bb #[.slice ia i ic,.slice a3 n3 c3,.int .i64 r3])
     rw [← hX4] at hK4 hC4 hJ4
     have HB3:=hyq hB3
     have HK4:=hyq hK4
     have HC4 : Hid (Caps X4 bd bl bf bn be (.slice ia i ic) (.slice wa wn wc) room0 (.slice (some ⟨g,oo,none⟩) m lc) free fine fault):=hyq (HC2.out.keep fun g t cs hX hg ht => hC4 g t cs hX (HLTC.out g hg) ht)
     have HJ4:=hyq (HJT.out _ _ _ _ X4 HJ2.out hJ4)
     have HX4:=hyq hX4
     have HS4 : Hid (W.heap.size ≤ X4.heap.size):=hyq (Nat.le_of_lt (by rw [← HBB.out]; exact HK4.out.box.lt))
     clear hO3 hN3 hB3 hK4 hC4 hJ4 hX4 d0 d1 d2 m0 m1 m2 m3 f0 f1 f2
     have d0 : X4.cell? ⟨bb,0,none⟩ = some (.slice ia i ic):=HK4.out.box.cell (k:=0) rfl
     have d1 : X4.cell? ⟨bb,1,none⟩ = some (.slice a3 n3 c3):=HK4.out.box.cell (k:=1) rfl
     have d2 : X4.cell? ⟨bb,2,none⟩ = some (.int .i64 r3):=HK4.out.box.cell (k:=2) rfl
     obtain ⟨fn,tmps,assign,body,hy,hR⟩:=HYY.out k _ r (.slice a3 n3 c3) r3 0 X4 HJ4.out HS4.out hltO (fun h => absurd rfl h) ⟨_,_,_,rfl⟩
     gi_wp2_with (first | (refine storeIn_row rfl 27 (.tmp 7) (.tmp 36) rfl bb #[.slice ia i ic,.slice a3 n3 c3,.int .i64 r3] rfl rfl 27 #[.slice ia i ic,.slice va vn vc,.int .i64 r] HB3.out (info27 _ _ _) rfl (darr_one _ _ _ _ _ _ _) ?_; rw [← HX4.out]) | fail)
     refine hR.mono ?_
     rintro e W3 ⟨hap,(⟨rfl,he,hJ3⟩ | ⟨rfl,he,hJ3⟩)⟩
     ·have HK5:=hyq (HK4.out.apart hap HTB.out)
      have HC5:=hyq (HC4.out.apart hap HT2.out)
      have HJ5:=hyq hJ3
      clear hR hy he hap hJ3 d0 d1 d2
      gi_wp2
      go_roundw
      case rel => exact ⟨k + 1,_,_,by go_num,hlt,HK5,HC5,HJ5⟩
      case measure => simp [Lib.intOf]; omega
     ·exact absurd rfl he
   ·have u0 : (er == 0) = false:=by simpa using hz
    have HEQ : Hid (goD free fine fault 0 W0.length room0 ops = (r,k,er)):=hyq (go_stop HK.out.eq HDR.out (.inl ⟨her,hz⟩))
    gi_wp2_with (first | (refine storeIn_row rfl 46 (.tmp 9) (.tmp 18) rfl X.heap.size #[.int .i64 o.kind,.string ⟨o.path.toArray⟩,.string ⟨o.to.toArray⟩,.string ⟨o.data.toArray⟩] rfl rfl 46 #[.int .i64 0,.string ⟨#[]⟩,.string ⟨#[]⟩,.string ⟨#[]⟩] box_new info46a rfl (by simp [Value.oneCell']) ?_; rw [← HX1.out,← HBO.out]) | (refine ⟨trivial,?_⟩; gi_at_call 82; refine (callsIn_wide.2 (HRF.out X1)).mono ?_; rintro e X2 ⟨rfl,hb2⟩; clear q0 q1 q2 q3 d0 d1 d2 m0 m1 m2 m3 f0; have HK2:=hyq (onK (e:=0) rfl hb2 HK1.out); have HC2 : Hid (Caps X2 bd bl bf bn be (.slice ia i ic) (.slice wa wn wc) room0 (.slice (some ⟨g,oo,none⟩) m lc) free fine fault):=hyq (HC1.out.keep fun _ _ _ hX _ _ => hX.on hb2); have HJ2:=hyq (onJ hb2 hbs1 HJ1.out); have XO2:=hyq (XO1.out.on hb2); have d0 : X2.cell? ⟨bb,0,none⟩ = some (.slice ia i ic):=HK2.out.box.cell (k:=0) rfl; have d1 : X2.cell? ⟨bb,1,none⟩ = some (.slice va vn vc):=HK2.out.box.cell (k:=1) rfl; have d2 : X2.cell? ⟨bb,2,none⟩ = some (.int .i64 r):=HK2.out.box.cell (k:=2) rfl; have m0 : X2.cell? ⟨bo,0,none⟩ = some (.int .i64 o.kind):=XO2.out.cell (k:=0) rfl; have m1 : X2.cell? ⟨bo,1,none⟩ = some (.string ⟨o.path.toArray⟩):=XO2.out.cell (k:=1) rfl; have m2 : X2.cell? ⟨bo,2,none⟩ = some (.string ⟨o.to.toArray⟩):=XO2.out.cell (k:=2) rfl; have m3 : X2.cell? ⟨bo,3,none⟩ = some (.string ⟨o.data.toArray⟩):=XO2.out.cell (k:=3) rfl; have f0 : X2.cell? ⟨bf,0,none⟩ = some (.bool free):=HC2.out.f.cell (k:=0) rfl; have f1 : X2.cell? ⟨bn,0,none⟩ = some (.int .i64 fine):=HC2.out.n.cell (k:=0) rfl; have f2 : X2.cell? ⟨be,0,none⟩ = some (.int .i64 fault):=HC2.out.e.cell (k:=0) rfl; have HS2 : Hid (W.heap.size ≤ X2.heap.size):=hyq (by have:=HK2.out.box.lt; have:=HBB.out; omega); clear hb2; obtain ⟨fn,tmps,assign,body,hy,hR⟩:=HYY.out k _ r (.slice va vn vc) r er X2 HJ2.out HS2.out hltO (fun _ => ⟨rfl,rfl⟩) ⟨_,_,_,rfl⟩) | fail)
    refine hR.mono ?_
    rintro e W3 ⟨hap,(⟨rfl,he,hJ3⟩ | ⟨rfl,he,hJ3⟩)⟩
    ·exact absurd he hz
    ·have HK3:=hyq (HK2.out.apart hap HTB.out)
     have HJ3:=hyq hJ3
     have HE3:=hyq he
     clear hR hy he hap hJ3 d0 d1 d2 m0 m1 m2 m3 f0 f1 f2
     gi_wp2
     refine bodyPost_ret (results_none rfl _ _ _) rfl ?_
     exact ⟨⟨_,rfl⟩,_,r,k,er,HEQ.out,HK3.out.low,HK3.out.own,.inr ⟨HE3.out,HJ3.out⟩⟩
  ·obtain rfl : k = m:=by omega
   have k1 : ¬ ((k : Int) < (k : Int)):=by omega
   have HEQ : Hid (goD free fine fault 0 W0.length room0 ops = (r,k,0)):=hyq (by
    rw [HK.out.eq,List.drop_of_length_le (by rw [← HM.out]; exact Nat.le_refl _)]
    simp [goD])
   gi_wp2
   go_end0
   exact ⟨⟨_,rfl⟩,_,r,k,0,HEQ.out,HK.out.low,HK.out.own,.inl ⟨rfl,HJ.out⟩⟩
end Go.Proofs.YtigopecainocgaaGreatDoor
namespace Go.Proofs.YtigopecainocgaaGreatDoor
open Go.RowKit Go.Shelf
theorem own_put {X : World} {B r : Nat} {v : Value} {l : List Opn} {ob o : Obj} (h : OwnO X B v l) (hr : X.heap[r]? = some ob) (hc : ob.isCells = false) : OwnO (X.putObj r o) B v l :=
 h.far fun k hk => World.putObj_heap_other (fun e => by
  obtain ⟨_,cs,hx⟩:=ownR_blk h hk
  rw [e,hr] at hx
  cases hx
  cases hc)
theorem below_put {w X : World} {r : Nat} {o : Obj} (h : Below w.heap.size w X) (hr : w.heap.size ≤ r) : Below w.heap.size w (X.putObj r o) :=
 ⟨h.os,h.tape,h.output,by simpa using h.size,fun k hk => (World.putObj_heap_other (by omega)).trans (h.block k hk)⟩
def LeftE (T : Nat → Prop) (J : Nat → Value → Int → World → Prop) (Jx : Nat → Value → Int → Int → World → Prop) (id k : Nat) (v : Value) (r : Int) (v' : Value) (r' e : Int) (X : World) : Exit → Act → World → Prop
 | .normal,_,Y => Apart T X Y ∧ e = 0 ∧ J (k + 1) v' r' Y
 | .exit i,_,Y => i = id ∧ Apart T X Y ∧ e ≠ 0 ∧ Jx k v r e Y
 | _,_,_ => False
theorem range_each {n : Nat} {g : Operand} {ps : Array Tmp} {assign body : Code} {Q : Exit → Act → World → Prop} {a : Act} {w : World} (h1 : 1 ≤ n) (h2 : 1 ≤ n - 1) (id : Nat) (w0 : World) (bd bl bf bn be : Nat) (ia : Option Addr) (i ic : Nat) (wa : Option Addr) (wn wc : Nat) (W0 ops : List Opn) (lv : Value) (free : Bool) (fine : Nat) (fault room0 : Int)
  (hg : a.eval g = .func (.func 81) #[] #[.pointer (some ⟨bd,0,none⟩),.pointer (some ⟨bl,0,none⟩),.pointer (some ⟨bf,0,none⟩),.pointer (some ⟨bn,0,none⟩),.pointer (some ⟨be,0,none⟩)]) (eg : ∀ args w,(callFunc 81 args).run Tryz.prog w = .ok (.enter 81 args) w) (D : Nat) (hD : D = w.heap.size) (hps : ps.size = 2)
  (T : Nat → Prop) (hT : ∀ b,T b → w0.heap.size ≤ b ∧ b < D) (hT2 : ¬ T bd ∧ ¬ T bl ∧ ¬ T bf ∧ ¬ T bn ∧ ¬ T be) (hT3 : ∀ g,(Value.slice wa wn wc).ownBlock = some g → ¬ T g)
  (hC : Caps w bd bl bf bn be (.slice ia i ic) (.slice wa wn wc) room0 lv free fine fault) (hlow : Below w0.heap.size w0 w) (hown : OwnO w w0.heap.size (.slice wa wn wc) W0) (hl : RdO w0 lv ops)
  (hroom : -1 ≤ room0 ∧ room0 ≤ 9223372036854775807) (hW0 : W0.length ≤ 8000) (hol : ops.length ≤ 100000)
  (J : Nat → Value → Int → World → Prop) (Jx : Nat → Value → Int → Int → World → Prop)
  (hJ : ∀ k v r X Y,J k v r X → (∀ b,T b → Y.heap[b]? = X.heap[b]?) → J k v r Y)
  (hJx : ∀ k v r e X Y,Jx k v r e X → (∀ b,T b → Y.heap[b]? = X.heap[b]?) → Jx k v r e Y)
  (h0 : J 0 (.slice wa wn wc) room0 w) (a₁ : Value → Int → Int → Nat → Act)
  (hassign : ∀ l v' r' e X (K : Act → World → Prop),(∃ a n c,v' = .slice a n c) → (∀ X₁ b,Below X.heap.size X X₁ → Box X₁ b 27 #[.slice ia i ic,v',.int .i64 r'] → X.heap.size ≤ b → K (a₁ v' r' e b) X₁) → assign.wpIn (Fence.wide.inRound l) (n - 1 - 1) Tryz.prog (Exit.then K (fun _ _ _ => False)) { tmps:=(ps.zip #[.agg #[.slice ia i ic,v',.int .i64 r'],.int .i64 e]).foldl (fun t (p,v) => t.setIfInBounds p v) a.tmps,defers:=[] } X)
  (hbody : ∀ l k v r v' r' e X b,J k v r X → k < ops.length → (e ≠ 0 → v' = v ∧ r' = r) → (∃ a n c,v' = .slice a n c) → Box X b 27 #[.slice ia i ic,v',.int .i64 r'] → D + 2 ≤ b → body.wpIn (Fence.wide.inRound l) (n - 1 - 1) Tryz.prog (LeftE T J Jx id k v r v' r' e X) (a₁ v' r' e b) X)
  (hdone : ∀ v r (many : Nat) X,goD free fine fault 0 W0.length room0 ops = (r,many,0) → Below w0.heap.size w0 X → OwnO X w0.heap.size v (W0 ++ ops.take many) → J many v r X → X.heap[D]? = some (.deferred (some [])) → Q .normal { a with defers:={ target:=.collected D,args:=#[] } :: a.defers } X)
  (hstop : ∀ v r (many : Nat) er X,er ≠ 0 → goD free fine fault 0 W0.length room0 ops = (r,many,er) → Below w0.heap.size w0 X → OwnO X w0.heap.size v (W0 ++ ops.take many) → Jx many v r er X → X.heap[D]? = some (.deferred (some [])) → (Code.exit id).wpIn Fence.wide n Tryz.prog Q { a with defers:={ target:=.collected D,args:=#[] } :: a.defers } X) :
  (Code.rangeFunc g ps assign body).wpIn Fence.wide n Tryz.prog Q a w:=by
 refine wpIn_rangeFunc fun fn hfn => ?_
 have hro : Fence.wide.round = none:=rfl
 rw [hro]
 let R : LoopState → Option Code → Obj:=fun st j => .loop { state:=st,pending:=j,fn:=fn,tmps:=a.tmps,params:=ps,assign:=assign,body:=body,defers:=w.heap.size }
 let w1 : World:=(w.alloc (.deferred (some []))).alloc (R .ready none)
 have s1 : w1.heap.size = D + 2:=by simp [w1]; omega
 have r1 : w1.heap[D + 1]? = some (R .ready none):=by
  have:=World.alloc_heap_new (w.alloc (.deferred (some []))) (R .ready none)
  rwa [World.size_alloc,← hD] at this
 have d1 : w1.heap[D]? = some (.deferred (some [])):=by
  have:=World.alloc_heap_new w (.deferred (some []))
  rw [← hD] at this
  exact (Below.heap_alloc _ _ _ (by simp; omega)).trans this
 have hb1 : Below w.heap.size w w1:=bch (below_new _ _) (below_new _ _)
 let T' : Nat → Prop:=fun b => T b ∨ b = D ∨ b = D + 1
 let J' : Nat → Value → Int → World → Prop:=fun k v r X => J k v r X ∧ X.heap[D + 1]? = some (R .ready none) ∧ X.heap[D]? = some (.deferred (some []))
 let Jx' : Nat → Value → Int → Int → World → Prop:=fun k v r e X => Jx k v r e X ∧ X.heap[D + 1]? = some (R .done (some (.exit id))) ∧ X.heap[D]? = some (.deferred (some []))
 have hsz0:=hlow.size
 have hlt : bd < D ∧ bl < D ∧ bf < D ∧ bn < D ∧ be < D:=by rw [hD]; exact ⟨hC.d.lt,hC.l.lt,hC.f.lt,hC.n.lt,hC.e.lt⟩
 refine ⟨D + 1,[{ target:=.collected D,args:=#[] }],w1,{ target:=.fn (.func 81) #[.pointer (some ⟨bd,0,none⟩),.pointer (some ⟨bl,0,none⟩),.pointer (some ⟨bf,0,none⟩),.pointer (some ⟨bn,0,none⟩),.pointer (some ⟨be,0,none⟩)],args:=#[.func (.yield (D + 1)) #[] #[]] },w1,81,#[.func (.yield (D + 1)) #[] #[]] ++ #[.pointer (some ⟨bd,0,none⟩),.pointer (some ⟨bl,0,none⟩),.pointer (some ⟨bf,0,none⟩),.pointer (some ⟨bn,0,none⟩),.pointer (some ⟨be,0,none⟩)],w1,?_,?_,?_,?_,fun _ => h1,?_⟩
 ·have:=run_enterLoop_outer (P:=Tryz.prog) (w:=w) fn a.tmps ps assign body
  rw [this,← hD]
  simp only [w1,R,hD]
 ·simp only [resolve,hg]
  simp [go_sem]
 ·intro f' e
  trivial
 ·simp [invoke,go_sem,eg]
 ·refine (each_hands (n - 1) h2 (D + 1) T' w0 w1 bd bl bf bn be ia i ic wa wn wc W0 ops lv free fine fault room0 (hC.keep fun _ _ _ hX _ _ => hX.on hb1) (hlow.trans (hb1.mono hsz0)) (hown.on hb1) hl ?_ ?_ ?_ hroom hW0 hol J' Jx' ?_ ?_ ?_ ?_).mono ?_
  ·rintro b (hb | rfl | rfl)
   ·have:=hT b hb; omega
   ·omega
   ·omega
  ·refine ⟨?_,?_,?_,?_,?_⟩ <;> rintro (hb | hb | hb)
   all_goals first | omega | (simp_all)
  ·rintro g hg2 (hb | hb | hb)
   ·exact hT3 g hg2 hb
   ·have:=own_lt hown hg2; omega
   ·have:=own_lt hown hg2; omega
  ·rintro k v r X Y ⟨e1,e2,e3⟩ hk
   exact ⟨hJ _ _ _ _ _ e1 fun b hb => hk b (.inl hb),(hk _ (.inr (.inr rfl))).trans e2,(hk _ (.inr (.inl rfl))).trans e3⟩
  ·rintro k v r e X Y ⟨e1,e2,e3⟩ hk
   exact ⟨hJx _ _ _ _ _ _ e1 fun b hb => hk b (.inl hb),(hk _ (.inr (.inr rfl))).trans e2,(hk _ (.inr (.inl rfl))).trans e3⟩
  ·rintro k v r v' r' e X ⟨hk,hr,hd⟩ hsz hlt2 he hsl
   have hszX : D + 2 ≤ X.heap.size:=by omega
   refine ⟨fn,_,assign,body,run_yield hr (by simp [hps]),roundIn_of_wpIn hfn (hassign _ v' r' e X _ hsl fun X₁ b hb hBx hbl => ?_)⟩
   have hr1 : X₁.heap[D + 1]? = some (R .ready none):=(hb.block (D + 1) (by omega)).trans hr
   have hd1 : X₁.heap[D]? = some (.deferred (some [])):=(hb.block D (by omega)).trans hd
   have hs1 : X.heap.size ≤ X₁.heap.size:=hb.size
   refine ⟨_,run_beginRound hr1 rfl,?_⟩
   have hr2:=World.putObj_heap_same (w:=X₁) (r:=D + 1) (o:=R .busy none) (by omega)
   have hd2:=(World.putObj_heap_other (w:=X₁) (r:=D + 1) (o:=R .busy none) (k:=D) (by omega)).trans hd1
   have hk2 : J k v r (X₁.putObj (D + 1) (R .busy none)):=hJ _ _ _ _ _ hk fun b hb2 => by
    have:=(hT b hb2).2
    exact (World.putObj_heap_other (by omega)).trans (hb.block b (by omega))
   have hbx2 : Box (X₁.putObj (D + 1) (R .busy none)) b 27 #[.slice ia i ic,v',.int .i64 r']:=(World.putObj_heap_other (by omega)).trans hBx
   have ha1 : Apart T' X (X₁.putObj (D + 1) (R .busy none)):=⟨hb.os,hb.tape,hb.output,by simpa using hs1,fun k hk hT' => (World.putObj_heap_other (fun e => hT' (.inr (.inr e)))).trans (hb.block k hk)⟩
   refine wpIn_mono (hbody _ k v r v' r' e _ b hk2 hlt2 he hsl hbx2 (by omega)) ?_
   rintro ex a3 Y hp
   have fin : ∀ (j : Option Code),Apart T (X₁.putObj (D + 1) (R .busy none)) Y → (Instr.endRound (D + 1) j).run Tryz.prog Y = .ok (.bool j.isNone) (Y.putObj (D + 1) (R (if j.isNone then .ready else .done) j)) ∧
     (Y.putObj (D + 1) (R (if j.isNone then .ready else .done) j)).heap[D + 1]? = some (R (if j.isNone then .ready else .done) j) ∧ (Y.putObj (D + 1) (R (if j.isNone then .ready else .done) j)).heap[D]? = some (.deferred (some [])) ∧ Apart T' X (Y.putObj (D + 1) (R (if j.isNone then .ready else .done) j)):=by
    intro j hfx
    have hnT : ∀ b,D ≤ b → ¬ T b:=fun b hb hb2 => by have:=(hT b hb2).2; omega
    have hr3:=(hfx.block (D + 1) (by simp; omega) (hnT _ (by omega))).trans hr2
    have hd3:=(hfx.block D (by simp; omega) (hnT _ (Nat.le_refl _))).trans hd2
    refine ⟨run_endRound j hr3,World.putObj_heap_same (Array.getElem?_eq_some_iff.1 hr3).1,(World.putObj_heap_other (by omega)).trans hd3,ha1.trans ⟨hfx.os,hfx.tape,hfx.output,by simpa using hfx.size,fun k hk hT' => (World.putObj_heap_other (fun e => hT' (.inr (.inr e)))).trans (hfx.block k hk fun h => hT' (.inl h))⟩⟩
   have hJput : ∀ {k v r} {Y : World} {o : Obj},J k v r Y → J k v r (Y.putObj (D + 1) o):=fun h => hJ _ _ _ _ _ h fun b hb2 => World.putObj_heap_other (by have:=(hT b hb2).2; omega)
   have hJxput : ∀ {k v r e} {Y : World} {o : Obj},Jx k v r e Y → Jx k v r e (Y.putObj (D + 1) o):=fun h => hJx _ _ _ _ _ _ h fun b hb2 => World.putObj_heap_other (by have:=(hT b hb2).2; omega)
   cases ex with
   | normal =>
    obtain ⟨hfx,he0,hx⟩:=hp
    obtain ⟨q1,q2,q3,q4⟩:=fin none hfx
    exact ⟨_,_,q1,q4,.inl ⟨rfl,he0,hJput hx,q2,q3⟩⟩
   | exit j =>
    obtain ⟨rfl,hfx,he0,hx⟩:=hp
    obtain ⟨q1,q2,q3,q4⟩:=fin (some (.exit j)) hfx
    exact ⟨_,_,q1,q4,.inr ⟨rfl,he0,hJxput hx,q2,q3⟩⟩
   | ret => exact hp.elim
   | goto t => exact hp.elim
   | panic c => exact hp.elim
   | outgrown => exact hp.elim
  ·exact ⟨hJ _ _ _ _ _ h0 fun b hb => hb1.block b (by have:=(hT b hb).2; omega),r1,d1⟩
  ·rintro en Y ⟨⟨v,rfl⟩,v',r,many,er,heq,hlo,ho,⟨rfl,hx,hr,hd⟩ | ⟨he,hx,hr,hd⟩⟩
   ·exact ⟨none,_,run_endLoop hr (by simp),hdone v' r many _ heq (below_put hlo (by omega)) (own_put ho hr rfl) (hJ _ _ _ _ _ hx fun b hb2 => World.putObj_heap_other (by have:=(hT b hb2).2; omega)) ((World.putObj_heap_other (by omega)).trans hd)⟩
   ·exact ⟨some (.exit id),_,run_endLoop hr (by simp),hstop v' r many er _ he heq (below_put hlo (by omega)) (own_put ho hr rfl) (hJx _ _ _ _ _ _ hx fun b hb2 => World.putObj_heap_other (by have:=(hT b hb2).2; omega)) ((World.putObj_heap_other (by omega)).trans hd)⟩
end Go.Proofs.YtigopecainocgaaGreatDoor
namespace Go.Proofs.YtigopecainocgaaGreatDoor
open Go.RowKit Go.Shelf
def CopyR (d : Dsk) (w : World) (e : Ending) (w' : World) : Prop:=∃ iv wv,e = .returned (.agg #[iv,wv,.int .i64 d.room]) ∧ OwnI w' w.heap.size iv d.safe ∧ OwnO w' w.heap.size wv d.wait ∧ Below w.heap.size w w'
theorem copied_is (d : Dsk) (iv wv : Value) (w : World) (h : RdD w iv wv d) (hs : d.safe.length ≤ 2000) (hw : d.wait.length ≤ 8000) : Calls Tryz.prog 57 #[.agg #[iv,wv,.int .i64 d.room]] w (CopyR d w):=by
 obtain ⟨ia,ic,rfl,_⟩:=h.items.open
 obtain ⟨wa,wc,rfl,_⟩:=h.wait.open
 obtain ⟨w1,hw1⟩:=nmq ((w.alloc (.cells #[.slice ia d.safe.length ic,.slice wa d.wait.length wc,.int .i64 d.room] 27)).alloc (.cells #[.slice none 0 0,.slice none 0 0,.int .i64 0] 27))
 obtain ⟨bd,hbd⟩:=nmq (w.heap.size)
 have X0 : Hid (Box w1 bd 27 #[.slice ia d.safe.length ic,.slice wa d.wait.length wc,.int .i64 d.room]):=hyq (by rw [hw1,hbd]; exact box_new.alloc _)
 have X1 : Hid (Box w1 (bd + 1) 27 #[.slice none 0 0,.slice none 0 0,.int .i64 0]):=hyq (by rw [hw1,hbd,show w.heap.size + 1 = (w.alloc (.cells #[.slice ia d.safe.length ic,.slice wa d.wait.length wc,.int .i64 d.room] 27)).heap.size from by simp]; exact box_new)
 have HB1 : Hid (Below w.heap.size w w1):=hyq (by rw [hw1]; exact bch (below_new _ _) (below_new _ _))
 have HC1:=hyq (clone_any d.safe _ w1 (h.items.on HB1.out) (by omega))
 have HC2 : Hid (∀ W,Below w1.heap.size w1 W → ∀ W',(∀ k,k ≠ bd → W'.heap[k]? = W.heap[k]?) → Calls Tryz.prog 42 #[.slice wa d.wait.length wc] W' fun e w' => ∃ x',e = .returned x' ∧ OwnO w' W'.heap.size x' d.wait ∧ Below W'.heap.size W' w'):=hyq (fun W hW W' hk => by
  refine cloneO_any d.wait _ W' ?_ (by omega)
  obtain ⟨a,c,e1,e2,e3,e4⟩:=(h.wait.on HB1.out).on hW
  refine ⟨a,c,e1,e2,e3,fun h0 => ?_⟩
  obtain ⟨g,o,e5,e6,e7⟩:=e4 h0
  have hgw : g < w.heap.size:=by
   obtain ⟨a',c',f1,f2,f3,f4⟩:=h.wait
   obtain ⟨g',o',f5,f6,f7⟩:=f4 h0
   injection e1 with i1
   injection f1 with j1
   rw [e5] at i1
   rw [← j1,i1] at f5
   injection f5 with f5
   injection f5 with f5
   omega
  have hne : g ≠ bd:=by omega
  have hh:=hk g hne
  have hlt : g < W'.heap.size:=by
   rcases Nat.lt_or_ge g W'.heap.size with q | q
   ·exact q
   ·rw [Array.getElem?_eq_none q,Array.getElem?_eq_getElem e6] at hh
    cases hh
  exact ⟨g,o,e5,hlt,fun j u hu => (World.cell?_of_block hh).trans (e7 j u hu)⟩)
 have HLE : Hid (w.heap.size ≤ bd ∧ bd + 1 < w1.heap.size):=hyq ⟨by rw [hbd]; exact Nat.le_refl _,X1.out.lt⟩
 obtain ⟨room,hroom⟩:=nmq (d.room)
 obtain ⟨i,hi⟩:=nmq (d.safe.length)
 obtain ⟨n,hn⟩:=nmq (d.wait.length)
 have FIN : Hid (∀ iv wv W,OwnI W w.heap.size iv d.safe → OwnO W w.heap.size wv d.wait → Below w.heap.size w W → CopyR d w (.returned (.agg #[iv,wv,.int .i64 room])) W):=hyq (fun iv wv W h1 h2 h3 => ⟨iv,wv,by rw [hroom],h1,h2,h3⟩)
 rw [← hi,← hn,← hroom] at X0 hw1 ⊢
 rw [← hi] at HC1
 rw [← hn] at HC2
 have HI:=hyq hi
 have HN:=hyq hn
 have d0 : w1.cell? ⟨bd,0,none⟩ = some (.slice ia i ic):=X0.out.cell (k:=0) rfl
 clear hn hroom hi h hs hw
 go_enter Tryz.func57,Tryz.ntmps57
 go_upto_region 1 with fail
 rw [← hw1,← hbd]
 clear hw1 hbd
 go_wp2_with fail
 refine HC1.out.mono ?_
 rintro e w2 ⟨x2,rfl,ho2,hb2⟩
 obtain ⟨a2,c2,rfl⟩:=ownR_any ho2
 have X02:=hyq (X0.out.on hb2)
 have X12:=hyq (X1.out.on hb2)
 obtain ⟨w3,hw3⟩:=nmq (w2.setCell ⟨bd,0,none⟩ (.slice a2 i c2))
 have hlt2:=HLE.out.2
 have X03 : Hid (Box w3 bd 27 #[.slice a2 i c2,.slice wa n wc,.int .i64 room]):=hyq (by rw [hw3]; exact X02.out.set (k:=0) _)
 have X13 : Hid (Box w3 (bd + 1) 27 #[.slice none 0 0,.slice none 0 0,.int .i64 0]):=hyq (by rw [hw3]; exact X12.out.far (by show bd + 1 ≠ bd; omega) _)
 have O3 : Hid (OwnI w3 w1.heap.size (.slice a2 i c2) d.safe):=hyq (by
  have hx : OwnI w2 w1.heap.size (.slice a2 i c2) d.safe:=by
   unfold OwnI
   rw [← HI.out]
   exact ho2
  rw [hw3]
  exact hx.far fun k hk => heap_setCell_other _ _ _ _ (by
   have:=(ownR_blk hx hk).1
   show k ≠ bd
   omega))
 have HB3 : Hid (Below w.heap.size w w3):=hyq (by rw [hw3]; exact (bch HB1.out hb2).setCell (p:=⟨bd,0,none⟩) HLE.out.1 _)
 have HS3 : Hid (w1.heap.size ≤ w3.heap.size):=hyq (by rw [hw3]; simpa using hb2.size)
 have HC3:=hyq (HC2.out w2 hb2 w3 (fun k hk => by rw [hw3]; exact heap_setCell_other _ _ _ _ hk))
 have z0 : w2.cell? ⟨bd,0,none⟩ = some (.slice ia i ic):=X02.out.cell (k:=0) rfl
 have zf:=frozen_of_row w2 bd 0 _ _ X02.out
 have y1 : w3.cell? ⟨bd,1,none⟩ = some (.slice wa n wc):=X03.out.cell (k:=1) rfl
 have HW3:=hyq hw3
 clear ho2 hb2 hw3 d0 HC1 HC2 hlt2
 go_upto_region 2 with fail
 rw [← HW3.out]
 clear z0 zf
 go_wp2_with fail
 refine HC3.out.mono ?_
 rintro e w4 ⟨x4,rfl,ho4,hb4⟩
 obtain ⟨a4,c4,hx4⟩:=ho4.any
 rw [← HN.out] at hx4
 subst hx4
 have X04:=hyq (X03.out.on hb4)
 have X14:=hyq (X13.out.on hb4)
 obtain ⟨w5,hw5⟩:=nmq (w4.setCell ⟨bd,1,none⟩ (.slice a4 n c4))
 have hlt4 : bd + 1 < w3.heap.size:=by have:=HLE.out.2; have:=HS3.out; omega
 have X05 : Hid (Box w5 bd 27 #[.slice a2 i c2,.slice a4 n c4,.int .i64 room]):=hyq (by rw [hw5]; exact X04.out.set (k:=1) _)
 have X15 : Hid (Box w5 (bd + 1) 27 #[.slice none 0 0,.slice none 0 0,.int .i64 0]):=hyq (by rw [hw5]; exact X14.out.far (by show bd + 1 ≠ bd; omega) _)
 have O5 : Hid (OwnI w5 w1.heap.size (.slice a2 i c2) d.safe):=hyq (by
  have hx:=O3.out.on hb4
  rw [hw5]
  exact hx.far fun k hk => heap_setCell_other _ _ _ _ (by
   have:=(ownR_blk hx hk).1
   have:=HLE.out.2
   show k ≠ bd
   omega))
 have Q5 : Hid (OwnO w5 w3.heap.size (.slice a4 n c4) d.wait):=hyq (by
  rw [hw5]
  exact ho4.far fun k hk => heap_setCell_other _ _ _ _ (by
   have:=(ownR_blk ho4 hk).1
   show k ≠ bd
   omega))
 have HB5 : Hid (Below w.heap.size w w5):=hyq (by rw [hw5]; exact (bch HB3.out hb4).setCell (p:=⟨bd,1,none⟩) HLE.out.1 _)
 have z1 : w4.cell? ⟨bd,1,none⟩ = some (.slice wa n wc):=X04.out.cell (k:=1) rfl
 have zf:=frozen_of_row w4 bd 1 _ _ X04.out
 have v0 : w5.cell? ⟨bd,0,none⟩ = some (.slice a2 i c2):=X05.out.cell (k:=0) rfl
 have v1 : w5.cell? ⟨bd,1,none⟩ = some (.slice a4 n c4):=X05.out.cell (k:=1) rfl
 have v2 : w5.cell? ⟨bd,2,none⟩ = some (.int .i64 room):=X05.out.cell (k:=2) rfl
 have HW5:=hyq hw5
 have E5 : Hid (∀ cs,OwnI (w5.setRow (bd + 1) cs) w.heap.size (.slice a2 i c2) d.safe ∧ OwnO (w5.setRow (bd + 1) cs) w.heap.size (.slice a4 n c4) d.wait ∧ Below w.heap.size w (w5.setRow (bd + 1) cs)):=hyq (fun cs => by
  have h1:=HLE.out
  have h3:=HB3.out.size
  refine ⟨own_base (O5.out.far fun k hk => setRow_other _ _ _ _ (by have:=(ownR_blk O5.out hk).1; omega)) HB1.out.size,(Q5.out.far fun k hk => setRow_other _ _ _ _ (by have:=(ownR_blk Q5.out hk).1; omega)).base h3,below_row HB5.out (by omega) _⟩)
 clear ho4 hb4 hw5 y1 HC3 hlt4
 go_upto_region 3 with fail
 rw [← HW5.out]
 clear z1 zf
 go_wp2_with (first | (refine wpList_store_row rfl 27 (.tmp 2) (.tmp 13) rfl (bd + 1) #[.slice a2 i c2,.slice a4 n c4,.int .i64 room] rfl rfl 27 #[.slice none 0 0,.slice none 0 0,.int .i64 0] X15.out (info27 _ _ _) rfl (darr_one _ _ _ _ _ _ _) ?_) | fail)
 obtain ⟨h1,h2,h3⟩:=E5.out #[.slice a2 i c2,.slice a4 n c4,.int .i64 room]
 refine bodyPost_ret ?_ rfl (FIN.out _ _ _ h1 h2 h3)
 exact end_disk rfl _ (X15.out.row _) rfl
end Go.Proofs.YtigopecainocgaaGreatDoor
