/- Proved here: What moved of package tree keeps from round to round, and slices.Concat of two rows of names. -/
import Derived.Test.YtigopecainocgaaGreatDoorOMeth2
import Derived.Test.YtigopecainocgaaGreatDoorOCat
import Derived.Test.YtigopecainocgaaGreatDoorOMath3
import Derived.Maps.OwnIn
set_option maxRecDepth 100000
set_option maxHeartbeats 32000000
namespace Go.Proofs.YtigopecainocgaaGreatDoor
open Go.RowKit Go.Shelf
theorem own9_far {w w' : World} {B n : Nat} {v : Value} {xs : List Value} (h : w.ownsRow B 9 1 v n xs) (hb : ∀ k,v.ownBlock = some k → w'.heap[k]? = w.heap[k]?) : w'.ownsRow B 9 1 v n xs:=by
 obtain ⟨h1,hc⟩:=h
 rcases hc with h0 | ⟨g,c,cur,rfl,hB,hg,hr⟩
 ·exact ⟨h1,.inl h0⟩
 ·exact ⟨h1,.inr ⟨g,c,cur,rfl,hB,(hb g rfl).trans hg,hr⟩⟩
theorem cat_two (A R : List Str) (a1 a2 : Option Addr) (c1 c2 BA BB : Nat) (W : World) (hA : W.ownsRow BA 9 1 (.slice a1 A.length c1) A.length (A.map encS)) (hR : W.ownsRow BB 9 1 (.slice a2 R.length c2) R.length (R.map encS)) (hl : A.length + R.length ≤ 1000) :
  Calls Tryz.prog 107 #[.slice (some ⟨W.heap.size,0,none⟩) 2 2] (W.alloc (.cells #[.slice a1 A.length c1,.slice a2 R.length c2] 69)) fun e w' => ∃ v' BC,e = .returned v' ∧ w'.ownsRow BC 9 1 v' (A ++ R).length ((A ++ R).map encS) ∧ Below W.heap.size W w':=by
 have hb:=below_new W (.cells #[.slice a1 A.length c1,.slice a2 R.length c2] 69)
 have X : Box (W.alloc (.cells #[.slice a1 A.length c1,.slice a2 R.length c2] 69)) W.heap.size 69 #[.slice a1 A.length c1,.slice a2 R.length c2]:=box_new
 have hf : [A.map encS,R.map encS].flatten = (A ++ R).map encS:=by simp
 have e1 : ∀ L : List Str,∀ y ∈ L.map encS,y.oneCell' = true:=fun L y hy => by
  obtain ⟨s,_,rfl⟩:=List.mem_map.1 hy
  rfl
 refine (concat107_any [A.map encS,R.map encS] _ _ ⟨[.slice a1 A.length c1,.slice a2 R.length c2],⟨some ⟨W.heap.size,0,none⟩,2,rfl,Nat.le_refl _,by decide,(fun h => by cases h),fun _ => ⟨W.heap.size,0,rfl,X.lt,fun j x hx => ?_⟩⟩,rfl,fun i x r hx hr => ?_⟩ (fun r hr y hy => ?_) ?_).mono ?_
 ·rw [Nat.zero_add]
  exact X.cell (by rw [← Array.getElem?_toList]; exact hx)
 ·match i,hx,hr with
  | 0,hx,hr =>
   simp at hx hr
   subst hx hr
   exact Rd.of_own (owns_below hA hb)
  | 1,hx,hr =>
   simp at hx hr
   subst hx hr
   exact Rd.of_own (owns_below hR hb)
 ·rcases List.mem_cons.1 hr with rfl | hr
  ·exact e1 A y hy
  ·obtain rfl:=List.mem_singleton.1 hr
   exact e1 R y hy
 ·rw [hf,List.length_map,List.length_append]; omega
 ·rintro e w' ⟨v',he,hown,hb2⟩
  rw [hf] at hown
  refine ⟨v',_,he,by rw [List.length_map] at hown; exact hown,bch hb hb2⟩
def mL {l : List It} (frm tgt : Str) (x : It) (pre : List (Ben l frm)) : List It:=⟨tgt,x.kind,x.data⟩ :: pre.map fun y => newI frm tgt y.1
def mI (V : World) (g0 : Nat) {l : List It} (frm tgt : Str) (x : It) (pre : List (Ben l frm)) (W : World) : Prop :=
 (∀ y ∈ pre,partsB (newN frm tgt y.1.path) = true) ∧ ∃ v10,Box W (g0 + 1) 22 #[v10] ∧ OwnI W g0 v10 (mL frm tgt x pre) ∧ Nxt (g0 + 1) (.slice (some ⟨g0,0,none⟩) 1 1) v10 V W
def mX (w : World) (b4 : Nat) {l : List It} (frm tgt : Str) (c : Code) (pre : List (Ben l frm)) (W : World) : Prop :=
 (c = .ret ∧ ∃ y ∈ pre,partsB (newN frm tgt y.1.path) = false) ∧ Boxed W (b4 + 1) 22 (.slice none 0 0) ∧ Boxed W (b4 + 1 + 1) 32 (.int .i64 110) ∧ Below w.heap.size w W
theorem cells_ne {W : World} {k : Nat} {cs : Array Value} {t : TypeId} {fr : Nat × Nat} (h : W.heap[k]? = some (.cells cs t fr)) {row : Option Nat} (hr : ∀ r,row = some r → ∃ o : Obj,W.heap[r]? = some o ∧ o.isCells = false) : some k ≠ row:=fun e => by
 obtain ⟨o,ho,hc⟩:=hr k e.symm
 rw [h] at ho
 cases ho
 cases hc
theorem mI_own (V : World) (g0 : Nat) {l : List It} (frm tgt : Str) (x : It) : OwnFrom V.heap.size (mI V g0 (l:=l) frm tgt x):=by
 rintro pre W W' row ⟨h1,v10,hX,hO,hN⟩ hg hr
 have hne : ∀ r,row = some r → ∃ o : Obj,W.heap[r]? = some o ∧ o.isCells = false:=fun r e => (hr r e).2
 refine ⟨h1,v10,(hg.block _ hX.lt (cells_ne hX hne)).trans hX,hO.far fun k hk => ?_,⟨hg.os.trans hN.os,hg.tape.trans hN.tape,hg.output.trans hN.output,Nat.le_trans hN.size hg.size,fun k hk h2 h3 => ?_,hN.row⟩⟩
 ·rcases own_form hO with ⟨_,q⟩ | ⟨r,c,_,_,hlt,q,cs,t,hcs⟩
  ·rw [q] at hk; cases hk
  ·rw [q] at hk; cases hk
   exact hg.block _ hlt (cells_ne hcs hne)
 ·refine (hg.block k (Nat.lt_of_lt_of_le hk hN.size) fun e => ?_).trans (hN.block k hk h2 h3)
  have:=(hr k e.symm).1
  omega
theorem mX_own (w : World) (b4 : Nat) {l : List It} (frm tgt : Str) (B : Nat) (hB : w.heap.size ≤ B) (c : Code) : OwnFrom B (mX w b4 (l:=l) frm tgt c) :=
 OwnFrom.and (ownFrom_pure _ fun pre : List (Ben l frm) => c = .ret ∧ ∃ y ∈ pre,partsB (newN frm tgt y.1.path) = false) (OwnFrom.and (Own.from (boxed_own _ _ fun _ => _) _) (OwnFrom.and (Own.from (boxed_own _ _ fun _ => _) _) (ownFrom_below (Nat.le_refl _) hB)))
def mA (V : World) (g0 : Nat) (y : It) (Bx : Nat) (W : World) : Prop:=V.heap.size ≤ Bx ∧ Box W Bx 59 y.arr ∧ ∀ v10,W.cell? ⟨g0 + 1,0,none⟩ = some v10 → v10.ownBlock ≠ some Bx
theorem mA_own {V : World} {g0 Bx : Nat} {y : It} {W W' : World} {row : Option Nat} (hg0 : g0 + 1 < V.heap.size) (h : mA V g0 y Bx W) (hg : W.grownBy W' row) (hr : ∀ r,row = some r → V.heap.size ≤ r ∧ ∃ o : Obj,W.heap[r]? = some o ∧ o.isCells = false) : mA V g0 y Bx W':=by
 obtain ⟨h1,h2,h3⟩:=h
 have hlt:=h2.lt
 refine ⟨h1,(hg.block _ h2.lt (cells_ne h2 fun r e => (hr r e).2)).trans h2,fun v10 hv => h3 v10 ?_⟩
 rw [← hv]
 exact (World.cell?_of_block (hg.block (g0 + 1) (by omega) fun e => by have:=(hr _ e.symm).1; omega)).symm
theorem mI_step {V W W5 w' : World} {g0 Bx : Nat} {l : List It} {frm tgt : Str} {x : It} {pre : List (Ben l frm)} {y : Ben l frm} {v10 v' : Value} {u : Value} (hI : mI V g0 frm tgt x pre W) (hX : Box W (g0 + 1) 22 #[v10]) (hO : OwnI W g0 v10 (mL frm tgt x pre)) (hN : Nxt (g0 + 1) (.slice (some ⟨g0,0,none⟩) 1 1) v10 V W) (hA : mA V g0 y.1 Bx W) (hg0 : g0 + 1 < V.heap.size)
  (hb : Below W.heap.size W W5) (o : Obj) (hp : partsB (newN frm tgt y.1.path) = true)
  (hown : OwnI w' g0 v' (mL frm tgt x pre ++ [newI frm tgt y.1])) (hg : ((W5.setCell ⟨Bx,0,none⟩ u).alloc o).grownBy w' v10.ownBlock) (hr : v'.ownBlock = v10.ownBlock ∨ v'.ownBlock = some ((W5.setCell ⟨Bx,0,none⟩ u).alloc o).heap.size)
  (S : Nat → Prop) (hS : ∀ k,S k → k < V.heap.size ∧ k ≠ g0 ∧ k ≠ g0 + 1) :
  KeepsFrom V.heap.size W (w'.setCell ⟨g0 + 1,0,none⟩ v') ∧ LowK S W (w'.setCell ⟨g0 + 1,0,none⟩ v') ∧ mI V g0 frm tgt x (pre ++ [y]) (w'.setCell ⟨g0 + 1,0,none⟩ v'):=by
 obtain ⟨hA1,hA2,hA3⟩:=hA
 have hNE : v10.ownBlock ≠ some Bx:=hA3 v10 (hX.cell (k:=0) rfl)
 have hs1 : W.heap.size ≤ ((W5.setCell ⟨Bx,0,none⟩ u).alloc o).heap.size:=by have:=hb.size; simp; omega
 have hVW:=hN.size
 have hBx:=hA2.lt
 have hgW:=hX.lt
 have keep : ∀ k,k < W.heap.size → k ≠ Bx → k ≠ g0 + 1 → v10.ownBlock ≠ some k → (w'.setCell ⟨g0 + 1,0,none⟩ v').heap[k]? = W.heap[k]?:=fun k h1 h2 h3 h4 => by
  have h5 : k < ((W5.setCell ⟨Bx,0,none⟩ u).alloc o).heap.size:=Nat.lt_of_lt_of_le h1 hs1
  have h6 : k < W5.heap.size:=Nat.lt_of_lt_of_le h1 hb.size
  refine (heap_setCell_other _ _ _ _ h3).trans ((hg.block k h5 (fun e => h4 e.symm)).trans ?_)
  exact (Below.heap_alloc _ o k (by simpa using h6)).trans ((heap_setCell_other _ _ _ _ h2).trans (hb.block k h1))
 have hne10 : ∀ k,v10.ownBlock = some k → k ≠ g0 + 1:=fun k e h => by
  rcases own_form hO with ⟨_,q⟩ | ⟨r,c,_,_,_,q,cs,t,hcs⟩
  ·rw [q] at e; cases e
  ·rw [q] at e
   cases e
   rcases hN.row with h2 | h2
   ·rw [q] at h2; injection h2 with h2; subst h2; simp [Value.ownBlock] at *
   ·have:=h2 _ q; omega
 have hXw : Box w' (g0 + 1) 22 #[v10]:=by
  refine (hg.block _ (Nat.lt_of_lt_of_le hgW hs1) (fun e => hne10 _ e.symm rfl)).trans ?_
  have h6 : g0 + 1 < W5.heap.size:=Nat.lt_of_lt_of_le hgW hb.size
  exact (Below.heap_alloc _ o _ (by simpa using h6)).trans ((heap_setCell_other _ _ _ _ (by show g0 + 1 ≠ Bx; omega)).trans ((hb.block _ hgW).trans hX))
 have hrow' : v'.ownBlock ≠ some (g0 + 1):=fun e => by
  rcases hr with h2 | h2
  ·exact hne10 _ (h2 ▸ e) rfl
  ·rw [e] at h2; injection h2 with h2; omega
 have hv10 : ∀ k,k < V.heap.size → k ≠ g0 → v10.ownBlock ≠ some k:=fun k h1 h2 e => by
  rcases hN.row with h3 | h3
  ·rw [e] at h3; injection h3 with h3; exact h2 h3
  ·have:=h3 k e; omega
 refine ⟨⟨?_,fun k ob hk hob hoc => ?_⟩,fun k hk => ?_,?_,v',hXw.set (k:=0) v',?_,⟨?_,?_,?_,?_,fun k h1 h2 h3 => ?_,?_⟩⟩
 ·have:=hg.size; have : (w'.setCell ⟨g0 + 1,0,none⟩ v').heap.size = w'.heap.size:=by simp
  omega
 ·have hlt : k < W.heap.size:=(Array.getElem?_eq_some_iff.1 hob).1
  rw [← hob]
  refine keep k hlt (fun e => ?_) (fun e => by omega) (fun e => ?_)
  ·subst e; rw [show W.heap[k]? = _ from hA2] at hob; cases hob; cases hoc
  ·rcases own_form hO with ⟨_,q⟩ | ⟨r,c,_,_,_,q,cs,t,hcs⟩
   ·rw [q] at e; cases e
   ·rw [q] at e; cases e; rw [hcs] at hob; cases hob; cases hoc
 ·obtain ⟨h1,h2,h3⟩:=hS k hk
  exact keep k (by omega) (by omega) h3 (hv10 k h1 h2)
 ·intro z hz
  rcases List.mem_append.1 hz with hz | hz
  ·exact hI.1 z hz
  ·obtain rfl:=List.mem_singleton.1 hz; exact hp
 ·have e : mL frm tgt x (pre ++ [y]) = mL frm tgt x pre ++ [newI frm tgt y.1]:=by simp [mL]
  rw [e]
  exact hown.far fun k hk => heap_setCell_other _ _ _ _ (fun h => hrow' (by rw [hk,h]))
 ·exact hg.os.trans (hb.os.trans hN.os)
 ·exact hg.tape.trans (hb.tape.trans hN.tape)
 ·exact hg.output.trans (hb.output.trans hN.output)
 ·have:=hg.size; have : (w'.setCell ⟨g0 + 1,0,none⟩ v').heap.size = w'.heap.size:=by simp
  omega
 ·have h4 : k ≠ g0:=fun e => h3 (by rw [e]; rfl)
  exact (keep k (by omega) (by omega) h2 (hv10 k h1 h4)).trans (hN.block k h1 h2 h3)
 ·rcases hr with h2 | h2
  ·rcases hN.row with h3 | h3
   ·exact .inl (h2.trans h3)
   ·exact .inr fun k hk => h3 k (h2 ▸ hk)
  ·refine .inr fun k hk => ?_
   rw [hk] at h2; injection h2 with h2; omega
end Go.Proofs.YtigopecainocgaaGreatDoor
