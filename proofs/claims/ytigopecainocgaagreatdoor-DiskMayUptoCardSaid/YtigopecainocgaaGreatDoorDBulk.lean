/- Proved here: What an argument reads as, with its bulk: for the last steps of the statements up to a size. -/
import Derived.Test.YtigopecainocgaaGreatDoorDMB
set_option maxRecDepth 100000
set_option maxHeartbeats 32000000
namespace Go.Proofs.YtigopecainocgaaGreatDoor
open Go.ChangeShapes Go.WideShapes Go.ChangeAt Go.RowKit Go.Joins
theorem bulk_part {H:Type} {d:DataW H} {l:List (DataW H)} (h:d∈l):Rows.uptoBulk d≤Rows.uptoBulkAll l:=by
 induction l with
 | nil=>cases h
 | cons x r ih =>
  simp only [Rows.uptoBulkAll]
  rcases List.mem_cons.1 h with rfl | h
  ·omega
  ·have:=ih h;omega
theorem argIU_of {H:Type} {enc:TypeId × Value→H} {W:World} {base fuel:Nat} {hd:Bool} {v:Value} {d:DataW H} {p:List MemPlace}
  (hf:DataW.trod enc Tryz.prog W base (fun _=>true) hd fuel 22 [v]=some (d,p)) (hlt:∀ x∈p,x.block<W.heap.size):∃ l,RdI W v l∧∀ x∈l,x.path.length∈d.weights Tryz.prog 22∧x.path.length≤Rows.uptoBulk d:=by
 rcases Go.Deep.open_slice Tryz.underlying22 hf with ⟨hcs,_⟩ | ⟨a,len,cap,m,n,D,Pl,hcs,_,hl,hm,hmm,hx,hi⟩
 ·simp at hcs
  subst hcs
  exact⟨[],RdF.nil W,fun x hx=>by cases hx⟩
 ·simp at hcs
  subst hcs
  simp only [if_true] at hmm
  subst hmm
  simp only [Prod.mk.injEq] at hx
  obtain⟨hd0,rfl⟩:=hx
  have key:∀ i:Nat,∃ b:It,i<m→(∀ (j:Nat),j<3→W.cell? ((a.add (i * 3)).add j)=b.cells[j]?)∧D i=.agg [.lit (.string b.path),.lit (.int .i64 b.kind),.lit (.string b.data)]:=by
   intro i
   by_cases him:i<m
   ·obtain⟨cs',hc,ht⟩:=hi i him
    rw [cells35] at hc
    obtain⟨_,hcl,hat⟩:=World.cells?_some hc
    obtain⟨b,rfl,hD⟩:=it_of ht
    exact⟨b,fun _=>⟨fun j hj=>hat j (by omega),hD⟩⟩
   ·exact⟨It.nil,fun h=>absurd h him⟩
  obtain⟨F,hF⟩:=Classical.axiomOfChoice key
  refine⟨(List.range len).map F,⟨some a,m,by simp,by simpa using hl,hm,fun h0=>?_⟩,fun x hx=>?_⟩
  ·have h0' : 0<len:=by simpa using h0
   obtain⟨g,o,spot⟩:=a
   have hspot:spot=none:=by
    have e:=(hF 0 (by omega)).1 0 (by omega)
    have:=World.cell?_spot (v:=.string ⟨(F 0).path.toArray⟩) (e.trans rfl)
    simpa [Addr.add] using this
   subst hspot
   refine⟨g,o,rfl,hlt (.cell g o) (List.mem_append_left _ (MemPlace.mem_row.2 ⟨0,by rw [cells35];omega,by simp⟩)),fun j u hu=>?_⟩
   obtain⟨q,r,hr,rfl⟩:∃ q r,r<3∧j=q * 3+r:=⟨j / 3,j % 3,by omega,by omega⟩
   rw [flat3 _ q r hr,List.getElem?_map] at hu
   obtain⟨b,hb,hbu⟩:=Option.bind_eq_some_iff.1 hu
   obtain⟨i,hi1,rfl⟩:=Option.map_eq_some_iff.1 hb
   have hql:q<len:=by simpa using (List.getElem?_eq_some_iff.1 hi1).1
   have e:i=q:=by
    have:=(List.getElem?_eq_some_iff.1 hi1).2
    simpa using this.symm
   subst e
   have hk:=(hF i (by omega)).1 r hr
   rw [addr_add,addr_add,Nat.add_assoc] at hk
   rw [hk]
   exact hbu
  ·obtain⟨i,hi1,rfl⟩:=List.mem_map.1 hx
   have hil:i<len:=List.mem_range.1 hi1
   have hD:=(hF i (by omega)).2
   refine⟨?_,?_⟩
   rotate_left
   ·have h1:=bulk_part (d:=D i) (List.mem_map.2 ⟨i,hi1,rfl⟩:D i∈(List.range len).map D)
    rw [hD] at h1
    rw [hd0]
    simp only [Rows.uptoBulk,Rows.uptoBulkAll] at h1 ⊢
    omega
   rw [hd0]
   simp only [DataW.weights,Tryz.underlying22,List.mem_cons,List.mem_append]
   refine .inr (.inl (weights_all (d:=D i) (List.mem_map.2 ⟨i,hi1,rfl⟩) _ ?_))
   rw [hD]
   simp [DataW.weights,Tryz.underlying59,DataW.weightsEach]
theorem argTU_of {H:Type} {enc:TypeId × Value→H} {W:World} {base fuel:Nat} {hd:Bool} {cs:Array Value} {d:DataW H} {p:List MemPlace}
  (hf:DataW.trod enc Tryz.prog W base (fun _=>true) hd fuel 24 cs.toList=some (d,p)) (hlt:∀ x∈p,x.block<W.heap.size):∃ x l,cs=#[x]∧RdI W x l∧∀ y∈l,y.path.length∈d.weights Tryz.prog 24∧y.path.length≤Rows.uptoBulk d:=by
 obtain⟨y0,n,hx,hl,t0⟩:=trod_struct1 Tryz.underlying24 hf
 rw [cells24] at hl
 rw [cells22] at t0
 obtain⟨x,hcx⟩:∃ x,cs.toList=[x]:=by
  match h:cs.toList,hl with
  | [x],_=>exact⟨x,rfl⟩
 rw [hcx] at t0
 simp at t0
 simp only [Prod.mk.injEq] at hx
 obtain⟨hd0,rfl⟩:=hx
 obtain⟨l,h,hw⟩:=argIU_of (d:=y0.1) (p:=y0.2) t0 hlt
 refine⟨x,l,Array.ext' hcx,h,fun y hy=>?_⟩
 rw [hd0]
 refine⟨?_,?_⟩
 ·simp only [DataW.weights,Tryz.underlying24]
  simp only [List.map,DataW.weightsEach,List.append_nil]
  exact (hw y hy).1
 ·have:=(hw y hy).2
  simp only [Rows.uptoBulk,Rows.uptoBulkAll]
  omega
theorem argOU_of {H:Type} {enc:TypeId × Value→H} {W:World} {base fuel:Nat} {hd:Bool} {v:Value} {d:DataW H} {p:List MemPlace}
  (hf:DataW.trod enc Tryz.prog W base (fun _=>true) hd fuel 25 [v]=some (d,p)) (hlt:∀ x∈p,x.block<W.heap.size):∃ l,RdO W v l∧∀ x∈l,x.path.length∈d.weights Tryz.prog 25∧x.to.length∈d.weights Tryz.prog 25∧x.path.length≤Rows.uptoBulk d∧x.to.length≤Rows.uptoBulk d:=by
 rcases Go.Deep.open_slice Tryz.underlying25 hf with ⟨hcs,_⟩ | ⟨a,len,cap,m,n,D,Pl,hcs,_,hl,hm,hmm,hx,hi⟩
 ·simp at hcs
  subst hcs
  exact⟨[],RdF.nil W,fun x hx=>by cases hx⟩
 ·simp at hcs
  subst hcs
  simp only [if_true] at hmm
  subst hmm
  simp only [Prod.mk.injEq] at hx
  obtain⟨hd0,rfl⟩:=hx
  have key:∀ i:Nat,∃ b:Opn,i<m→(∀ (j:Nat),j<4→W.cell? ((a.add (i * 4)).add j)=b.cells[j]?)∧D i=.agg [.lit (.int .i64 b.kind),.lit (.string b.path),.lit (.string b.to),.lit (.string b.data)]:=by
   intro i
   by_cases him:i<m
   ·obtain⟨cs',hc,ht⟩:=hi i him
    rw [cells26] at hc
    obtain⟨_,hcl,hat⟩:=World.cells?_some hc
    obtain⟨b,rfl,hD⟩:=op_of ht
    exact⟨b,fun _=>⟨fun j hj=>hat j (by omega),hD⟩⟩
   ·exact⟨⟨0,[],[],[]⟩,fun h=>absurd h him⟩
  obtain⟨F,hF⟩:=Classical.axiomOfChoice key
  refine⟨(List.range len).map F,⟨some a,m,by simp,by simpa using hl,hm,fun h0=>?_⟩,fun x hx=>?_⟩
  ·have h0' : 0<len:=by simpa using h0
   obtain⟨g,o,spot⟩:=a
   have hspot:spot=none:=by
    have e:=(hF 0 (by omega)).1 0 (by omega)
    have:=World.cell?_spot (v:=.int .i64 (F 0).kind) (e.trans rfl)
    simpa [Addr.add] using this
   subst hspot
   refine⟨g,o,rfl,hlt (.cell g o) (List.mem_append_left _ (MemPlace.mem_row.2 ⟨0,by rw [cells26];omega,by simp⟩)),fun j u hu=>?_⟩
   obtain⟨q,r,hr,rfl⟩:∃ q r,r<4∧j=q * 4+r:=⟨j / 4,j % 4,by omega,by omega⟩
   rw [flat4 _ q r hr,List.getElem?_map] at hu
   obtain⟨b,hb,hbu⟩:=Option.bind_eq_some_iff.1 hu
   obtain⟨i,hi1,rfl⟩:=Option.map_eq_some_iff.1 hb
   have hql:q<len:=by simpa using (List.getElem?_eq_some_iff.1 hi1).1
   have e:i=q:=by
    have:=(List.getElem?_eq_some_iff.1 hi1).2
    simpa using this.symm
   subst e
   have hk:=(hF i (by omega)).1 r hr
   rw [addr_add,addr_add,Nat.add_assoc] at hk
   rw [hk]
   exact hbu
  ·obtain⟨i,hi1,rfl⟩:=List.mem_map.1 hx
   have hil:i<len:=List.mem_range.1 hi1
   have hD:=(hF i (by omega)).2
   have hbk:(F i).path.length≤Rows.uptoBulk d∧(F i).to.length≤Rows.uptoBulk d:=by
    have h1:=bulk_part (d:=D i) (List.mem_map.2 ⟨i,hi1,rfl⟩:D i∈(List.range len).map D)
    rw [hD] at h1
    rw [hd0]
    simp only [Rows.uptoBulk,Rows.uptoBulkAll] at h1 ⊢
    constructor <;> omega
   rw [hd0] at hbk ⊢
   simp only [DataW.weights,Tryz.underlying25,List.mem_cons,List.mem_append]
   refine⟨.inr (.inl (weights_all (d:=D i) (List.mem_map.2 ⟨i,hi1,rfl⟩) _ ?_)),.inr (.inl (weights_all (d:=D i) (List.mem_map.2 ⟨i,hi1,rfl⟩) _ ?_)),hbk.1,hbk.2⟩
   ·rw [hD]
    simp [DataW.weights,Tryz.underlying46,DataW.weightsEach]
   ·rw [hD]
    simp [DataW.weights,Tryz.underlying46,DataW.weightsEach]
theorem argDU_of {H:Type} {enc:TypeId × Value→H} {W:World} {base fuel:Nat} {hd:Bool} {cs:Array Value} {d:DataW H} {p:List MemPlace}
  (hf:DataW.trod enc Tryz.prog W base (fun _=>true) hd fuel 27 cs.toList=some (d,p)) (hlt:∀ x∈p,x.block<W.heap.size) :
  ∃ iv wv k,cs=#[iv,wv,.int .i64 k.room]∧RdD W iv wv k∧(-9223372036854775808≤k.room∧k.room≤9223372036854775807)∧(∀ y∈k.safe,y.path.length≤Rows.uptoBulk d)∧∀ o∈k.wait,o.path.length≤Rows.uptoBulk d∧o.to.length≤Rows.uptoBulk d:=by
 obtain⟨y0,y1,y2,n,hx,hl,t0,t1,t2⟩:=Go.Deep.trod_struct3 Tryz.underlying27 hf
 rw [cells27] at hl
 rw [cells24] at t0
 rw [cells41] at t1
 rw [cells3] at t2
 obtain⟨a,b,c,hcx⟩:=list3 hl
 rw [hcx] at t0 t1 t2
 simp at t0 t1 t2
 simp only [Prod.mk.injEq] at hx
 obtain⟨hd0,rfl⟩:=hx
 obtain⟨m,e2,hy2,hwf⟩:=DataW.trod_int Tryz.underlying3 t2
 simp at e2
 subst e2
 obtain⟨x,l,hax,hl1,hw1⟩:=argTU_of (cs:=#[a]) (d:=y0.1) (p:=y0.2) t0 (fun x hx=>hlt x (List.mem_append_left _ hx))
 have hax:a=x:=by simpa using hax
 subst hax
 obtain⟨l2,hl2,hw2⟩:=argOU_of (d:=y1.1) (p:=y1.2) t1 (fun x hx=>hlt x (List.mem_append_right _ (List.mem_append_left _ hx)))
 refine⟨a,b,⟨l,l2,m⟩,Array.ext' hcx,⟨hl1,hl2⟩,bounds_i64 hwf,fun y hy=>?_,fun o ho=>?_⟩
 ·rw [hd0]
  have:=(hw1 y hy).2
  simp only [Rows.uptoBulk,Rows.uptoBulkAll]
  omega
 ·rw [hd0]
  have:=(hw2 o ho).2.2
  simp only [Rows.uptoBulk,Rows.uptoBulkAll]
  omega
end Go.Proofs.YtigopecainocgaaGreatDoor
