/- Proved here: Plain words on trees: what an operation makes of a tree that may be may be, and nothing is another one but at its path, and beneath. -/
import Derived.Test.YtigopecainocgaaGreatDoorNP
set_option maxRecDepth 100000
set_option maxHeartbeats 32000000
namespace Go.Proofs.YtigopecainocgaaGreatDoor
/-! ### One item more,another one,one less -/
theorem srt_mid {A B : List It} {x : It} (hs : Srt (A ++ B)) (hA : ∀ a ∈ A,cmpL a.path x.path < 0) (hB : ∀ b ∈ B,cmpL x.path b.path < 0) : Srt (A ++ x :: B):=by
 have h:=List.pairwise_append.1 hs
 refine List.pairwise_append.2 ⟨h.1,List.pairwise_cons.2 ⟨hB,h.2.1⟩,fun a ha b hb => ?_⟩
 rcases List.mem_cons.1 hb with rfl | hb
 ·exact hA a ha
 ·exact h.2.2 a ha b hb
theorem srt_less {A B : List It} {x : It} (hs : Srt (A ++ x :: B)) : Srt (A ++ B) :=
 List.Pairwise.sublist (List.Sublist.append (List.Sublist.refl A) (List.sublist_cons_self x B)) hs
theorem open_get {l : List It} {p : Str} (h : openM l p = 0) : ∃ d,getI l (upL p) = some d ∧ d.kind = 1:=by
 unfold openM at h
 cases e : getI l (upL p) with
 | none => rw [e] at h; cases h
 | some d =>
  rw [e] at h
  by_cases hk : d.kind = 1
  ·exact ⟨d,rfl,hk⟩
  ·simp only [if_neg hk] at h; cases h
theorem open_up {l : List It} {p : Str} (h : openM l p = 0) : upL p = [47] ∨ ∃ y ∈ l,y.path = upL p ∧ y.kind = 1:=by
 obtain ⟨d,hd,hk⟩:=open_get h
 obtain ⟨h1,h2⟩:=get_here hd
 rcases h1 with rfl | h1
 ·exact .inl h2.symm
 ·exact .inr ⟨d,h1,h2,hk⟩
theorem ok_more {l : List It} (h : TreeOk l) {x : It} (hv : validB x.path = true) (hd : x.dataB = true) (ho : openM l x.path = 0) (hn : getI l x.path = none) (hl : l.length ≠ 2000) :
  TreeOk (putL l [x] x.path) ∧ ∀ y,y ∈ putL l [x] x.path ↔ y ∈ l ∨ y = x:=by
 obtain ⟨A,B,hP,hc⟩:=place l x.path h.sorted
 have hh:=has_none h.sorted hn
 have hr:=(get_none.1 hn).1
 rcases hc with ⟨_,e⟩ | ⟨y,k,_⟩
 ·rw [(hP.no hh e).1]
  have hm : ∀ y,y ∈ A ++ [x] ++ B ↔ y ∈ l ∨ y = x:=fun y => by rw [e]; simp only [List.mem_append,List.mem_cons,List.not_mem_nil,or_false]; constructor <;> (intro q; rcases q with (q | q) | q <;> simp [q])
  refine ⟨⟨?_,?_,?_,?_⟩,hm⟩
  ·have:=h.many
   rw [e] at this hl
   simp only [List.length_append,List.length_cons,List.length_nil] at this hl ⊢
   omega
  ·intro y hy
   rcases (hm y).1 hy with hy | rfl
   ·exact h.kid y hy
   ·exact ⟨⟨hv,hr,rfl⟩,hd⟩
  ·rw [List.append_assoc]
   exact srt_mid (A:=A) (B:=B) (x:=x) (e ▸ h.sorted) hP.low hP.high
  ·intro y hy
   rcases (hm y).1 hy with hy | rfl
   ·exact (h.up y hy).imp id fun ⟨z,hz,q⟩ => ⟨z,(hm z).2 (.inl hz),q⟩
   ·exact (open_up ho).imp id fun ⟨z,hz,q⟩ => ⟨z,(hm z).2 (.inl hz),q⟩
 ·rw [hh] at k; cases k
theorem ok_other {l : List It} (h : TreeOk l) {x y : It} (hg : getI l y.path = some x) (hk : x.kind = 2) (hky : y.kind = 2) (hd : y.dataB = true) :
  TreeOk (putL l [y] y.path) ∧ x ∈ l ∧ x.path = y.path ∧ ∀ z,z ∈ putL l [y] y.path ↔ (z ∈ l ∧ z ≠ x) ∨ z = y:=by
 have hr : y.path ≠ [47]:=by
  intro e
  rw [e,get_root] at hg
  cases hg
  exact absurd hk (by decide)
 rcases (get_some h.sorted).1 hg with ⟨k,_⟩ | ⟨_,hx,hxp⟩
 ·exact absurd k hr
 obtain ⟨A,B,hP,hc⟩:=place l y.path h.sorted
 have hh:=has_some h.sorted hg hr
 rcases hc with ⟨k,_⟩ | ⟨x',_,hx',e⟩
 ·rw [hh] at k; cases k
 have hxx : x' = x:=by
  refine h.one ?_ hx (hx'.trans hxp.symm)
  rw [e]; simp
 subst hxx
 rw [(hP.yes hh e).1]
 have hAx : x' ∉ A:=fun k => cl_ne (hP.low _ k) hxp
 have hBx : x' ∉ B:=fun k => (cl_ne (hP.high _ k)).symm hxp
 have hm : ∀ z,z ∈ A ++ [y] ++ B ↔ (z ∈ l ∧ z ≠ x') ∨ z = y:=fun z => by
  rw [e]
  simp only [List.mem_append,List.mem_cons,List.not_mem_nil,or_false]
  constructor
  ·rintro ((q | q) | q)
   ·exact .inl ⟨.inl q,fun r => hAx (r ▸ q)⟩
   ·exact .inr q
   ·exact .inl ⟨.inr (.inr q),fun r => hBx (r ▸ q)⟩
  ·rintro (⟨q | q | q,r⟩ | q)
   ·exact .inl (.inl q)
   ·exact absurd q r
   ·exact .inr q
   ·exact .inl (.inr q)
 refine ⟨⟨?_,?_,?_,?_⟩,hx,hxp,hm⟩
 ·have:=h.many
  rw [e] at this
  simp only [List.length_append,List.length_cons,List.length_nil] at this ⊢
  omega
 ·intro z hz
  rcases (hm z).1 hz with hz | rfl
  ·exact h.kid z hz.1
  ·have:=(h.kid x' hx).1
   rw [hxp] at this
   exact ⟨this,hd⟩
 ·rw [List.append_assoc]
  exact srt_mid (A:=A) (B:=B) (x:=y) (srt_less (x:=x') (e ▸ h.sorted)) hP.low hP.high
 ·have hup : ∀ z ∈ l,upL z.path = [47] ∨ ∃ d ∈ A ++ [y] ++ B,d.path = upL z.path ∧ d.kind = 1:=fun z hz =>
   (h.up z hz).imp id fun ⟨d,hd,q1,q2⟩ => ⟨d,(hm d).2 (.inl ⟨hd,fun r => by rw [r,hk] at q2; cases q2⟩),q1,q2⟩
  intro z hz
  rcases (hm z).1 hz with hz | rfl
  ·exact hup z hz.1
  ·have:=hup x' hx
   rwa [hxp] at this
theorem ok_less {l : List It} (h : TreeOk l) {p : Str} {x : It} (hg : getI l p = some x) (hr : p ≠ [47]) (hb : ∀ y ∈ l,upL y.path ≠ p) :
  TreeOk (takeL l p 1) ∧ x ∈ l ∧ x.path = p ∧ ∀ z,z ∈ takeL l p 1 ↔ z ∈ l ∧ z ≠ x:=by
 rcases (get_some h.sorted).1 hg with ⟨k,_⟩ | ⟨_,hx,hxp⟩
 ·exact absurd k hr
 obtain ⟨A,B,hP,hc⟩:=place l p h.sorted
 have hh:=has_some h.sorted hg hr
 rcases hc with ⟨k,_⟩ | ⟨x',_,hx',e⟩
 ·rw [hh] at k; cases k
 have hxx : x' = x:=by
  refine h.one ?_ hx (hx'.trans hxp.symm)
  rw [e]; simp
 subst hxx
 have ht : takeL l p 1 = A ++ B:=by rw [(hP.yes hh e).2.2.2.2 0]; rfl
 rw [ht]
 have hAx : x' ∉ A:=fun k => cl_ne (hP.low _ k) hxp
 have hBx : x' ∉ B:=fun k => (cl_ne (hP.high _ k)).symm hxp
 have hm : ∀ z,z ∈ A ++ B ↔ z ∈ l ∧ z ≠ x':=fun z => by
  rw [e]
  simp only [List.mem_append,List.mem_cons]
  constructor
  ·rintro (q | q)
   ·exact ⟨.inl q,fun r => hAx (r ▸ q)⟩
   ·exact ⟨.inr (.inr q),fun r => hBx (r ▸ q)⟩
  ·rintro ⟨q | q | q,r⟩
   ·exact .inl q
   ·exact absurd q r
   ·exact .inr q
 refine ⟨⟨?_,fun z hz => h.kid z ((hm z).1 hz).1,srt_less (x:=x') (by rw [← e]; exact h.sorted),?_⟩,hx,hxp,hm⟩
 ·have:=h.many
  rw [e] at this
  simp only [List.length_append,List.length_cons] at this ⊢
  omega
 ·intro z hz
  have hz':=((hm z).1 hz).1
  exact (h.up z hz').imp id fun ⟨d,hd,q1,q2⟩ => ⟨d,(hm d).2 ⟨hd,fun r => hb z hz' (by rw [← q1,r,hxp])⟩,q1,q2⟩
/-! ### What stands beneath -/
theorem up_names {p : Str} (h : validB p = true) : namesL (upL p) = (namesL p).dropLast:=(up_valid p h).2
theorem anc_here {l : List It} (h : TreeOk l) {x : It} (hx : x ∈ l) {p : Str} (hu : underB x.path p = true) (hn : x.path ≠ p) : ∃ y,getI l p = some y ∧ y.kind = 1:=by
 have hu':=hu
 simp only [underB,Bool.and_eq_true,List.isPrefixOf_iff_prefix] at hu'
 obtain ⟨more,hm⟩:=hu'.2
 have hne : more ≠ []:=fun e => hn (by rw [e,List.append_nil] at hm; exact (names_inj _ _ hu'.1.2 hu'.1.1 hm).symm)
 obtain ⟨y,e,k,_⟩:=anc h more (namesL p) x (.inr hx) hm.symm hne
 rw [(valid_join p hu'.1.2).1] at e
 exact ⟨y,e,k⟩
theorem up_of_below {l : List It} {p : Str} (hs : Srt l) (hb : belowL l p = []) {y : It} (hy : y ∈ l) (hk : Kid (upL y.path) y.path) : upL y.path ≠ p:=by
 intro e
 have hu:=hk.under
 rw [e] at hu
 have hne : y.path ≠ p:=by rw [← e]; exact hk.ne.symm
 have:=(below_mem hs p y).2 ⟨hy,hu,hne⟩
 rw [hb] at this; cases this
end Go.Proofs.YtigopecainocgaaGreatDoor
