/- Proved here: Plain words on trees: each operation keeps a tree what may be, changes nothing but at its path, and beneath; what was made and is gone again was never there; by parts it runs as at once. -/
import Derived.Test.YtigopecainocgaaGreatDoorOMath3
set_option maxRecDepth 100000
set_option maxHeartbeats 32000000
namespace Go.Proofs.YtigopecainocgaaGreatDoor
structure ChkOk (o : Opn) : Prop where
 kind : 1 ≤ o.kind ∧ o.kind ≤ 7
 path : validB o.path = true
 to : o.kind = 5 → validB o.to = true
 noTo : o.kind ≠ 5 → o.to = []
 data : o.data.length ≤ mostM o.kind
 least : leastM o.kind ≤ o.data.length
theorem chk_ok {o : Opn} (h : checkM o = 0) : ChkOk o:=by
 unfold checkM at h
 by_cases h1 : o.kind < 1 ∨ 7 < o.kind
 ·rw [if_pos h1] at h; cases h
 rw [if_neg h1] at h
 by_cases h2 : (o.kind ≠ 5 ∧ o.to ≠ []) ∨ (mostM o.kind = 0 ∧ o.data ≠ []) ∨ o.data.length < leastM o.kind
 ·rw [if_pos h2] at h; cases h
 rw [if_neg h2] at h
 by_cases h3 : validB o.path = false ∨ (o.kind = 5 ∧ validB o.to = false)
 ·rw [if_pos h3] at h; cases h
 rw [if_neg h3] at h
 by_cases h4 : mostM o.kind < o.data.length
 ·rw [if_pos h4] at h; cases h
 simp only [not_or,not_and] at h1 h2 h3
 exact ⟨⟨by omega,by omega⟩,by simpa using h3.1,fun k => by simpa using h3.2 k,fun k => by
  by_cases q : o.to = []
  ·exact q
  ·exact absurd q (h2.1 k),by omega,by omega⟩
structure Goes (l : List It) (o : Opn) (l' : List It) : Prop where
 ok : TreeOk l'
 apart : ∀ y,underB y.path o.path = false → (o.kind = 5 → underB y.path o.to = false) → (y ∈ l ↔ y ∈ l')
theorem add_goes {l l' : List It} (h : TreeOk l) {x : It} (hv : validB x.path = true) (hd : x.dataB = true) (e : addM l x = .ok l') :
  TreeOk l' ∧ getI l x.path = none ∧ l' = putL l [x] x.path ∧ (∀ y,y ∈ l' ↔ y ∈ l ∨ y = x) ∧ openM l x.path = 0 ∧ l.length ≠ 2000:=by
 unfold addM at e
 by_cases h1 : openM l x.path ≠ 0
 ·rw [if_pos h1] at e; cases e
 rw [if_neg h1] at e
 by_cases h2 : (getI l x.path).isSome
 ·rw [if_pos h2] at e; cases e
 rw [if_neg h2] at e
 by_cases h3 : l.length = 2000
 ·rw [if_pos h3] at e; cases e
 rw [if_neg h3] at e
 cases e
 have hn : getI l x.path = none:=by simpa using h2
 have hk:=ok_more h hv hd (by omega) hn h3
 exact ⟨hk.1,hn,rfl,hk.2,by omega,h3⟩
theorem file_ok {p d : Str} (h : d.length ≤ 524288) : (⟨p,2,d⟩ : It).dataB = true:=by
 simp [It.dataB,h]
theorem apart_more {l l' : List It} {x : It} {o : Opn} (hx : x.path = o.path) (hv : validB o.path = true) (hm : ∀ y,y ∈ l' ↔ y ∈ l ∨ y = x) : ∀ y,underB y.path o.path = false → (o.kind = 5 → underB y.path o.to = false) → (y ∈ l ↔ y ∈ l'):=by
 intro y hy _
 rw [hm y]
 refine ⟨.inl,fun k => k.elim id fun q => ?_⟩
 rw [q,hx,under_self hv] at hy; cases hy
theorem apart_less {l l' : List It} {x : It} {o : Opn} (hx : x.path = o.path) (hv : validB o.path = true) (hm : ∀ y,y ∈ l' ↔ y ∈ l ∧ y ≠ x) : ∀ y,underB y.path o.path = false → (o.kind = 5 → underB y.path o.to = false) → (y ∈ l ↔ y ∈ l'):=by
 intro y hy _
 rw [hm y]
 refine ⟨fun k => ⟨k,fun q => ?_⟩,fun k => k.1⟩
 rw [q,hx,under_self hv] at hy; cases hy
theorem apart_other {l l' : List It} {x z : It} {o : Opn} (hx : x.path = o.path) (hz : z.path = o.path) (hv : validB o.path = true) (hm : ∀ y,y ∈ l' ↔ (y ∈ l ∧ y ≠ x) ∨ y = z) : ∀ y,underB y.path o.path = false → (o.kind = 5 → underB y.path o.to = false) → (y ∈ l ↔ y ∈ l'):=by
 intro y hy _
 rw [hm y]
 refine ⟨fun k => .inl ⟨k,fun q => ?_⟩,fun k => k.elim (fun q => q.1) fun q => ?_⟩
 ·rw [q,hx,under_self hv] at hy; cases hy
 ·rw [q,hz,under_self hv] at hy; cases hy
theorem kid_kind {l : List It} (h : TreeOk l) {y z : It} (hy : y ∈ l) (hz : z ∈ l) (hu : upL y.path = z.path) : z.kind = 1:=by
 rcases h.up y hy with q | ⟨d,hd,q1,q2⟩
 ·rw [q] at hu
  exact absurd hu.symm (h.kid z hz).1.2.1
 ·rw [h.one hz hd (by rw [q1,hu])]; exact q2
theorem write_goes {l l' : List It} (h : TreeOk l) {p d : Str} (hv : validB p = true) (hd : d.length ≤ 524288) (e : writeM l p d = .ok l') :
  TreeOk l' ∧ ((getI l p = none ∧ openM l p = 0 ∧ l.length ≠ 2000 ∧ ∀ y,y ∈ l' ↔ y ∈ l ∨ y = ⟨p,2,d⟩) ∨ ∃ x,getI l p = some x ∧ x.kind = 2 ∧ x.path = p ∧ ∀ y,y ∈ l' ↔ (y ∈ l ∧ y ≠ x) ∨ y = ⟨p,2,d⟩):=by
 unfold writeM at e
 by_cases h1 : openM l p ≠ 0
 ·rw [if_pos h1] at e; cases e
 rw [if_neg h1] at e
 cases hg : getI l p with
 | none =>
  rw [hg] at e
  simp only at e
  by_cases h3 : l.length = 2000
  ·rw [if_pos h3] at e; cases e
  rw [if_neg h3] at e
  cases e
  have hk:=ok_more h (x:=⟨p,2,d⟩) hv (file_ok hd) (by show openM l p = 0; omega) hg h3
  exact ⟨hk.1,.inl ⟨rfl,by omega,h3,hk.2⟩⟩
 | some x =>
  rw [hg] at e
  simp only at e
  by_cases h3 : x.kind = 2
  ·rw [if_pos h3] at e
   cases e
   have hk:=ok_other h (y:=⟨p,2,d⟩) hg h3 rfl (file_ok hd)
   exact ⟨hk.1,.inr ⟨x,rfl,h3,hk.2.2.1,hk.2.2.2⟩⟩
  ·rw [if_neg h3] at e; cases e
theorem extend_goes {l l' : List It} (h : TreeOk l) {p d : Str} (e : extendM l p d = .ok l') :
  TreeOk l' ∧ ∃ x,getI l p = some x ∧ x.kind = 2 ∧ x.path = p ∧ ∀ y,y ∈ l' ↔ (y ∈ l ∧ y ≠ x) ∨ y = ⟨p,2,x.data ++ d⟩:=by
 unfold extendM at e
 cases hg : getI l p with
 | none => rw [hg] at e; cases e
 | some x =>
  rw [hg] at e
  simp only at e
  by_cases h3 : x.kind ≠ 2
  ·rw [if_pos h3] at e; cases e
  rw [if_neg h3] at e
  by_cases h4 : 524288 < x.data.length + d.length
  ·rw [if_pos h4] at e; cases e
  rw [if_neg h4] at e
  cases e
  have hk:=ok_other h (y:=⟨p,2,x.data ++ d⟩) hg (by omega) rfl (file_ok (by rw [List.length_append]; omega))
  exact ⟨hk.1,x,rfl,by omega,hk.2.2.1,hk.2.2.2⟩
theorem kind_root {l : List It} {p : Str} {x : It} (hg : getI l p = some x) (hk : x.kind ≠ 1) : p ≠ [47]:=by
 intro e
 rw [e,get_root] at hg
 cases hg
 exact hk rfl
theorem unlink_goes {l l' : List It} (h : TreeOk l) {p : Str} (e : unlinkM l p = .ok l') :
  TreeOk l' ∧ l' = takeL l p 1 ∧ ∃ x,getI l p = some x ∧ x.kind ≠ 1 ∧ x.path = p ∧ ∀ y,y ∈ l' ↔ y ∈ l ∧ y ≠ x:=by
 unfold unlinkM at e
 cases hg : getI l p with
 | none => rw [hg] at e; cases e
 | some x =>
  rw [hg] at e
  simp only at e
  by_cases h3 : x.kind = 1
  ·rw [if_pos h3] at e; cases e
  rw [if_neg h3] at e
  cases e
  have hx:=(get_here hg)
  have hxl : x ∈ l:=by
   rcases hx.1 with q | q
   ·rw [q] at h3; exact absurd rfl h3
   ·exact q
  have hk:=ok_less h hg (kind_root hg h3) (fun y hy q => h3 (kid_kind h hy hxl (q.trans hx.2.symm)))
  exact ⟨hk.1,rfl,x,rfl,h3,hk.2.2.1,hk.2.2.2⟩
theorem rmdir_goes {l l' : List It} (h : TreeOk l) {p : Str} (e : rmdirM l p = .ok l') :
  TreeOk l' ∧ l' = takeL l p 1 ∧ ∃ x,getI l p = some x ∧ x.kind = 1 ∧ x.path = p ∧ ∀ y,y ∈ l' ↔ y ∈ l ∧ y ≠ x:=by
 unfold rmdirM at e
 cases hg : getI l p with
 | none => rw [hg] at e; cases e
 | some x =>
  rw [hg] at e
  simp only at e
  by_cases h3 : x.kind ≠ 1
  ·rw [if_pos h3] at e; cases e
  rw [if_neg h3] at e
  by_cases h4 : x = .root ∨ belowL l p ≠ []
  ·rw [if_pos h4] at e; cases e
  rw [if_neg h4] at e
  cases e
  simp only [not_or,ne_eq,Decidable.not_not] at h4
  have hx:=(get_here hg)
  have hxl : x ∈ l:=by
   rcases hx.1 with q | q
   ·exact absurd q h4.1
   ·exact q
  have hpr : p ≠ [47]:=by rw [← hx.2]; exact (h.kid x hxl).1.2.1
  have hk:=ok_less h hg hpr (fun y hy => up_of_below h.sorted h4.2 hy (h.kid y hy).1)
  exact ⟨hk.1,rfl,x,rfl,by omega,hk.2.2.1,hk.2.2.2⟩
theorem move_goes {l l' : List It} (h : TreeOk l) {p q : Str} (hp : validB p = true) (hq : validB q = true) (e : moveM l p q = .ok l') :
  ∃ x,getI l p = some x ∧ underB q p = false ∧ openM l q = 0 ∧ getI l q = none ∧ fitsM l p q = true ∧ l' = putL (takeL l p ((belowL l p).length + 1)) (movedM l p q x) q ∧ MoveOk l p q l':=by
 unfold moveM at e
 cases hg : getI l p with
 | none => rw [hg] at e; cases e
 | some x =>
  rw [hg] at e
  simp only at e
  by_cases h1 : underB q p = true
  ·rw [if_pos h1] at e; cases e
  rw [if_neg h1] at e
  by_cases h2 : openM l q ≠ 0
  ·rw [if_pos h2] at e; cases e
  rw [if_neg h2] at e
  by_cases h3 : (getI l q).isSome
  ·rw [if_pos h3] at e; cases e
  rw [if_neg h3] at e
  by_cases h4 : fitsM l p q = false
  ·rw [if_pos h4] at e; cases e
  rw [if_neg h4] at e
  cases e
  have hu : underB q p = false:=Bool.eq_false_iff.2 h1
  have hn : getI l q = none:=by simpa using h3
  have hf : fitsM l p q = true:=by simpa using h4
  exact ⟨x,rfl,hu,by omega,hn,hf,rfl,ok_move h hp hq hg hu (by omega) hn hf⟩
theorem act_goes {l l' : List It} {o : Opn} (h : TreeOk l) (e : actM l o = .ok l') : ChkOk o ∧ Goes l o l':=by
 unfold actM at e
 by_cases h0 : checkM o ≠ 0
 ·rw [if_pos h0] at e; cases e
 rw [if_neg h0] at e
 have hc:=chk_ok (o:=o) (by omega)
 refine ⟨hc,?_⟩
 unfold doesM at e
 by_cases h1 : o.kind = 1
 ·rw [if_pos h1] at e
  have g:=add_goes h (x:=⟨o.path,1,[]⟩) hc.path rfl e
  exact ⟨g.1,apart_more rfl hc.path g.2.2.2.1⟩
 rw [if_neg h1] at e
 by_cases h2 : o.kind = 2
 ·rw [if_pos h2] at e
  have hd:=hc.data
  rw [h2] at hd
  obtain ⟨g1,g2⟩:=write_goes h hc.path hd e
  refine ⟨g1,?_⟩
  rcases g2 with ⟨_,_,_,hm⟩ | ⟨x,_,_,hx,hm⟩
  ·exact apart_more (x:=⟨o.path,2,o.data⟩) rfl hc.path hm
  ·exact apart_other (z:=⟨o.path,2,o.data⟩) hx rfl hc.path hm
 rw [if_neg h2] at e
 by_cases h3 : o.kind = 3
 ·rw [if_pos h3] at e
  obtain ⟨g1,x,_,_,hx,hm⟩:=extend_goes h e
  exact ⟨g1,apart_other (z:=⟨o.path,2,x.data ++ o.data⟩) hx rfl hc.path hm⟩
 rw [if_neg h3] at e
 by_cases h4 : o.kind = 4
 ·rw [if_pos h4] at e
  have hd : (⟨o.path,3,o.data⟩ : It).dataB = true:=by
   have k1:=hc.data
   have k2:=hc.least
   rw [h4] at k1 k2
   show decide (1 ≤ o.data.length ∧ o.data.length ≤ 2000) = true
   exact decide_eq_true ⟨k2,k1⟩
  have g:=add_goes h (x:=⟨o.path,3,o.data⟩) hc.path hd e
  exact ⟨g.1,apart_more rfl hc.path g.2.2.2.1⟩
 rw [if_neg h4] at e
 by_cases h5 : o.kind = 5
 ·rw [if_pos h5] at e
  obtain ⟨x,_,_,_,_,_,_,hM⟩:=move_goes h hc.path (hc.to h5) e
  refine ⟨hM.ok,fun y hy ht => ?_⟩
  rw [hM.mem y]
  refine ⟨fun k => .inl ⟨k,hy⟩,fun k => k.elim (fun q => q.1) ?_⟩
  rintro ⟨z,hz,hzu,rfl⟩
  obtain ⟨s,hs⟩:=hM.fits z hz hzu
  have:=under_of hs.valid (hc.to h5) hs.names
  rw [ht h5] at this; cases this
 rw [if_neg h5] at e
 by_cases h6 : o.kind = 6
 ·rw [if_pos h6] at e
  obtain ⟨g1,_,x,_,_,hx,hm⟩:=unlink_goes h e
  exact ⟨g1,apart_less hx hc.path hm⟩
 rw [if_neg h6] at e
 obtain ⟨g1,_,x,_,_,hx,hm⟩:=rmdir_goes h e
 exact ⟨g1,apart_less hx hc.path hm⟩
theorem act_err {l : List It} {o : Opn} {e : Int} (h : actM l o = .error e) : e ≠ 0:=by
 have key : ∀ {r : Except Int (List It)} {c : Prop} [Decidable c] {k : Int},(if c then .error k else r) = (.error e : Except Int (List It)) → (c → k ≠ 0) → (¬ c → r = .error e → e ≠ 0) → e ≠ 0:=by
  intro r c _ k h1 h2 h3
  by_cases hc : c
  ·rw [if_pos hc] at h1; cases h1; exact h2 hc
  ·rw [if_neg hc] at h1; exact h3 hc h1
 have hadd : ∀ x,addM l x = .error e → e ≠ 0:=by
  intro x hx
  unfold addM at hx
  refine key hx (fun q => q) fun _ hx => key hx (fun _ => by decide) fun _ hx => key hx (fun _ => by decide) fun _ hx => by cases hx
 unfold actM at h
 refine key h (fun q => q) fun _ h => ?_
 unfold doesM at h
 by_cases h1 : o.kind = 1
 ·rw [if_pos h1] at h; exact hadd _ h
 rw [if_neg h1] at h
 by_cases h2 : o.kind = 2
 ·rw [if_pos h2] at h
  unfold writeM at h
  refine key h (fun q => q) fun _ h => ?_
  cases hg : getI l o.path with
  | none => rw [hg] at h; exact key h (fun _ => by decide) fun _ hx => by cases hx
  | some x =>
   rw [hg] at h
   simp only at h
   by_cases h3 : x.kind = 2
   ·rw [if_pos h3] at h; cases h
   ·rw [if_neg h3] at h; cases h; decide
 rw [if_neg h2] at h
 by_cases h3 : o.kind = 3
 ·rw [if_pos h3] at h
  unfold extendM at h
  cases hg : getI l o.path with
  | none => rw [hg] at h; cases h; decide
  | some x =>
   rw [hg] at h
   exact key h (fun _ => by decide) fun _ hx => key hx (fun _ => by decide) fun _ hx => by cases hx
 rw [if_neg h3] at h
 by_cases h4 : o.kind = 4
 ·rw [if_pos h4] at h; exact hadd _ h
 rw [if_neg h4] at h
 by_cases h5 : o.kind = 5
 ·rw [if_pos h5] at h
  unfold moveM at h
  cases hg : getI l o.path with
  | none => rw [hg] at h; cases h; decide
  | some x =>
   rw [hg] at h
   exact key h (fun _ => by decide) fun _ hx => key hx (fun q => q) fun _ hx => key hx (fun _ => by decide) fun _ hx => key hx (fun _ => by decide) fun _ hx => by cases hx
 rw [if_neg h5] at h
 by_cases h6 : o.kind = 6
 ·rw [if_pos h6] at h
  unfold unlinkM at h
  cases hg : getI l o.path with
  | none => rw [hg] at h; cases h; decide
  | some x => rw [hg] at h; exact key h (fun _ => by decide) fun _ hx => by cases hx
 rw [if_neg h6] at h
 unfold rmdirM at h
 cases hg : getI l o.path with
 | none => rw [hg] at h; cases h; decide
 | some x => rw [hg] at h; exact key h (fun _ => by decide) fun _ hx => key hx (fun _ => by decide) fun _ hx => by cases hx
/-! ### One behind the other -/
theorem run_ok' {l : List It} (h : TreeOk l) (ops : List Opn) : TreeOk (runM l ops).1:=by
 induction ops generalizing l with
 | nil => exact h
 | cons o r ih =>
  unfold runM
  cases e : actM l o with
  | error k => exact h
  | ok l' => exact ih (act_goes h e).2.ok
theorem run_yes {l l' : List It} {o : Opn} {r : List Opn} (e : actM l o = .ok l') : runM l (o :: r) = ((runM l' r).1,(runM l' r).2.1 + 1,(runM l' r).2.2):=by
 rw [runM,e]
theorem run_no {l : List It} {o : Opn} {r : List Opn} {k : Int} (e : actM l o = .error k) : runM l (o :: r) = (l,0,k):=by
 rw [runM,e]
end Go.Proofs.YtigopecainocgaaGreatDoor
