/- Proved here: Plain words on trees: a directory moved. -/
import Derived.Test.YtigopecainocgaaGreatDoorOMath2
set_option maxRecDepth 100000
set_option maxHeartbeats 32000000
namespace Go.Proofs.YtigopecainocgaaGreatDoor
theorem under_form {a p : Str} (h : underB a p = true) : validB a = true ∧ validB p = true ∧ ∃ s,namesL a = namesL p ++ s ∧ (namesL a).drop (namesL p).length = s:=by
 simp only [underB,Bool.and_eq_true,List.isPrefixOf_iff_prefix] at h
 obtain ⟨s,hs⟩:=h.2
 exact ⟨h.1.1,h.1.2,s,hs.symm,by rw [← hs,List.drop_left]⟩
theorem under_of {a p : Str} (ha : validB a = true) (hp : validB p = true) {s : List Str} (h : namesL a = namesL p ++ s) : underB a p = true:=by
 simp only [underB,Bool.and_eq_true,List.isPrefixOf_iff_prefix]
 exact ⟨⟨ha,hp⟩,s,h.symm⟩
structure NewOk (frm to : Str) (y : It) (s : List Str) : Prop where
 old : namesL y.path = namesL frm ++ s
 parts : partsB (namesL to ++ s) = true
 path : (newI frm to y).path = joinL (namesL to ++ s)
 valid : validB (newI frm to y).path = true
 names : namesL (newI frm to y).path = namesL to ++ s
theorem new_ok {frm to : Str} {y : It} (hu : underB y.path frm = true) (hp : partsB (newN frm to y.path) = true) : ∃ s,NewOk frm to y s:=by
 obtain ⟨_,_,s,h1,h2⟩:=under_form hu
 have e : newN frm to y.path = namesL to ++ s:=by unfold newN; rw [h2]
 rw [e] at hp
 have j:=join_valid _ hp
 have e2 : (newI frm to y).path = joinL (namesL to ++ s):=by show joinL (newN frm to y.path) = _; rw [e]
 exact ⟨s,h1,hp,e2,by rw [e2]; exact j.1,by rw [e2]; exact j.2⟩
theorem new_self {frm to : Str} (ht : validB to = true) {x : It} (hx : x.path = frm) : newI frm to x = ⟨to,x.kind,x.data⟩ ∧ partsB (newN frm to x.path) = true:=by
 have e : newN frm to x.path = namesL to:=by unfold newN; rw [hx,List.drop_length,List.append_nil]
 refine ⟨?_,by rw [e]; exact (valid_join to ht).2⟩
 unfold newI
 rw [e,(valid_join to ht).1]
theorem lt_le {a b c : Str} (h : cmpL a b < 0) (k : cmpL b c ≤ 0) : cmpL a c < 0:=by
 by_cases e : cmpL b c = 0
 ·rw [← (cl_zero b c).1 e]; exact h
 ·exact cl_lt_trans h (by omega)
theorem new_lt {frm to : Str} {y z : It} {s t : List Str} (hy : NewOk frm to y s) (hz : NewOk frm to z t) (vy : validB y.path = true) (vz : validB z.path = true) (h : cmpL y.path z.path < 0) : cmpL (newI frm to y).path (newI frm to z).path < 0:=by
 unfold cmpL at h ⊢
 rw [if_pos vy,if_pos vz,hy.old,hz.old,cn_app] at h
 rw [if_pos hy.valid,if_pos hz.valid,hy.names,hz.names,cn_app]
 exact h
structure MoveOk (l : List It) (frm to : Str) (n : List It) : Prop where
 ok : TreeOk n
 mem : ∀ z,z ∈ n ↔ (z ∈ l ∧ underB z.path frm = false) ∨ ∃ y ∈ l,underB y.path frm = true ∧ z = newI frm to y
 fits : ∀ y ∈ l,underB y.path frm = true → ∃ s,NewOk frm to y s
 nr : frm ≠ [47]
theorem ok_move {l : List It} (h : TreeOk l) {frm to : Str} {x : It} (hvf : validB frm = true) (hvt : validB to = true) (hg : getI l frm = some x) (hu : underB to frm = false) (ho : openM l to = 0) (hn : getI l to = none) (hf : fitsM l frm to = true) :
  MoveOk l frm to (putL (takeL l frm ((belowL l frm).length + 1)) (movedM l frm to x) to):=by
 have hfr : frm ≠ [47]:=fun e => by rw [e,root_under hvt] at hu; cases hu
 have htr : to ≠ [47]:=(get_none.1 hn).1
 rcases (get_some h.sorted).1 hg with ⟨k,_⟩ | ⟨_,hx,hxp⟩
 ·exact absurd k hfr
 obtain ⟨A,U,R,hB,hc⟩:=block l frm h.sorted
 have hh:=has_some h.sorted hg hfr
 rcases hc with ⟨k,_⟩ | ⟨x',_,hx',e⟩
 ·rw [hh] at k; cases k
 have hxx : x' = x:=by
  refine h.one ?_ hx (hx'.trans hxp.symm)
  rw [e]; simp
 subst hxx
 have hP : Pl l frm A (U ++ R):=⟨hB.idx,hB.low,fun b hb => by
  rcases List.mem_append.1 hb with k | k
  ·have h1:=hB.mid b k
   have h2:=cl_under frm b.path h1.1
   have h3 : cmpL frm b.path ≠ 0:=fun q => h1.2 ((cl_zero _ _).1 q).symm
   omega
  ·exact (hB.high b k).1⟩
 have hrest : takeL l frm ((belowL l frm).length + 1) = A ++ R:=by
  rw [hB.below,(hP.yes hh e).2.2.2.2 U.length,List.drop_left]
 have hsl:=h.sorted
 rw [e] at hsl
 have hsr : Srt (A ++ R):=List.Pairwise.sublist (List.Sublist.append (List.Sublist.refl A) ((List.sublist_append_right U R).trans (List.sublist_cons_self x' (U ++ R)))) hsl
 have hsm : Srt (x' :: U):=List.Pairwise.sublist (((List.sublist_append_left U R).cons_cons x').trans (List.sublist_append_right A _)) hsl
 have hxu : underB x'.path frm = true:=by rw [hxp]; exact under_self hvf
 have hmr : ∀ z,z ∈ A ++ R ↔ z ∈ l ∧ underB z.path frm = false:=by
  intro z
  rw [e]
  simp only [List.mem_append,List.mem_cons]
  constructor
  ·rintro (q | q)
   ·exact ⟨.inl q,under_ge (hB.low z q)⟩
   ·exact ⟨.inr (.inr (.inr q)),(hB.high z q).2⟩
  ·rintro ⟨q | q | q | q,r⟩
   ·exact .inl q
   ·rw [q,hxu] at r; cases r
   ·rw [(hB.mid z q).1] at r; cases r
   ·exact .inr q
 have hmm : ∀ y,y ∈ x' :: U ↔ y ∈ l ∧ underB y.path frm = true:=by
  intro y
  constructor
  ·intro q
   rcases List.mem_cons.1 q with rfl | q
   ·exact ⟨hx,hxu⟩
   ·exact ⟨by rw [e]; simp [q],(hB.mid y q).1⟩
  ·rintro ⟨q,r⟩
   by_cases hy : y ∈ A ++ R
   ·have:=((hmr y).1 hy).2
    rw [r] at this; cases this
   ·rw [e] at q
    simp only [List.mem_append,List.mem_cons] at q hy ⊢
    rcases q with q | q | q | q
    ·exact absurd (.inl q) hy
    ·exact .inl q
    ·exact .inr q
    ·exact absurd (.inr q) hy
 have hfit : ∀ y ∈ l,underB y.path frm = true → ∃ s,NewOk frm to y s:=by
  intro y hy hyu
  refine new_ok hyu ?_
  rcases List.mem_cons.1 ((hmm y).2 ⟨hy,hyu⟩) with rfl | q
  ·exact (new_self hvt hxp).2
  ·unfold fitsM at hf
   rw [hB.below,List.all_eq_true] at hf
   exact hf y q
 have hmoved : movedM l frm to x' = (x' :: U).map (newI frm to):=by
  unfold movedM
  rw [hB.below,List.map_cons,(new_self hvt hxp).1]
 have hnt : ∀ z ∈ l,underB z.path to = false:=by
  intro z hz
  by_cases q : underB z.path to = true
  ·by_cases r : z.path = to
   ·exact absurd r ((get_none.1 hn).2 z hz)
   ·obtain ⟨y,hy,_⟩:=anc_here h hz q r
    rw [hn] at hy; cases hy
  ·exact Bool.eq_false_iff.2 q
 have hno : hasL (A ++ R) to = false:=has_none hsr (get_none.2 ⟨htr,fun z hz => (get_none.1 hn).2 z ((hmr z).1 hz).1⟩)
 obtain ⟨A2,B2,hP2,hc2⟩:=place (A ++ R) to hsr
 have e2 : A ++ R = A2 ++ B2:=by
  rcases hc2 with ⟨_,q⟩ | ⟨z,k,_⟩
  ·exact q
  ·rw [hno] at k; cases k
 have hres : putL (takeL l frm ((belowL l frm).length + 1)) (movedM l frm to x') to = A2 ++ (x' :: U).map (newI frm to) ++ B2:=by
  rw [hrest,hmoved,(hP2.no hno e2).1]
 rw [hres]
 have hmem : ∀ z,z ∈ A2 ++ (x' :: U).map (newI frm to) ++ B2 ↔ (z ∈ l ∧ underB z.path frm = false) ∨ ∃ y ∈ l,underB y.path frm = true ∧ z = newI frm to y:=by
  intro z
  rw [← hmr z,e2]
  simp only [List.mem_append,List.mem_map]
  constructor
  ·rintro ((q | ⟨y,q,r⟩) | q)
   ·exact .inl (.inl q)
   ·exact .inr ⟨y,((hmm y).1 q).1,((hmm y).1 q).2,r.symm⟩
   ·exact .inl (.inr q)
  ·rintro ((q | q) | ⟨y,q,r,t⟩)
   ·exact .inl (.inl q)
   ·exact .inr q
   ·exact .inl (.inr ⟨y,(hmm y).2 ⟨q,r⟩,t.symm⟩)
 have hto : ∀ y ∈ l,underB y.path frm = true → underB (newI frm to y).path to = true:=fun y hy hyu => by
  obtain ⟨s,hs⟩:=hfit y hy hyu
  exact under_of hs.valid hvt hs.names
 refine ⟨⟨?_,?_,?_,?_⟩,hmem,hfit,hfr⟩
 ·have h1:=h.many
  have h2:=congrArg List.length e2
  rw [e] at h1
  simp only [List.length_append,List.length_cons,List.length_map] at h1 h2 ⊢
  omega
 ·intro z hz
  rcases (hmem z).1 hz with hz | ⟨y,hy,hyu,rfl⟩
  ·exact h.kid z hz.1
  ·obtain ⟨s,hs⟩:=hfit y hy hyu
   refine ⟨⟨hs.valid,fun q => ?_,rfl⟩,(h.kid y hy).2⟩
   have h1:=hs.names
   rw [q,(names_root [47] validB_root).2 rfl] at h1
   exact htr ((names_root to hvt).1 (List.append_eq_nil_iff.1 h1.symm).1)
 ·have hs2:=e2 ▸ hsr
  have hp2:=List.pairwise_append.1 hs2
  refine List.pairwise_append.2 ⟨List.pairwise_append.2 ⟨hp2.1,?_,?_⟩,hp2.2.1,?_⟩
  ·rw [List.pairwise_map]
   refine List.Pairwise.imp_of_mem ?_ hsm
   intro a b ha hb hab
   have ha':=(hmm a).1 ha
   have hb':=(hmm b).1 hb
   obtain ⟨s,hs⟩:=hfit a ha'.1 ha'.2
   obtain ⟨t,ht⟩:=hfit b hb'.1 hb'.2
   exact new_lt hs ht (h.kid a ha'.1).1.1 (h.kid b hb'.1).1.1 hab
  ·intro a ha b hb
   obtain ⟨y,hy,rfl⟩:=List.mem_map.1 hb
   have hy':=(hmm y).1 hy
   exact lt_le (hP2.low a ha) (cl_under to _ (hto y hy'.1 hy'.2))
  ·intro a ha b hb
   rcases List.mem_append.1 ha with ha | ha
   ·exact hp2.2.2 a ha b hb
   ·obtain ⟨y,hy,rfl⟩:=List.mem_map.1 ha
    have hy':=(hmm y).1 hy
    have h1:=hP2.high b hb
    have h2:=hnt b ((hmr b).1 (by rw [e2]; exact List.mem_append_right _ hb)).1
    by_cases q : cmpL (newI frm to y).path b.path < 0
    ·exact q
    ·have h3:=cl_total _ _ q
     have:=cl_between to _ b.path (hto y hy'.1 hy'.2) (by omega) h3
     rw [h2] at this; cases this
 ·intro z hz
  rcases (hmem z).1 hz with hz | ⟨y,hy,hyu,rfl⟩
  ·rcases h.up z hz.1 with q | ⟨d,hd,q1,q2⟩
   ·exact .inl q
   ·refine .inr ⟨d,(hmem d).2 (.inl ⟨hd,?_⟩),q1,q2⟩
    by_cases r : underB d.path frm = true
    ·rw [q1] at r
     have:=under_trans (up_under z.path (h.kid z hz.1).1.1) r
     rw [hz.2] at this; cases this
    ·exact Bool.eq_false_iff.2 r
  ·obtain ⟨s,hs⟩:=hfit y hy hyu
   by_cases hyf : y.path = frm
   ·-- the directory itself: its place is open
    have hyx : y = x':=h.one hy hx (hyf.trans hxp.symm)
    have hup : upL (newI frm to y).path = upL to:=by rw [(new_self hvt hyf).1]
    rw [hup]
    rcases open_up ho with q | ⟨d,hd,q1,q2⟩
    ·exact .inl q
    ·refine .inr ⟨d,(hmem d).2 (.inl ⟨hd,?_⟩),q1,q2⟩
     by_cases r : underB d.path frm = true
     ·rw [q1] at r
      have:=under_trans (up_under to hvt) r
      rw [hu] at this; cases this
     ·exact Bool.eq_false_iff.2 r
   ·have hyk:=(h.kid y hy).1
    have hupu : underB (upL y.path) frm = true:=under_up hyu (fun q => hyf q.symm)
    rcases h.up y hy with q | ⟨d,hd,q1,q2⟩
    ·rw [q] at hupu
     obtain ⟨_,_,t,h1,_⟩:=under_form hupu
     rw [(names_root [47] validB_root).2 rfl] at h1
     exact absurd ((names_root frm hvf).1 (List.append_eq_nil_iff.1 h1.symm).1) hfr
    ·have hdu : underB d.path frm = true:=by rw [q1]; exact hupu
     refine .inr ⟨newI frm to d,(hmem _).2 (.inr ⟨d,hd,hdu,rfl⟩),?_,q2⟩
     have hsne : s ≠ []:=fun q => hyf (names_inj _ _ hyk.1 hvf (by rw [hs.old,q,List.append_nil]))
     have hnd : namesL d.path = namesL frm ++ s.dropLast:=by
      rw [q1,up_names hyk.1,hs.old,List.dropLast_append_of_ne_nil hsne]
     have hnn : newN frm to d.path = namesL to ++ s.dropLast:=by
      unfold newN; rw [hnd,List.drop_left]
     show joinL (newN frm to d.path) = upL (newI frm to y).path
     unfold upL
     rw [if_pos hs.valid,hs.names,hnn,List.dropLast_append_of_ne_nil hsne]
end Go.Proofs.YtigopecainocgaaGreatDoor
