/- Proved here: Plain words on puncheonref06: what an operation makes of a tree there it makes of it in the plain functions that the program was held to. Nothing of the program stands here. -/
import Derived.Test.YtigopecainocgaaGreatDoorOMath4
set_option maxRecDepth 100000
set_option maxHeartbeats 32000000
namespace Go.Proofs.YtigopecainocgaaGreatDoor
/-! ### with,without,Below -/
def wstep (x : It) (s : List It × Bool) (y : It) : List It × Bool :=
 if y.path = x.path then (if s.2 = false ∧ cmpL x.path y.path ≤ 0 then (s.1 ++ [x],true) else s)
 else (if s.2 = false ∧ cmpL x.path y.path ≤ 0 then (s.1 ++ [x] ++ [y],true) else (s.1 ++ [y],s.2))
def wend (x : It) (s : List It × Bool) : List It:=if s.2 = true then s.1 else s.1 ++ [x]
def withR (l : List It) (x : It) : List It:=wend x (l.foldl (wstep x) ([],false))
theorem fold_before {x : It} : ∀ (A o : List It),(∀ a ∈ A,cmpL a.path x.path < 0) → A.foldl (wstep x) (o,false) = (o ++ A,false)
 | [],o,_ => by simp
 | a :: A,o,h => by
  have h1:=h a (by simp)
  have h2 : ¬ cmpL x.path a.path ≤ 0:=by have:=cl_anti x.path a.path; omega
  have e : wstep x (o,false) a = (o ++ [a],false):=by simp [wstep,h2,cl_ne h1]
  rw [List.foldl_cons,e,fold_before A _ (fun b hb => h b (by simp [hb]))]; simp
theorem fold_behind {x : It} : ∀ (B o : List It),(∀ b ∈ B,b.path ≠ x.path) → B.foldl (wstep x) (o,true) = (o ++ B,true)
 | [],o,_ => by simp
 | b :: B,o,h => by
  have e : wstep x (o,true) b = (o ++ [b],true):=by simp [wstep,h b (by simp)]
  rw [List.foldl_cons,e,fold_behind B _ (fun c hc => h c (by simp [hc]))]; simp
theorem fold_over {x : It} (B o : List It) (h : ∀ b ∈ B,cmpL x.path b.path < 0) : wend x (B.foldl (wstep x) (o,false)) = o ++ [x] ++ B:=by
 cases B with
 | nil => simp [wend]
 | cons b B =>
  have h1:=h b (by simp)
  have h2 : cmpL x.path b.path ≤ 0:=by omega
  have h3 : b.path ≠ x.path:=fun e => cl_ne h1 e.symm
  have e : wstep x (o,false) b = (o ++ [x] ++ [b],true):=by simp [wstep,h2,h3]
  rw [List.foldl_cons,e,fold_behind B _ (fun c hc e => cl_ne (h c (by simp [hc])) e.symm)]
  simp [wend]
theorem with_put {l : List It} (hs : Srt l) (x : It) : withR l x = putL l [x] x.path:=by
 obtain ⟨A,B,hp,h⟩:=place l x.path hs
 unfold withR
 rcases h with ⟨hh,e⟩ | ⟨y,hh,hy,e⟩
 ·rw [(hp.no hh e).1,e,List.foldl_append,fold_before A _ hp.low,fold_over B _ hp.high]; simp
 ·rw [(hp.yes hh e).1,e,List.foldl_append,fold_before A _ hp.low,List.foldl_cons]
  have h0 : cmpL x.path x.path ≤ 0:=by rw [cl_self]; omega
  have e2 : wstep x ([] ++ A,false) y = (A ++ [x],true):=by simp [wstep,hy,h0]
  rw [e2,fold_behind B _ (fun c hc e => cl_ne (hp.high c hc) e.symm)]
  simp [wend]
def withoutR (l : List It) (p : Str) : List It:=l.filter fun y => !decide (y.path = p)
theorem filter_all {α : Type} {q : α → Bool} {l : List α} (h : ∀ x ∈ l,q x = true) : l.filter q = l:=List.filter_eq_self.2 h
theorem without_take {l : List It} (hs : Srt l) {p : Str} (hh : hasL l p = true) : withoutR l p = takeL l p 1:=by
 obtain ⟨A,B,hp,h⟩:=place l p hs
 rcases h with ⟨k,_⟩ | ⟨y,_,hy,e⟩
 ·rw [hh] at k; cases k
 ·have h1:=(hp.yes hh e).2.2.2.2 0
  rw [Nat.zero_add,List.drop_zero] at h1
  rw [h1]
  unfold withoutR
  rw [e,List.filter_append,List.filter_cons,if_neg (by simp [hy]),filter_all (fun a ha => by simp [cl_ne (hp.low a ha)]),filter_all (fun b hb => by simp [show b.path ≠ p from fun e => cl_ne (hp.high b hb) e.symm])]
def belowR (l : List It) (p : Str) : List It:=l.filter fun y => !decide (y.path = p) && underB y.path p
theorem tw_sub {α : Type} (q : α → Bool) (l : List α) : (l.takeWhile q).Sublist l:=List.takeWhile_sublist q
theorem below_is {l : List It} (hs : Srt l) (p : Str) : belowR l p = belowL l p:=by
 refine srt_ext (List.Pairwise.filter _ hs) (hs.sublist ((tw_sub _ _).trans (List.drop_sublist _ _))) (fun x => ?_)
 rw [below_mem hs]
 unfold belowR
 rw [List.mem_filter]
 rw [Bool.and_eq_true,Bool.not_eq_true',decide_eq_false_iff_not]
 constructor
 ·rintro ⟨h1,h2,h3⟩; exact ⟨h1,h3,h2⟩
 ·rintro ⟨h1,h2,h3⟩; exact ⟨h1,h3,h2⟩
/-! ### Names that were put together -/
theorem valid_flat (x : Str) (r : List Str) (hx : nameB x = true) (hr : ∀ y ∈ r,nameB y = true) (h : validB (joinL (x :: r)) = true) : partsB (x :: r) = true:=by
 have hne : x ++ flat r ≠ []:=fun e => (name_ne x hx).1 (List.append_eq_nil_iff.1 e).1
 have hc:=cutP_flat x r (name_slash x hx) (fun y hy => name_slash y (hr y hy))
 rw [joinL,join_cons,validB_slash _ hne,hc] at h
 exact h
theorem valid_parts (n : List Str) (hn : ∀ x ∈ n,nameB x = true) : validB (joinL n) = partsB n:=by
 cases n with
 | nil => rfl
 | cons x r =>
  cases e : partsB (x :: r) with
  | true => exact (join_valid _ e).1
  | false =>
   cases e2 : validB (joinL (x :: r)) with
   | false => rfl
   | true => rw [valid_flat x r (hn x (by simp)) (fun y hy => hn y (by simp [hy])) e2] at e; cases e
theorem new_names {frm to : Str} {y : It} (hy : validB y.path = true) (ht : validB to = true) : ∀ x ∈ newN frm to y.path,nameB x = true:=by
 intro x hx
 unfold newN at hx
 rcases List.mem_append.1 hx with h | h
 ·exact (valid_names to ht).2 x h
 ·exact (valid_names y.path hy).2 x (List.mem_of_mem_drop h)
theorem new_valid {frm to : Str} {y : It} (hy : validB y.path = true) (ht : validB to = true) : validB (newI frm to y).path = partsB (newN frm to y.path):=valid_parts _ (new_names hy ht)
/-! ### moves -/
def mapI (frm to : Str) (x : It) : It:=if underB x.path frm = true then newI frm to x else x
def mstep (frm to : Str) (s : Except Int (List It)) (x : It) : Except Int (List It):=match s with
 | .error e => .error e
 | .ok out => if underB x.path frm = true then (if validB (newI frm to x).path = true then .ok (withR out (newI frm to x)) else .error 110) else .ok (withR out x)
theorem mstep_err (frm to : Str) (e : Int) (l : List It) : l.foldl (mstep frm to) (.error e) = .error e:=by
 induction l with
 | nil => rfl
 | cons a l ih => exact ih
theorem mstep_ok (frm to : Str) : ∀ (l out : List It),(∀ x ∈ l,underB x.path frm = true → validB (newI frm to x).path = true) → l.foldl (mstep frm to) (.ok out) = .ok ((l.map (mapI frm to)).foldl withR out)
 | [],_,_ => rfl
 | x :: l,out,h => by
  have e : mstep frm to (.ok out) x = .ok (withR out (mapI frm to x)):=by
   unfold mstep mapI
   by_cases hu : underB x.path frm = true
   ·simp only [if_pos hu,if_pos (h x (by simp) hu)]
   ·simp only [if_neg hu]
  rw [List.foldl_cons,e,mstep_ok frm to l _ (fun y hy => h y (by simp [hy]))]; rfl
theorem mstep_no (frm to : Str) : ∀ (l out : List It),(∃ x ∈ l,underB x.path frm = true ∧ validB (newI frm to x).path = false) → l.foldl (mstep frm to) (.ok out) = .error 110
 | [],_,h => by obtain ⟨x,hx,_⟩:=h; cases hx
 | x :: l,out,h => by
  rw [List.foldl_cons]
  by_cases hx : underB x.path frm = true ∧ validB (newI frm to x).path = false
  ·have e : mstep frm to (.ok out) x = .error 110:=by
    unfold mstep
    simp only [if_pos hx.1,hx.2]
    rfl
   rw [e,mstep_err]
  ·obtain ⟨y,hy,h1⟩:=h
   have hyl : y ∈ l:=by
    rcases List.mem_cons.1 hy with rfl | hy
    ·exact absurd h1 hx
    ·exact hy
   have : ∃ o',mstep frm to (.ok out) x = .ok o':=by
    unfold mstep
    by_cases hu : underB x.path frm = true
    ·have hv : validB (newI frm to x).path = true:=by
      cases e : validB (newI frm to x).path with
      | true => rfl
      | false => exact absurd ⟨hu,e⟩ hx
     simp only [if_pos hu,if_pos hv]
     exact ⟨_,rfl⟩
    ·simp only [if_neg hu]
     exact ⟨_,rfl⟩
   obtain ⟨o',e⟩:=this
   rw [e]
   exact mstep_no frm to l o' ⟨y,hyl,h1⟩
theorem with_all : ∀ (m out : List It),Srt out → (m.map (·.path)).Nodup → (∀ x ∈ m,∀ y ∈ out,y.path ≠ x.path) → Srt (m.foldl withR out) ∧ ∀ z,z ∈ m.foldl withR out ↔ z ∈ out ∨ z ∈ m
 | [],out,hs,_,_ => ⟨hs,fun z => by simp⟩
 | x :: m,out,hs,hn,hd => by
  rw [List.map_cons,List.nodup_cons] at hn
  obtain ⟨A,B,hp,h⟩:=place out x.path hs
  have hno : hasL out x.path = false ∧ out = A ++ B:=by
   rcases h with h | ⟨y,_,hy,e⟩
   ·exact h
   ·exact absurd hy (hd x (by simp) y (by rw [e]; simp))
  have ew : withR out x = A ++ [x] ++ B:=by rw [with_put hs x,(hp.no hno.1 hno.2).1]
  have hs2 : Srt (withR out x):=by
   have h5 : Srt (A ++ B):=by rw [← hno.2]; exact hs
   rw [ew,show A ++ [x] ++ B = A ++ x :: B by simp]
   exact srt_mid h5 hp.low hp.high
  have hm2 : ∀ z,z ∈ withR out x ↔ z ∈ out ∨ z = x:=by
   intro z
   rw [ew,hno.2]
   simp only [List.mem_append,List.mem_singleton]
   constructor
   ·rintro ((h | h) | h)
    ·exact .inl (.inl h)
    ·exact .inr h
    ·exact .inl (.inr h)
   ·rintro ((h | h) | h)
    ·exact .inl (.inl h)
    ·exact .inr h
    ·exact .inl (.inr h)
  obtain ⟨k1,k2⟩:=with_all m (withR out x) hs2 hn.2 (fun y hy z hz => by
   rcases (hm2 z).1 hz with h | rfl
   ·exact hd y (by simp [hy]) z h
   ·intro e; exact hn.1 (by rw [e]; exact List.mem_map_of_mem hy))
  refine ⟨k1,fun z => ?_⟩
  rw [List.foldl_cons,k2 z,hm2 z,List.mem_cons]
  constructor
  ·rintro ((h | h) | h)
   ·exact .inl h
   ·exact .inr (.inl h)
   ·exact .inr (.inr h)
  ·rintro (h | h | h)
   ·exact .inl (.inl h)
   ·exact .inl (.inr h)
   ·exact .inr h
def movesR (l : List It) (frm to : Str) : Except Int (List It) :=
 if getI l frm = none then .error 4
 else if frm = [47] ∨ underB to frm = true then .error 2
 else if openM l to ≠ 0 then .error (openM l to)
 else if (getI l to).isSome then .error 5
 else l.foldl (mstep frm to) (.ok [])
theorem moves_is {l : List It} (h : TreeOk l) {frm to : Str} (hvf : validB frm = true) (hvt : validB to = true) : movesR l frm to = moveM l frm to:=by
 unfold movesR moveM
 cases hg : getI l frm with
 | none => simp
 | some x =>
  rw [if_neg (by simp)]
  simp only
  by_cases hu : underB to frm = true
  ·rw [if_pos (.inr hu),if_pos hu]
  ·rw [if_neg hu]
   have hfr : frm ≠ [47]:=fun e => hu (by rw [e]; exact root_under hvt)
   rw [if_neg (by rintro (e | e); exact hfr e; exact hu e)]
   by_cases ho : openM l to = 0
   ·rw [if_neg (not_not_intro ho)]
    try rw [if_neg (not_not_intro ho)]
    by_cases hi : (getI l to).isSome = true
    ·simp only [if_pos hi]
    ·simp only [if_neg hi]
     have hn : getI l to = none:=by
      cases e : getI l to with
      | none => rfl
      | some _ => rw [e] at hi; exact absurd rfl hi
     have hval : ∀ y ∈ l,validB y.path = true:=fun y hy => (h.kid y hy).1.1
     have hx : x ∈ l ∧ x.path = frm:=by
      rcases (get_some h.sorted).1 hg with ⟨k,_⟩ | ⟨_,k⟩
      ·exact absurd k hfr
      ·exact k
     have hfit : fitsM l frm to = true ↔ ∀ y ∈ l,underB y.path frm = true → validB (newI frm to y).path = true:=by
      unfold fitsM
      rw [List.all_eq_true]
      constructor
      ·intro k y hy hyu
       rw [new_valid (hval y hy) hvt]
       by_cases e : y.path = frm
       ·exact (new_self hvt e).2
       ·exact k y ((below_mem h.sorted frm y).2 ⟨hy,hyu,e⟩)
      ·intro k y hy
       obtain ⟨h1,h2,_⟩:=(below_mem h.sorted frm y).1 hy
       rw [← new_valid (hval y h1) hvt]
       exact k y h1 h2
     by_cases hf : fitsM l frm to = true
     ·have hm:=ok_move h hvf hvt hg (Bool.eq_false_iff.2 hu) ho hn hf
      rw [if_neg (by simp [hf]),mstep_ok frm to l [] (hfit.1 hf)]
      congr 1
      have hpaths : ((l.map (mapI frm to)).map (·.path)).Nodup:=by
       rw [List.map_map,List.Nodup,List.pairwise_map]
       refine List.Pairwise.imp_of_mem (R:=fun a b => cmpL a.path b.path < 0) ?_ h.sorted
       intro a b ha hb hab e
       have hne : a.path ≠ b.path:=cl_ne hab
       have key : ∀ {y : It},y ∈ l → underB y.path frm = true → underB (newI frm to y).path to = true:=fun {y} hy hyu => by
        obtain ⟨s,hs⟩:=hm.fits y hy hyu
        exact under_of hs.valid hvt hs.names
       have off : ∀ {y : It},y ∈ l → underB y.path to = true → False:=fun {y} hy hyu => by
        by_cases e2 : y.path = to
        ·exact (get_none.1 hn).2 y hy e2
        ·obtain ⟨d,hd,_⟩:=anc_here h hy hyu e2
         rw [hn] at hd; cases hd
       show False
       have e : (mapI frm to a).path = (mapI frm to b).path:=e
       unfold mapI at e
       by_cases ua : underB a.path frm = true <;> by_cases ub : underB b.path frm = true
       ·rw [if_pos ua,if_pos ub] at e
        obtain ⟨s,hs⟩:=hm.fits a ha ua
        obtain ⟨t,ht⟩:=hm.fits b hb ub
        have:=new_lt hs ht (hval a ha) (hval b hb) hab
        rw [e] at this
        exact cl_irr this
       ·rw [if_pos ua,if_neg ub] at e
        exact off hb (by rw [← e]; exact key ha ua)
       ·rw [if_neg ua,if_pos ub] at e
        exact off ha (by rw [e]; exact key hb ub)
       ·rw [if_neg ua,if_neg ub] at e
        exact hne e
      obtain ⟨k1,k2⟩:=with_all (l.map (mapI frm to)) [] List.Pairwise.nil hpaths (fun _ _ y hy => by cases hy)
      refine srt_ext k1 hm.ok.sorted (fun z => ?_)
      rw [k2 z,hm.mem z]
      simp only [List.not_mem_nil,false_or,List.mem_map]
      constructor
      ·rintro ⟨y,hy,rfl⟩
       unfold mapI
       by_cases hyu : underB y.path frm = true
       ·rw [if_pos hyu]; exact .inr ⟨y,hy,hyu,rfl⟩
       ·rw [if_neg hyu]; exact .inl ⟨hy,Bool.eq_false_iff.2 hyu⟩
      ·rintro (⟨h1,h2⟩ | ⟨y,hy,hyu,rfl⟩)
       ·exact ⟨z,h1,by unfold mapI; rw [if_neg (by simp [h2])]⟩
       ·exact ⟨y,hy,by unfold mapI; rw [if_pos hyu]⟩
     ·rw [if_pos (Bool.eq_false_iff.2 hf)]
      refine mstep_no frm to l [] ?_
      have : ¬ ∀ y ∈ l,underB y.path frm = true → validB (newI frm to y).path = true:=fun k => hf (hfit.2 k)
      simp only [Classical.not_forall] at this
      obtain ⟨y,hy,hyu,hv⟩:=this
      exact ⟨y,hy,hyu,Bool.eq_false_iff.2 hv⟩
   ·rw [if_pos ho]; try rw [if_pos ho]
/-! ### makes,CheckOp,Do -/
def makesR (l : List It) (x : It) (over : Bool) : Except Int (List It) :=
 if openM l x.path ≠ 0 then .error (openM l x.path)
 else match getI l x.path with
  | some y => if over = false then .error 5 else if y.kind ≠ 2 then .error 161 else .ok (withR l x)
  | none => if l.length = 2000 then .error 6 else .ok (withR l x)
theorem makes_add {l : List It} (h : TreeOk l) (x : It) : makesR l x false = addM l x:=by
 unfold makesR addM
 by_cases ho : openM l x.path = 0
 ·rw [if_neg (not_not_intro ho)]
  try rw [if_neg (not_not_intro ho)]
  cases hg : getI l x.path with
  | none => simp [with_put h.sorted]
  | some y => simp
 ·rw [if_pos ho]; try rw [if_pos ho]
theorem makes_write {l : List It} (h : TreeOk l) (p d : Str) : makesR l ⟨p,2,d⟩ true = writeM l p d:=by
 unfold makesR writeM
 simp only
 by_cases ho : openM l p = 0
 ·rw [if_neg (not_not_intro ho)]
  try rw [if_neg (not_not_intro ho)]
  cases hg : getI l p with
  | none => simp [with_put h.sorted]
  | some y =>
   by_cases hk : y.kind = 2
   ·simp [hk,with_put h.sorted]
   ·simp [hk]
 ·rw [if_pos ho]; try rw [if_pos ho]
def dataR (k : Int) : Bool:=decide (k = 2 ∨ k = 3 ∨ k = 4)
def checkR (o : Opn) : Int :=
 if o.kind < 1 ∨ 7 < o.kind then 2
 else if (dataR o.kind = false ∧ o.data ≠ []) ∨ (o.kind ≠ 5 ∧ o.to ≠ []) ∨ (o.kind = 4 ∧ o.data = []) then 2
 else if validB o.path = false ∨ (o.kind = 5 ∧ validB o.to = false) then 110
 else if (o.kind = 4 ∧ 2000 < o.data.length) ∨ 524288 < o.data.length then 3 else 0
theorem chkr_is (o : Opn) : checkR o = checkM o:=by
 unfold checkR checkM
 by_cases h1 : o.kind < 1 ∨ 7 < o.kind
 ·simp only [if_pos h1]
 ·simp only [if_neg h1]
  have hk : o.kind = 1 ∨ o.kind = 2 ∨ o.kind = 3 ∨ o.kind = 4 ∨ o.kind = 5 ∨ o.kind = 6 ∨ o.kind = 7:=by omega
  rcases hk with hk | hk | hk | hk | hk | hk | hk <;> simp only [hk,dataR,mostM,leastM] <;> simp
  all_goals
   by_cases hd : o.data = [] <;> simp [hd]
  all_goals
   by_cases ht : o.to = [] <;> simp [ht]
  all_goals
   by_cases h2000 : 2000 < o.data.length <;> simp [h2000]
  all_goals
   by_cases h5 : 524288 < o.data.length <;> simp [h5]
  all_goals omega
def doR (l : List It) (o : Opn) : Except Int (List It) :=
 if checkR o ≠ 0 then .error (checkR o)
 else if o.kind = 1 then makesR l ⟨o.path,1,[]⟩ false
 else if o.kind = 4 then makesR l ⟨o.path,3,o.data⟩ false
 else if o.kind = 2 then makesR l ⟨o.path,2,o.data⟩ true
 else if o.kind = 5 then movesR l o.path o.to
 else match getI l o.path with
  | none => .error 4
  | some w =>
   if (o.kind = 3 ∧ w.kind ≠ 2) ∨ (o.kind = 6 ∧ w.kind = 1) ∨ (o.kind = 7 ∧ w.kind ≠ 1) then .error 161
   else if o.kind = 7 ∧ (o.path = [47] ∨ belowR l o.path ≠ []) then .error 162
   else if o.kind = 3 ∧ 524288 < w.data.length + o.data.length then .error 3
   else if o.kind = 3 then .ok (withR l ⟨w.path,w.kind,w.data ++ o.data⟩)
   else .ok (withoutR l o.path)
theorem do_is {l : List It} (h : TreeOk l) (o : Opn) : doR l o = actM l o:=by
 unfold doR actM
 rw [chkr_is]
 by_cases hc : checkM o = 0
 ·rw [if_neg (not_not_intro hc)]
  try rw [if_neg (not_not_intro hc)]
  have hk:=chk_ok hc
  unfold doesM
  have hkk : o.kind = 1 ∨ o.kind = 2 ∨ o.kind = 3 ∨ o.kind = 4 ∨ o.kind = 5 ∨ o.kind = 6 ∨ o.kind = 7:=by
   unfold checkM at hc
   by_cases h1 : o.kind < 1 ∨ 7 < o.kind
   ·rw [if_pos h1] at hc; cases hc
   ·omega
  have pathOf : ∀ {w : It},getI l o.path = some w → w.kind ≠ 1 → w.path = o.path ∧ hasL l o.path = true:=fun {w} hg hw => by
   have hr:=kind_root hg hw
   rcases (get_some h.sorted).1 hg with ⟨k,_⟩ | ⟨_,_,k⟩
   ·exact absurd k hr
   ·exact ⟨k,has_some h.sorted hg hr⟩
  rcases hkk with k | k | k | k | k | k | k
  ·simp [k,makes_add h]
  ·simp [k,makes_write h]
  ·simp only [k]
   unfold extendM
   cases hg : getI l o.path with
   | none => rfl
   | some w =>
    by_cases h2 : w.kind = 2
    ·obtain ⟨hp,_⟩:=pathOf hg (by rw [h2]; decide)
     by_cases h5 : 524288 < w.data.length + o.data.length
     ·simp [h2,h5]
     ·simp [h2,h5,with_put h.sorted,hp]
    ·simp [h2]
  ·simp [k,makes_add h]
  ·have hv : validB o.path = true ∧ validB o.to = true:=⟨hk.path,hk.to k⟩
   simp [k,moves_is h hv.1 hv.2]
  ·simp only [k]
   unfold unlinkM
   cases hg : getI l o.path with
   | none => rfl
   | some w =>
    by_cases h1 : w.kind = 1
    ·simp [h1]
    ·obtain ⟨_,hh⟩:=pathOf hg h1
     simp [h1,without_take h.sorted hh]
  ·simp only [k]
   unfold rmdirM
   cases hg : getI l o.path with
   | none => rfl
   | some w =>
    by_cases h1 : w.kind = 1
    ·have hroot : w = .root ↔ o.path = [47]:=by
      rcases (get_some h.sorted).1 hg with ⟨k1,k2⟩ | ⟨k1,k2,k3⟩
      ·exact ⟨fun _ => k1,fun _ => k2⟩
      ·refine ⟨fun e => ?_,fun e => absurd e k1⟩
       rw [← k3,e]; rfl
     by_cases hb : o.path = [47] ∨ belowL l o.path ≠ []
     ·have : w = .root ∨ belowL l o.path ≠ []:=hb.imp hroot.2 id
      simp [h1,below_is h.sorted,this,hb]
     ·have hb2 : ¬ (w = .root ∨ belowL l o.path ≠ []):=by
       rintro (e | e)
       ·exact hb (.inl (hroot.1 e))
       ·exact hb (.inr e)
      have hh:=has_some h.sorted hg (fun e => hb (.inl e))
      simp [h1,below_is h.sorted,hb2,hb,without_take h.sorted hh]
    ·simp [h1]
 ·rw [if_pos hc]; try rw [if_pos hc]
end Go.Proofs.YtigopecainocgaaGreatDoor
