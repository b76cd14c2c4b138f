/- Proved here: moves of puncheonref06. -/
import Derived.Test.YtigopecainocgaaGreatDoorRDo
import Derived.Test.YtigopecainocgaaGreatDoorRBen2
set_option maxRecDepth 100000
set_option maxHeartbeats 32000000
namespace Go.Proofs.YtigopecainocgaaGreatDoor
open Go.RowKit Go.Shelf
theorem wfold_mem (x : It) : ∀ (l : List It) (s : List It × Bool) (z : It),z ∈ (l.foldl (wstep x) s).1 → z ∈ s.1 ∨ z ∈ l ∨ z = x
 | [],s,z,h => .inl h
 | y :: l,s,z,h => by
  rw [List.foldl_cons] at h
  rcases wfold_mem x l (wstep x s y) z h with h | h | h
  ·have : z ∈ s.1 ∨ z = y ∨ z = x:=by
    unfold wstep at h
    split at h <;> split at h <;> (try simp at h)
    ·rcases h with h | h; exact .inl h; exact .inr (.inr h)
    ·exact .inl h
    ·rcases h with h | h | h; exact .inl h; exact .inr (.inr h); exact .inr (.inl h)
    ·rcases h with h | h; exact .inl h; exact .inr (.inl h)
   rcases this with h | h | h
   ·exact .inl h
   ·exact .inr (.inl (by rw [h]; simp))
   ·exact .inr (.inr h)
  ·exact .inr (.inl (by simp [h]))
  ·exact .inr (.inr h)
theorem with_mem {l : List It} {x z : It} (h : z ∈ withR l x) : z ∈ l ∨ z = x:=by
 unfold withR wend at h
 have key : z ∈ (l.foldl (wstep x) ([],false)).1 → z ∈ l ∨ z = x:=fun h => by
  rcases wfold_mem x l _ z h with h | h | h
  ·cases h
  ·exact .inl h
  ·exact .inr h
 split at h
 ·exact key h
 ·rcases List.mem_append.1 h with h | h
  ·exact key h
  ·exact .inr (by simpa using h)
theorem wfold_len (x : It) : ∀ (l : List It) (s : List It × Bool),(l.foldl (wstep x) s).1.length + (if (l.foldl (wstep x) s).2 = true then 0 else 1) ≤ s.1.length + l.length + (if s.2 = true then 0 else 1)
 | [],s => Nat.le_refl _
 | y :: l,s => by
  rw [List.foldl_cons]
  have ih:=wfold_len x l (wstep x s y)
  have : (wstep x s y).1.length + (if (wstep x s y).2 = true then 0 else 1) ≤ s.1.length + 1 + (if s.2 = true then 0 else 1):=by
   unfold wstep
   cases hs : s.2 <;> split <;> split <;> simp_all
   all_goals omega
  rw [List.length_cons]
  omega
theorem with_len (l : List It) (x : It) : (withR l x).length ≤ l.length + 1:=by
 have h:=wfold_len x l ([],false)
 unfold withR wend
 split
 ·rename_i k; rw [if_pos k] at h; simp at h; omega
 ·rename_i k; rw [if_neg k] at h; simp at h ⊢; omega
theorem name_size {x : Str} (h : nameB x = true) : x.length ≤ 32:=by
 unfold nameB at h
 simp only [Bool.and_eq_true,decide_eq_true_iff] at h
 omega
theorem flat_le9 : ∀ (n : List Str),(∀ x ∈ n,x.length ≤ 32) → (flat n).length ≤ 33 * n.length
 | [],_ => by simp [flat_nil]
 | x :: r,h => by
  have h1:=h x (by simp)
  have h2:=flat_le9 r (fun y hy => h y (by simp [hy]))
  have e : (flat (x :: r)).length = 1 + x.length + (flat r).length:=by rw [flat_cons]; simp; omega
  rw [e,List.length_cons]; omega
theorem join_le (n : List Str) (h : ∀ x ∈ n,x.length ≤ 32) : (joinL n).length ≤ 33 * n.length + 1:=by
 cases n with
 | nil => rw [joinL_nil]; simp
 | cons x r => rw [joinL_flat _ (by simp)]; have:=flat_le9 (x :: r) h; omega
theorem valid_small {p : Str} (h : validB p = true) : p.length ≤ 2000000:=by
 have h1:=valid_names p h
 have h2:=join_le (namesL p) (fun x hx => name_size (h1.2 x hx))
 rw [(valid_join p h).1] at h2
 omega
theorem new_many {frm tgt : Str} {y : It} (hy : validB y.path = true) (ht : validB tgt = true) : (newN frm tgt y.path).length ≤ 80:=by
 unfold newN
 have h1:=(valid_names tgt ht).1
 have h2:=(valid_names y.path hy).1
 rw [List.length_append,List.length_drop]
 omega
theorem mstep_one {frm tgt : Str} {l : List It} {k : Nat} {x : It} {s : Except Int (List It)} (h : l[k]? = some x) (hs : (l.take k).foldl (mstep frm tgt) (.ok []) = s) : (l.take (k + 1)).foldl (mstep frm tgt) (.ok []) = mstep frm tgt s x:=by
 rw [take_one h,List.foldl_append,hs]; rfl
theorem mstep_dead {frm tgt : Str} {l : List It} {k : Nat} {e : Int} (h : (l.take k).foldl (mstep frm tgt) (.ok []) = .error e) : l.foldl (mstep frm tgt) (.ok []) = .error e:=by
 have : l = l.take k ++ l.drop k:=(List.take_append_drop k l).symm
 rw [this,List.foldl_append,h,mstep_err]
theorem moves_if {l : List It} {frm tgt : Str} {b un b2 : Bool} {er : Int} (hb : b = (getI l frm).isSome) (hun : un = underB tgt frm) (her : er = openM l tgt) (hb2 : b2 = (getI l tgt).isSome) :
  movesR l frm tgt = if b = false then .error 4 else if frm = [47] ∨ un = true then .error 2 else if er ≠ 0 then .error er else if b2 = true then .error 5 else l.foldl (mstep frm tgt) (.ok []):=by
 subst hb hun her hb2
 unfold movesR
 cases e : getI l frm with
 | none => simp
 | some z => simp
theorem made_own (w : World) : (w.alloc (.cells #[] 9)).ownsRow w.heap.size 9 1 (.slice (some ⟨w.heap.size,0,none⟩) 0 0) 0 []:=World.ownsRow_made w #[] 0 (Nat.le_refl _) (Nat.zero_le _) rfl
theorem rds_cells {w : World} {a : Option Addr} {n c : Nat} {l : List Str} (h : RdS w (.slice a n c) l) (h0 : 0 < l.length) : ∃ g o,a = some ⟨g,o,none⟩ ∧ g < w.heap.size ∧ ∀ (j : Nat) (u : Value),(l.map encS)[j]? = some u → w.cell? ((⟨g,o,none⟩ : Addr).add j) = some u:=by
 obtain ⟨g,o,rfl,hg,hc⟩:=h.cells h0
 refine ⟨g,o,rfl,hg,fun j u hu => ?_⟩
 rw [List.getElem?_map] at hu
 obtain ⟨x,hx,rfl⟩:=Option.map_eq_some_iff.1 hu
 rw [add_off]
 exact hc j x hx
theorem encs_one (l : List Str) : ∀ u ∈ l.map encS,u.oneCell' = true:=by
 intro u hu
 obtain ⟨x,_,rfl⟩:=List.mem_map.1 hu
 simp [encS,Value.oneCell']
theorem rds_any {w : World} {g o n c : Nat} {l : List Str} (h : RdS w (.slice (some ⟨g,o,none⟩) n c) l) : ∀ (j : Nat) (u : Value),(l.map encS)[j]? = some u → w.cell? ((⟨g,o,none⟩ : Addr).add j) = some u:=fun j u hu => by
 have h0 : 0 < l.length:=by have:=(List.getElem?_eq_some_iff.1 hu).1; rw [List.length_map] at this; omega
 obtain ⟨g',o',e,_,hc⟩:=rds_cells h h0
 cases e
 exact hc j u hu
theorem own_low {w : World} {B e s n : Nat} {v : Value} {xs : List Value} (h : w.ownsRow B e s v n xs) : ∀ q,v.ownBlock = some q → B ≤ q:=by
 intro q hq
 rcases h.2 with ⟨rfl,_⟩ | ⟨g,cap,cur,rfl,hg,_⟩
 ·simp [Value.ownBlock] at hq
 ·simp [Value.ownBlock] at hq; omega
theorem own_lt9 {w : World} {B : Nat} {v : Value} {l : List It} (h : OwnI w B v l) : ∀ q,v.ownBlock = some q → q < w.heap.size:=by
 intro q hq
 have h':=h
 rcases h.2 with ⟨rfl,_⟩ | ⟨g,cap,cur,rfl,hg,_⟩
 ·simp [Value.ownBlock] at hq
 ·simp [Value.ownBlock] at hq; subst hq; exact (h'.lt g rfl).2
theorem own_under {w w' : World} {B C : Nat} {v : Value} {l : List It} (h : OwnI w B v l) (hb : Below C w w') (hlt : ∀ q,v.ownBlock = some q → q < C) : OwnI w' B v l :=
 h.far fun k hk => hb.block k (hlt k hk)
theorem own_cellset {w : World} {B g k : Nat} {v : Value} {l : List It} {u : Value} (h : OwnI w B v l) (hne : v.ownBlock ≠ some g) : OwnI (w.setCell ⟨g,k,none⟩ u) B v l :=
 h.far fun q hq => heap_setCell_other w ⟨g,k,none⟩ q u (fun e => hne (by rw [hq,e]))
theorem box_ne24 {w : World} {g k : Nat} {cs ds : Array Value} (h : Box w g 24 cs) (h2 : Box w k 59 ds) : g ≠ k:=fun e => by
 subst e
 unfold Box at h h2
 rw [h] at h2
 injection h2 with h2
 injection h2 with _ e2 _
 exact absurd e2 (by decide)
theorem rmoves_any (l : List It) (v : Value) (frm tgt : Str) (w : World) (hv : RdI w v l) (h : TreeOk l) (hvf : validB frm = true) (hvt : validB tgt = true) (r : Except Int (List It)) (hr : movesR l frm tgt = r) :
  Calls Tryz.prog 75 #[.agg #[v],.string ⟨frm.toArray⟩,.string ⟨tgt.toArray⟩] w (TreeE r w):=by
 have hl:=h.many
 have hval : ∀ y ∈ l,validB y.path = true:=fun y hy => (h.kid y hy).1.1
 have hfs:=valid_small hvf
 have hts:=valid_small hvt
 obtain ⟨w1,hw1⟩:=nmq ((w.alloc (.cells #[v] 24)).alloc (.cells #[.slice none 0 0] 24))
 obtain ⟨b3,hb3⟩:=nmq (w.heap.size)
 have X3 : Hid (Box w1 b3 24 #[v]):=hyq (by rw [hw1,hb3]; exact box_new.alloc _)
 have X6 : Hid (Box w1 (b3 + 1) 24 #[.slice none 0 0]):=hyq (by rw [hw1,hb3,show w.heap.size + 1 = (w.alloc (.cells #[v] 24)).heap.size from by simp]; exact box_new)
 have HB : Hid (Below w.heap.size w w1):=hyq (by rw [hw1]; exact bch (below_new _ _) (below_new _ _))
 have H6 : Hid (w.heap.size ≤ b3 + 1):=hyq (by omega)
 have HV:=hyq (hv.on HB.out)
 obtain ⟨y,hy⟩:=nmq ((getI l frm).getD .nil)
 obtain ⟨b,hb⟩:=nmq ((getI l frm).isSome)
 obtain ⟨un,hun⟩:=nmq (underB tgt frm)
 obtain ⟨er,her⟩:=nmq (openM l tgt)
 obtain ⟨zt,hz⟩:=nmq ((getI l tgt).getD .nil)
 obtain ⟨b2,hb2⟩:=nmq ((getI l tgt).isSome)
 have HR0:=hyq (hr.symm.trans (moves_if hb hun her hb2))
 have HG1 : Hid (Calls Tryz.prog 73 #[.agg #[v],.string ⟨frm.toArray⟩] w1 fun e w' => e = .returned (.tuple #[.agg #[.string ⟨y.path.toArray⟩,.int .i64 y.kind,.string ⟨y.data.toArray⟩],.bool b]) ∧ Below w1.heap.size w1 w'):=hyq (rget_is l v frm w1 HV.out (by omega) y b hy hb)
 have HUN : Hid (∀ W,Calls Tryz.prog 98 #[.string ⟨tgt.toArray⟩,.string ⟨frm.toArray⟩] W fun e w' => e = .returned (.bool un) ∧ Below W.heap.size W w'):=hyq (fun W => by rw [hun]; exact runder_any ⟨tgt.toArray⟩ ⟨frm.toArray⟩ hts hfs W)
 have HOP : Hid (∀ W,Below w1.heap.size w1 W → Calls Tryz.prog 97 #[.agg #[v],.string ⟨tgt.toArray⟩] W fun e w' => e = .returned (.int .i64 er) ∧ Below W.heap.size W w'):=hyq (fun W hW => ropen_any l v tgt W (HV.out.on hW) (by omega) hts er her.symm)
 have HG2 : Hid (∀ W,Below w1.heap.size w1 W → Calls Tryz.prog 73 #[.agg #[v],.string ⟨tgt.toArray⟩] W fun e w' => e = .returned (.tuple #[.agg #[.string ⟨zt.path.toArray⟩,.int .i64 zt.kind,.string ⟨zt.data.toArray⟩],.bool b2]) ∧ Below W.heap.size W w'):=hyq (fun W hW => rget_is l v tgt W (HV.out.on hW) (by omega) zt b2 hz hb2)
 have HNM : Hid (∀ W,Calls Tryz.prog 54 #[.string ⟨tgt.toArray⟩] W (RYes (namesL tgt) W)):=hyq (fun W => (rnames_any ⟨tgt.toArray⟩ hts W).1 hvt)
 have HBN : Hid (∀ (x : It) W,x ∈ l → Calls Tryz.prog 99 #[.string ⟨x.path.toArray⟩,.string ⟨frm.toArray⟩] W fun e w' => ∃ v4,e = .returned (.tuple #[v4,.bool (underB x.path frm)]) ∧ (underB x.path frm = true → RdS w' v4 ((namesL x.path).drop (namesL frm).length)) ∧ FormS v4 ∧ Below W.heap.size W w'):=hyq (fun x W hx => rbeneath_f ⟨x.path.toArray⟩ ⟨frm.toArray⟩ (valid_small (hval x hx)) hfs W (h.kid x hx).1.2.1)
 have HVAL:=hyq hval
 have HVT:=hyq hvt
 have HNT : Hid (0 < (namesL tgt).length ∨ b2 = true):=hyq (by
  by_cases e : tgt = [47]
  ·right; rw [hb2]; unfold getI; rw [if_pos e]; rfl
  ·left
   rcases Nat.eq_zero_or_pos (namesL tgt).length with h0 | h0
   ·exact absurd ((names_root _ hvt).1 (List.length_eq_zero_iff.1 h0)) e
   ·exact h0)
 obtain ⟨a,c,rfl,hlc,hcm,_⟩:=hv.open
 obtain ⟨n,hn⟩:=nmq (l.length)
 have HN:=hyq hn
 rw [← hn] at HV X3 HG1 HOP HG2 hw1 hl hlc ⊢
 have k0:=b24
 have HBE:=hyq hb3
 obtain ⟨i0,hi,hz0,hz1,hz2⟩:=info_parts info9
 unfold maxLen at hcm
 clear hv hy hb hun her hz hb2 hr hn hb3 hval hfs hts hvf hvt h
 have p0:=X3.out.cell (k:=0) rfl
 go_enter Tryz.func75,Tryz.ntmps75
 go_upto_region 1 with fail
 rw [← HBE.out,← hw1]
 clear hw1
 go_wp2_with fail
 clear p0
 refine (HG1.out).mono ?_
 rintro e w2 ⟨rfl,hb⟩
 obtain ⟨VD,hVD⟩:=nmq ((w2.alloc (.cells #[.string ⟨#[]⟩,.int .i64 0,.string ⟨#[]⟩] 59)).setRow w2.heap.size #[.string ⟨y.path.toArray⟩,.int .i64 y.kind,.string ⟨y.data.toArray⟩])
 obtain ⟨bD,hbD⟩:=nmq (w2.heap.size)
 have hnD : Below w2.heap.size w2 VD:=by rw [hVD]; exact below_row (below_new _ _) (Nat.le_refl _) _
 have XD : Hid (Box VD bD 59 #[.string ⟨y.path.toArray⟩,.int .i64 y.kind,.string ⟨y.data.toArray⟩]):=hyq (by rw [hVD,hbD]; exact box_new.row _)
 have HVD:=hyq hVD
 have HWD:=hyq hbD
 have hcar : Below w1.heap.size w1 VD:=bch hb hnD
 have X3:=hyq (X3.out.on hcar)
 have X6:=hyq (X6.out.on hcar)
 have HB:=hyq (bch HB.out hcar)
 clear hcar
 have HA:=hyq (bch hb hnD)
 clear hb hnD HG1
 cases b with
 | false =>
  have HD : Hid (r = .error 4):=hyq (by rw [HR0.out]; rfl)
  clear hVD hbD
  go_wp2_with (first | (refine wpList_store_row rfl 59 (.tmp 8) (.tmp 24) rfl w2.heap.size #[.string ⟨y.path.toArray⟩,.int .i64 y.kind,.string ⟨y.data.toArray⟩] rfl rfl 59 #[.string ⟨#[]⟩,.int .i64 0,.string ⟨#[]⟩] box_new info59r rfl (by simp [Value.oneCell']) ?_; rw [← HVD.out,← HWD.out]) | (refine wpList_store_row rfl 24 (.tmp 6) (.tmp 28) rfl (b3 + 1) #[.slice none 0 0] rfl rfl 24 _ X6.out (info24 _) rfl (slice_one _ _ _) ?_) | fail)
  exact bodyPost_ret (end_tree2 rfl _ (X6.out.row _) rfl rfl) rfl ⟨below_row HB.out H6.out _,.inl ⟨_,HD.out,rfl⟩⟩
 | true =>
  by_cases h47 : frm = [47]
  ·have t1 : (frm == [47]) = true:=by simp [h47]
   have HD : Hid (r = .error 2):=hyq (by rw [HR0.out,if_neg (by simp),if_pos (.inl h47)])
   clear h47 hVD hbD
   go_wp2_with (first | (refine wpList_store_row rfl 59 (.tmp 8) (.tmp 24) rfl w2.heap.size #[.string ⟨y.path.toArray⟩,.int .i64 y.kind,.string ⟨y.data.toArray⟩] rfl rfl 59 #[.string ⟨#[]⟩,.int .i64 0,.string ⟨#[]⟩] box_new info59r rfl (by simp [Value.oneCell']) ?_; rw [← HVD.out,← HWD.out]) | (refine wpList_store_row rfl 24 (.tmp 6) (.tmp 36) rfl (b3 + 1) #[.slice none 0 0] rfl rfl 24 _ X6.out (info24 _) rfl (slice_one _ _ _) ?_) | fail)
   exact bodyPost_ret (end_tree2 rfl _ (X6.out.row _) rfl rfl) rfl ⟨below_row HB.out H6.out _,.inl ⟨_,HD.out,rfl⟩⟩
  ·have t1 : (frm == [47]) = false:=by simp [h47]
   have H47:=hyq h47
   clear h47 hVD hbD
   go_wp2_with (first | (refine wpList_store_row rfl 59 (.tmp 8) (.tmp 24) rfl w2.heap.size #[.string ⟨y.path.toArray⟩,.int .i64 y.kind,.string ⟨y.data.toArray⟩] rfl rfl 59 #[.string ⟨#[]⟩,.int .i64 0,.string ⟨#[]⟩] box_new info59r rfl (by simp [Value.oneCell']) ?_; rw [← HVD.out,← HWD.out]) | fail)
   refine (HUN.out _).mono ?_
   rintro e w3 ⟨rfl,hb⟩
   have HA3:=hyq (bch HA.out hb)
   have hcar : Below VD.heap.size VD w3:=hb
   have X3:=hyq (X3.out.on hcar)
   have X6:=hyq (X6.out.on hcar)
   have HB:=hyq (bch HB.out hcar)
   clear hcar
   clear hb HUN t1 HA
   cases un with
   | true =>
    have HD : Hid (r = .error 2):=hyq (by rw [HR0.out,if_neg (by simp),if_pos (.inr rfl)])
    go_wp2_with (first | (refine wpList_store_row rfl 24 (.tmp 6) (.tmp 36) rfl (b3 + 1) #[.slice none 0 0] rfl rfl 24 _ X6.out (info24 _) rfl (slice_one _ _ _) ?_) | fail)
    exact bodyPost_ret (end_tree2 rfl _ (X6.out.row _) rfl rfl) rfl ⟨below_row HB.out H6.out _,.inl ⟨_,HD.out,rfl⟩⟩
   | false =>
    have HR1:=hyq (HR0.out.trans ((if_neg (by simp)).trans (if_neg (by rintro (e | e); exact H47.out e; cases e))))
    have p0:=X3.out.cell (k:=0) rfl
    go_wp2_with fail
    clear p0
    refine (HOP.out w3 HA3.out).mono ?_
    rintro e w4 ⟨rfl,hb⟩
    have HA4:=hyq (bch HA3.out hb)
    have hcar : Below w3.heap.size w3 w4:=hb
    have X3:=hyq (X3.out.on hcar)
    have X6:=hyq (X6.out.on hcar)
    have HB:=hyq (bch HB.out hcar)
    clear hcar
    clear hb HOP HA3
    by_cases he : er = 0
    ·subst he
     have HR2:=hyq (HR1.out.trans (if_neg (by simp)))
     have p0:=X3.out.cell (k:=0) rfl
     go_wp2_with fail
     clear p0
     refine (HG2.out w4 HA4.out).mono ?_
     rintro e w5 ⟨rfl,hb⟩
     obtain ⟨VE,hVE⟩:=nmq ((w5.alloc (.cells #[.string ⟨#[]⟩,.int .i64 0,.string ⟨#[]⟩] 59)).setRow w5.heap.size #[.string ⟨zt.path.toArray⟩,.int .i64 zt.kind,.string ⟨zt.data.toArray⟩])
     obtain ⟨bE,hbE⟩:=nmq (w5.heap.size)
     have hnE : Below w5.heap.size w5 VE:=by rw [hVE]; exact below_row (below_new _ _) (Nat.le_refl _) _
     have XE : Hid (Box VE bE 59 #[.string ⟨zt.path.toArray⟩,.int .i64 zt.kind,.string ⟨zt.data.toArray⟩]):=hyq (by rw [hVE,hbE]; exact box_new.row _)
     have HVE:=hyq hVE
     have HWE:=hyq hbE
     have hcar : Below w4.heap.size w4 VE:=bch hb hnE
     have X3:=hyq (X3.out.on hcar)
     have X6:=hyq (X6.out.on hcar)
     have HB:=hyq (bch HB.out hcar)
     clear hcar
     have HA5:=hyq (bch HA4.out (bch hb hnE))
     clear hb hnE HG2 HA4
     cases b2 with
     | true =>
      have HD : Hid (r = .error 5):=hyq (by rw [HR2.out]; rfl)
      clear hVE hbE
      go_wp2_with (first | (refine wpList_store_row rfl 59 (.tmp 11) (.tmp 48) rfl w5.heap.size #[.string ⟨zt.path.toArray⟩,.int .i64 zt.kind,.string ⟨zt.data.toArray⟩] rfl rfl 59 #[.string ⟨#[]⟩,.int .i64 0,.string ⟨#[]⟩] box_new info59r rfl (by simp [Value.oneCell']) ?_; rw [← HVE.out,← HWE.out]) | (refine wpList_store_row rfl 24 (.tmp 6) (.tmp 51) rfl (b3 + 1) #[.slice none 0 0] rfl rfl 24 _ X6.out (info24 _) rfl (slice_one _ _ _) ?_) | fail)
      exact bodyPost_ret (end_tree2 rfl _ (X6.out.row _) rfl rfl) rfl ⟨below_row HB.out H6.out _,.inl ⟨_,HD.out,rfl⟩⟩
     | false =>
      have HR3 : Hid (r = l.foldl (mstep frm tgt) (.ok [])):=hyq (HR2.out.trans (if_neg (by simp)))
      have hnt : 0 < (namesL tgt).length:=by rcases HNT.out with h | h; exact h; cases h
      have HNT2:=hyq hnt
      clear hVE hbE hnt
      go_upto_region 13 with (first | (refine wpList_store_row rfl 59 (.tmp 11) (.tmp 48) rfl w5.heap.size #[.string ⟨zt.path.toArray⟩,.int .i64 zt.kind,.string ⟨zt.data.toArray⟩] rfl rfl 59 #[.string ⟨#[]⟩,.int .i64 0,.string ⟨#[]⟩] box_new info59r rfl (by simp [Value.oneCell']) ?_; rw [← HVE.out,← HWE.out]) | fail)
      obtain ⟨w7,hw7⟩:=nmq (VE.alloc (.cells #[.slice none 0 0] 24))
      obtain ⟨b13,hb13⟩:=nmq (VE.heap.size)
      have X13 : Hid (Box w7 b13 24 #[.slice none 0 0]):=hyq (by rw [hw7,hb13]; exact box_new)
      have HB7 : Hid (Below VE.heap.size VE w7):=hyq (by rw [hw7]; exact below_new _ _)
      have H13 : Hid (VE.heap.size ≤ b13):=hyq (by omega)
      have OS0 : Hid (OwnI w7 VE.heap.size (.slice none 0 0) []):=hyq (World.ownsRow_nil _ _ _ _)
      have p0:=(X3.out.on HB7.out).cell (k:=0) rfl
      rw [← hw7,← hb13]
      clear hw7 hb13
      go_wp2_with fail
      clear p0
      go_loopw [55] (fun i W => ∃ (k : Nat) (o : List It) (a3 : Option Addr) (m c3 : Nat),k ≤ n ∧ i = .int .i64 k ∧ Hid (m = o.length) ∧ Hid (o.length ≤ k) ∧ Hid (Box W b13 24 #[.slice a3 m c3]) ∧ Hid (OwnI W VE.heap.size (.slice a3 m c3) o) ∧ Hid ((l.take k).foldl (mstep frm tgt) (.ok []) = .ok o) ∧ Hid (∀ y ∈ o,y.path.length ≤ 2000000) ∧ Hid (Below VE.heap.size VE W)) (fun i _ => n - (Lib.intOf i).toNat)
      case atStart => exact ⟨0,[],none,0,0,Nat.zero_le _,rfl,hyq rfl,hyq (Nat.zero_le _),X13,OS0,hyq rfl,hyq (fun y hy => by cases hy),HB7⟩
      case round =>
       clear OS0 X13 HB7
       obtain ⟨k,o,a3,m,c3,hk,rfl,HM,HOL,X13,HO,HF,HSO,HBk⟩:=hrel
       obtain ⟨wq,hwq⟩:=nmq (wr)
       rw [← hwq] at HBk HO X13 ⊢
       clear hwq
       by_cases hlt : k < n
       ·obtain ⟨x,hx⟩ : ∃ x,l[k]? = some x:=⟨_,List.getElem?_eq_getElem (by rw [← HN.out]; exact hlt)⟩
        have HAq:=hyq (bch HA5.out HBk.out)
        obtain ⟨a',c',e,_,_,hc⟩:=(HV.out.on HAq.out).open
        rw [← HN.out] at e
        cases e
        obtain ⟨g,q,rfl,hg,hc⟩:=hc (by rw [← HN.out]; omega)
        obtain ⟨q0,q1,q2⟩:=hc k x hx
        have k1 : (k : Int) < (n : Int):=by omega
        have k2 : (0 : Int) ≤ (k : Int):=by omega
        have k4 : IntKind.i64.wrap ((k : Int) + 1) = (k : Int) + 1:=IntWalk.i64_in _ (by omega)
        obtain ⟨w8,hw8⟩:=nmq (wq.alloc (.cells #[.string ⟨x.path.toArray⟩,.int .i64 x.kind,.string ⟨x.data.toArray⟩] 59))
        have hb8 : Below wq.heap.size wq w8:=by rw [hw8]; exact below_new _ _
        have HX8 : Hid (Box w8 wq.heap.size 59 x.arr):=hyq (by rw [hw8]; exact box_new)
        have HB8 : Hid (Below VE.heap.size VE w8):=hyq (HBk.out.trans (hb8.mono HBk.out.size))
        have HMEM:=hyq (List.mem_of_getElem? hx)
        have HST : Hid ((l.take (k + 1)).foldl (mstep frm tgt) (.ok []) = mstep frm tgt (.ok o) x):=hyq (mstep_one hx HF.out)
        have HCB:=hyq (HBN.out x w8 HMEM.out)
        have h7 : Hid (VE.heap.size ≤ wq.heap.size):=hyq HBk.out.size
        have HNE15 : Hid ((Value.slice a3 m c3).ownBlock ≠ some wq.heap.size):=hyq (own_apart HO.out)
        have HOK : Hid (OwnI w8 VE.heap.size (.slice a3 m c3) o):=hyq (HO.out.on hb8)
        have X138:=hyq (X13.out.on hb8)
        obtain ⟨u,hu⟩:=nmq (underB x.path frm)
        rw [← hu] at HCB
        have HU:=hyq hu
        clear hc hx hb8 hg hu HAq
        go_upto_region 16 with fail
        obtain ⟨b15,hb15⟩:=nmq (wq.heap.size)
        rw [← hb15] at HX8 h7 HNE15 ⊢
        rw [← hw8]
        clear hw8 hb15 q0 q1 q2 HBk HO X13
        have d0:=HX8.out.it.c0
        go_wp2_with fail
        refine HCB.out.mono ?_
        rintro e w9 ⟨v4,rfl,hrd,hform,hb⟩
        have hb0:=hb
        have HX9:=hyq (HX8.out.on hb)
        have HO9:=hyq (HOK.out.on hb)
        have X139:=hyq (X138.out.on hb)
        have HB9 : Hid (Below VE.heap.size VE w9):=hyq (HB8.out.trans (hb.mono HB8.out.size))
        have HRD:=hyq hrd
        clear hb hb0 hrd HCB d0 HX8 HOK X138 HB8
        cases u with
        | false =>
         have HST2 : Hid ((l.take (k + 1)).foldl (mstep frm tgt) (.ok []) = .ok (withR o x)):=hyq (by rw [HST.out]; unfold mstep; simp only; rw [if_neg (by rw [← HU.out]; simp)])
         obtain ⟨d0,d1,d2⟩:=HX9.out.it
         have p0:=X139.out.cell (k:=0) rfl
         have HRDO : Hid (RdI w9 (.slice a3 m c3) o):=hyq HO9.out.rd
         have hol : o.length ≤ 4000:=by have:=HOL.out; omega
         have HWI : Hid (Calls Tryz.prog 77 #[.agg #[.slice a3 m c3],.agg #[.string ⟨x.path.toArray⟩,.int .i64 x.kind,.string ⟨x.data.toArray⟩]] w9 fun e w' => ∃ v',e = .returned (.agg #[v']) ∧ OwnI w' w9.heap.size v' (withR o x) ∧ Below w9.heap.size w9 w'):=hyq (rwith_any o (.slice a3 m c3) x w9 HRDO.out hol HSO.out (valid_small (HVAL.out x HMEM.out)))
         clear hol
         go_wp2_with fail
         refine HWI.out.mono ?_
         rintro e wz ⟨vz,rfl,hoz,hbz⟩
         obtain ⟨az,cz,rfl,_,_⟩:=own_slice hoz
         obtain ⟨mz,hmz⟩:=nmq ((withR o x).length)
         rw [← hmz] at hoz ⊢
         have HMZ:=hyq hmz
         have HOZ:=hyq hoz
         have XZ:=hyq (X139.out.on hbz)
         have HBZ : Hid (Below VE.heap.size VE wz):=hyq (HB9.out.trans (hbz.mono HB9.out.size))
         have HLZ : Hid ((withR o x).length ≤ k + 1):=hyq (by have h1:=with_len o x; have h2:=HOL.out; omega)
         have HSZ : Hid (∀ y ∈ withR o x,y.path.length ≤ 2000000):=hyq (fun y hy => by rcases with_mem hy with h | h; exact HSO.out y h; rw [h]; exact valid_small (HVAL.out x HMEM.out))
         have HVZ : Hid (VE.heap.size ≤ w9.heap.size):=hyq HB9.out.size
         clear hoz hbz hmz HWI d0 d1 d2 p0
         go_wp2_with (first | (refine wpList_store_row rfl 24 (.tmp 13) (.tmp 86) rfl b13 #[.slice az mz cz] rfl rfl 24 _ XZ.out (info24 _) rfl (slice_one _ _ _) ?_) | fail)
         go_roundw
         case rel => exact ⟨k + 1,_,az,mz,cz,hlt,by go_num,HMZ,HLZ,hyq (XZ.out.row _),hyq (own_base (own_row HOZ.out XZ.out) HVZ.out),HST2,HSZ,hyq (below_row HBZ.out H13.out _)⟩
         case measure => simp [Lib.intOf]; omega
        | true =>
         have HRS:=hyq (HRD.out rfl)
         obtain ⟨L4,hL4⟩:=nmq ((namesL x.path).drop (namesL frm).length)
         rw [← hL4] at HRS
         have HL4:=hyq hL4
         have HLS : Hid (L4.length ≤ 40):=hyq (by rw [hL4,List.length_drop]; have:=(valid_names x.path (HVAL.out x HMEM.out)).1; omega)
         have HNS : Hid ((namesL tgt).length ≤ 40):=hyq (valid_names tgt HVT.out).1
         clear hL4 HRD
         obtain ⟨a4,n4,c4,hv4⟩ : ∃ a n c,v4 = .slice a n c:=by rcases hform with rfl | ⟨g,o,n,c,rfl⟩; exact ⟨_,_,_,rfl⟩; exact ⟨_,_,_,rfl⟩
         have HFO:=hyq hform
         clear hform
         subst hv4
         go_wp2_with fail
         refine (HNM.out w9).mono ?_
         rintro e wn ⟨v5,rfl,hr5,hb⟩
         obtain ⟨a5,c5,rfl,_,hcm5,_⟩:=id hr5
         obtain ⟨n5,hn5⟩:=nmq ((namesL tgt).length)
         rw [← hn5] at hr5 ⊢
         have HN5:=hyq hn5
         have hn5b : n5 ≤ 40:=by rw [hn5]; exact HNS.out
         have hn50 : 0 < n5:=by rw [hn5]; exact HNT2.out
         obtain ⟨g5,o5,ha5,_,hc5⟩:=rds_cells hr5 HNT2.out
         subst ha5
         have HRS2:=hyq (HRS.out.below hb)
         have HXN:=hyq (HX9.out.on hb)
         have HON:=hyq (HO9.out.on hb)
         have X13N:=hyq (X139.out.on hb)
         have HBN9 : Hid (Below VE.heap.size VE wn):=hyq (HB9.out.trans (hb.mono HB9.out.size))
         have HC5 : Hid (∀ (j : Nat) (u : Value),((namesL tgt).map encS)[j]? = some u → (wn.alloc (.cells #[] 9)).cell? ((⟨g5,o5,none⟩ : Addr).add j) = some u):=hyq (fun j u hu => Lib.cell?_alloc_some _ (hc5 j u hu))
         have HLT : Hid (((namesL tgt).map encS).length = n5 * 1):=hyq (by rw [List.length_map,hn5,Nat.mul_one])
         have hxlt : Hid (b15 < wn.heap.size):=hyq HXN.out.lt
         have h13lt : Hid (b13 < wn.heap.size):=hyq X13N.out.lt
         have holt : Hid (∀ q,(Value.slice a3 m c3).ownBlock = some q → q < wn.heap.size):=hyq (own_lt9 HON.out)
         have hvn : Hid (VE.heap.size ≤ wn.heap.size):=hyq HBN9.out.size
         clear hb hr5 hc5 hn5 HX9 HO9 X139 HB9 HRS
         go_wp2_with (at_builtin; refine wpList_append_own _ rfl _ _ 69 rfl wn.heap.size 9 i0 (.string ⟨#[]⟩) 1 16 Tryz.underlying69 hi hz0 hz1 hz2 rfl (by decide) _ _ _ rfl (made_own wn) ⟨g5,o5,none⟩ n5 c5 ((namesL tgt).map encS) rfl HLT.out HC5.out (encs_one _) (by unfold maxLen; omega) (by omega) (by simp) ?_)
         intro vA wA hownA hgrowA _
         have hbA : Below wn.heap.size wn wA:=((Below.refl _ wn).alloc (Nat.le_refl _) _).grown hgrowA (by simp) (by intro k hk; simp [Value.ownBlock] at hk; omega)
         obtain ⟨aA,nA,cA,hvA⟩ : ∃ a n c,vA = .slice a n c:=by obtain ⟨a,c,h⟩:=ownR_any hownA; exact ⟨_,_,_,h⟩
         subst hvA
         have HOA:=hyq hownA
         have HXA:=hyq (HXN.out.on hbA)
         have HONA:=hyq (HON.out.on hbA)
         have X13A:=hyq (X13N.out.on hbA)
         have HBA : Hid (Below VE.heap.size VE wA):=hyq (HBN9.out.trans (hbA.mono HBN9.out.size))
         have HRSA:=hyq (HRS2.out.below hbA)
         have hAs : Hid (wn.heap.size ≤ wA.heap.size):=hyq hbA.size
         clear hownA hgrowA hbA HXN HON X13N HBN9 HRS2 HC5 HLT
         rcases HFO.out with hz4 | ⟨g4,o4,n4',c4',hz4⟩
         ·cases hz4
          have HL0 : Hid (L4 = []):=hyq (by obtain ⟨a,c,e,_⟩:=HRSA.out; injection e with _ e _; exact List.length_eq_zero_iff.1 e.symm)
          have HRN : Hid (RdS wA (.slice aA nA cA) (newN frm tgt x.path)):=hyq (by
           have e : newN frm tgt x.path = namesL tgt:=by unfold newN; rw [← HL4.out,HL0.out,List.append_nil]
           rw [e]
           refine RdS.of_own (B:=wn.heap.size) ?_
           rw [← HN5.out]
           exact HOA.out)
          go_wp2_with (at_builtin; refine wpList_append_own_none rfl _ _ 69 rfl wn.heap.size 9 i0 1 Tryz.underlying69 hi _ _ _ rfl HOA.out rfl ?_)
          have HXJ:=HXA
          have HOJ:=HONA
          have X13J:=X13A
          have HBJ:=HBA
          have HJ:=hyq (rjoin_any (.slice aA nA cA) (newN frm tgt x.path) wA HRN.out (by have:=new_many (frm:=frm) (HVAL.out x HMEM.out) HVT.out; omega) (by have h1:=new_many (frm:=frm) (HVAL.out x HMEM.out) HVT.out; have h2:=flat_le9 (newN frm tgt x.path) (fun y hy => name_size (new_names (HVAL.out x HMEM.out) HVT.out y hy)); omega))
          go_wp2_with fail
          refine HJ.out.mono ?_
          rintro e wj ⟨rfl,rfl⟩
          have e0:=HXJ.out.it.c0
          have f0:=frozen_of_row wA b15 0 _ _ HXJ.out
          obtain ⟨x',hx'⟩ : ∃ z,z = newI frm tgt x:=⟨_,rfl⟩
          obtain ⟨np,hnp⟩:=nmq (joinL (newN frm tgt x.path))
          obtain ⟨wt,hwt⟩:=nmq (wA.setCell ⟨b15,0,none⟩ (.string ⟨np.toArray⟩))
          have HXT : Hid (Box wt b15 59 x'.arr):=hyq (by rw [hwt,hx',hnp]; exact HXJ.out.set (k:=0) _)
          have HOT : Hid (OwnI wt VE.heap.size (.slice a3 m c3) o):=hyq (by rw [hwt]; exact own_cellset HOJ.out HNE15.out)
          have X13T : Hid (Box wt b13 24 #[.slice a3 m c3]):=hyq (by rw [hwt]; exact X13J.out.far (p:=⟨b15,0,none⟩) (box_ne24 X13J.out HXJ.out) _)
          have HBT : Hid (Below VE.heap.size VE wt):=hyq (by rw [hwt]; exact HBJ.out.setCell (p:=⟨b15,0,none⟩) h7.out _)
          have HXS : Hid (x'.path.length ≤ 2000000):=hyq (by rw [hx']; show (joinL (newN frm tgt x.path)).length ≤ _; have h1:=new_many (frm:=frm) (HVAL.out x HMEM.out) HVT.out; have h2:=join_le (newN frm tgt x.path) (fun y hy => name_size (new_names (HVAL.out x HMEM.out) HVT.out y hy)); omega)
          obtain ⟨vx,hvx⟩:=nmq (validB x'.path)
          have HRT : Hid (Calls Tryz.prog 53 #[.string ⟨x'.path.toArray⟩] wt fun e w' => e = .returned (.bool vx) ∧ Below wt.heap.size wt w'):=hyq (by rw [hvx]; exact rright_any ⟨x'.path.toArray⟩ HXS.out wt)
          have HVX:=hyq hvx
          have HXE:=hyq hx'
          rw [← hnp]
          clear hvx hx' hnp
          go_upto_region 20 with fail
          rw [← hwt]
          clear hwt e0 f0
          have d0:=HXT.out.it.c0
          go_wp2_with fail
          refine HRT.out.mono ?_
          rintro e wu ⟨rfl,hb⟩
          have HXU:=hyq (HXT.out.on hb)
          have HOU:=hyq (HOT.out.on hb)
          have X13U:=hyq (X13T.out.on hb)
          have HBU : Hid (Below VE.heap.size VE wu):=hyq (HBT.out.trans (hb.mono HBT.out.size))
          clear hb HXT HOT X13T HBT HRT d0
          cases vx with
          | false =>
           have HD : Hid (r = .error 110):=hyq (by
            rw [HR3.out]
            refine mstep_dead (k:=k + 1) ?_
            rw [HST.out]; unfold mstep; simp only
            rw [if_pos HU.out.symm,if_neg (by rw [← HXE.out,← HVX.out]; simp)])
           have X6U:=hyq (X6.out.on HBU.out)
           have HBW:=hyq (bch HB.out HBU.out)
           go_wp2_with (first | (refine wpList_store_row rfl 24 (.tmp 6) (.tmp 83) rfl (b3 + 1) #[.slice none 0 0] rfl rfl 24 _ X6U.out (info24 _) rfl (slice_one _ _ _) ?_) | fail)
           exact bodyPost_ret (end_tree2 rfl _ (X6U.out.row _) rfl rfl) rfl ⟨below_row HBW.out H6.out _,.inl ⟨_,HD.out,rfl⟩⟩
          | true =>
           have HST2 : Hid ((l.take (k + 1)).foldl (mstep frm tgt) (.ok []) = .ok (withR o x')):=hyq (by
            rw [HST.out]; unfold mstep; simp only
            rw [if_pos HU.out.symm,if_pos (by rw [← HXE.out,← HVX.out]),← HXE.out])
           obtain ⟨d0,d1,d2⟩:=HXU.out.it
           have p0:=X13U.out.cell (k:=0) rfl
           have HRDO : Hid (RdI wu (.slice a3 m c3) o):=hyq HOU.out.rd
           have hol : o.length ≤ 4000:=by have:=HOL.out; omega
           have HWI : Hid (Calls Tryz.prog 77 #[.agg #[.slice a3 m c3],.agg #[.string ⟨x'.path.toArray⟩,.int .i64 x'.kind,.string ⟨x'.data.toArray⟩]] wu fun e w' => ∃ v',e = .returned (.agg #[v']) ∧ OwnI w' wu.heap.size v' (withR o x') ∧ Below wu.heap.size wu w'):=hyq (rwith_any o (.slice a3 m c3) x' wu HRDO.out hol HSO.out (HXS.out))
           clear hol
           go_wp2_with fail
           refine HWI.out.mono ?_
           rintro e wz ⟨vz,rfl,hoz,hbz⟩
           obtain ⟨az,cz,rfl,_,_⟩:=own_slice hoz
           obtain ⟨mz,hmz⟩:=nmq ((withR o x').length)
           rw [← hmz] at hoz ⊢
           have HMZ:=hyq hmz
           have HOZ:=hyq hoz
           have XZ:=hyq (X13U.out.on hbz)
           have HBZ : Hid (Below VE.heap.size VE wz):=hyq (HBU.out.trans (hbz.mono HBU.out.size))
           have HLZ : Hid ((withR o x').length ≤ k + 1):=hyq (by have h1:=with_len o x'; have h2:=HOL.out; omega)
           have HSZ : Hid (∀ y ∈ withR o x',y.path.length ≤ 2000000):=hyq (fun y hy => by rcases with_mem hy with h | h; exact HSO.out y h; rw [h]; exact HXS.out)
           have HVZ : Hid (VE.heap.size ≤ wu.heap.size):=hyq HBU.out.size
           clear hoz hbz hmz HWI d0 d1 d2 p0
           go_wp2_with (first | (refine wpList_store_row rfl 24 (.tmp 13) (.tmp 86) rfl b13 #[.slice az mz cz] rfl rfl 24 _ XZ.out (info24 _) rfl (slice_one _ _ _) ?_) | fail)
           go_roundw
           case rel => exact ⟨k + 1,_,az,mz,cz,hlt,by go_num,HMZ,HLZ,hyq (XZ.out.row _),hyq (own_base (own_row HOZ.out XZ.out) HVZ.out),HST2,HSZ,hyq (below_row HBZ.out H13.out _)⟩
           case measure => simp [Lib.intOf]; omega
         ·cases hz4
          have HRN4:=hyq (rds_any HRSA.out)
          have hl4 : L4.length = n4:=by obtain ⟨a,c,e,_⟩:=HRSA.out; injection e with _ e _; exact e.symm
          have hn4b : n4 ≤ 40:=by rw [← hl4]; exact HLS.out
          have HLT : Hid ((L4.map encS).length = n4 * 1):=hyq (by rw [List.length_map,hl4,Nat.mul_one])
          have HL4N:=hyq hl4
          clear hl4
          go_wp2_with (at_builtin; refine wpList_append_own _ rfl _ _ 69 rfl wn.heap.size 9 i0 (.string ⟨#[]⟩) 1 16 Tryz.underlying69 hi hz0 hz1 hz2 rfl (by decide) _ _ _ rfl HOA.out ⟨g4,o4,none⟩ n4 c4 (L4.map encS) rfl HLT.out HRN4.out (encs_one _) (by unfold maxLen; omega) (by omega) hAs.out ?_)
          intro vB wB hownB hgrowB _
          have hbB : Below wn.heap.size wA wB:=(Below.refl _ wA).grown hgrowB hAs.out (own_low HOA.out)
          obtain ⟨aB,nB,cB,hvB⟩ : ∃ a n c,vB = .slice a n c:=by obtain ⟨a,c,h⟩:=ownR_any hownB; exact ⟨_,_,_,h⟩
          subst hvB
          have HRN : Hid (RdS wB (.slice aB nB cB) (newN frm tgt x.path)):=hyq (by
           have e : newN frm tgt x.path = namesL tgt ++ L4:=by unfold newN; rw [← HL4.out]
           rw [e]
           refine RdS.of_own (B:=wn.heap.size) ?_
           rw [List.map_append,List.length_append,HL4N.out,← HN5.out]
           simpa using hownB)
          have HXJ : Hid (Box wB b15 59 x.arr):=hyq (HXA.out.below hbB hxlt.out)
          have HOJ : Hid (OwnI wB VE.heap.size (.slice a3 m c3) o):=hyq (own_under HONA.out hbB holt.out)
          have X13J : Hid (Box wB b13 24 #[.slice a3 m c3]):=hyq (X13A.out.below hbB h13lt.out)
          have HBJ : Hid (Below VE.heap.size VE wB):=hyq (HBA.out.trans (hbB.mono hvn.out))
          clear hownB hgrowB hbB
          have HJ:=hyq (rjoin_any (.slice aB nB cB) (newN frm tgt x.path) wB HRN.out (by have:=new_many (frm:=frm) (HVAL.out x HMEM.out) HVT.out; omega) (by have h1:=new_many (frm:=frm) (HVAL.out x HMEM.out) HVT.out; have h2:=flat_le9 (newN frm tgt x.path) (fun y hy => name_size (new_names (HVAL.out x HMEM.out) HVT.out y hy)); omega))
          go_wp2_with fail
          refine HJ.out.mono ?_
          rintro e wj ⟨rfl,rfl⟩
          have e0:=HXJ.out.it.c0
          have f0:=frozen_of_row wB b15 0 _ _ HXJ.out
          obtain ⟨x',hx'⟩ : ∃ z,z = newI frm tgt x:=⟨_,rfl⟩
          obtain ⟨np,hnp⟩:=nmq (joinL (newN frm tgt x.path))
          obtain ⟨wt,hwt⟩:=nmq (wB.setCell ⟨b15,0,none⟩ (.string ⟨np.toArray⟩))
          have HXT : Hid (Box wt b15 59 x'.arr):=hyq (by rw [hwt,hx',hnp]; exact HXJ.out.set (k:=0) _)
          have HOT : Hid (OwnI wt VE.heap.size (.slice a3 m c3) o):=hyq (by rw [hwt]; exact own_cellset HOJ.out HNE15.out)
          have X13T : Hid (Box wt b13 24 #[.slice a3 m c3]):=hyq (by rw [hwt]; exact X13J.out.far (p:=⟨b15,0,none⟩) (box_ne24 X13J.out HXJ.out) _)
          have HBT : Hid (Below VE.heap.size VE wt):=hyq (by rw [hwt]; exact HBJ.out.setCell (p:=⟨b15,0,none⟩) h7.out _)
          have HXS : Hid (x'.path.length ≤ 2000000):=hyq (by rw [hx']; show (joinL (newN frm tgt x.path)).length ≤ _; have h1:=new_many (frm:=frm) (HVAL.out x HMEM.out) HVT.out; have h2:=join_le (newN frm tgt x.path) (fun y hy => name_size (new_names (HVAL.out x HMEM.out) HVT.out y hy)); omega)
          obtain ⟨vx,hvx⟩:=nmq (validB x'.path)
          have HRT : Hid (Calls Tryz.prog 53 #[.string ⟨x'.path.toArray⟩] wt fun e w' => e = .returned (.bool vx) ∧ Below wt.heap.size wt w'):=hyq (by rw [hvx]; exact rright_any ⟨x'.path.toArray⟩ HXS.out wt)
          have HVX:=hyq hvx
          have HXE:=hyq hx'
          rw [← hnp]
          clear hvx hx' hnp
          go_upto_region 20 with fail
          rw [← hwt]
          clear hwt e0 f0
          have d0:=HXT.out.it.c0
          go_wp2_with fail
          refine HRT.out.mono ?_
          rintro e wu ⟨rfl,hb⟩
          have HXU:=hyq (HXT.out.on hb)
          have HOU:=hyq (HOT.out.on hb)
          have X13U:=hyq (X13T.out.on hb)
          have HBU : Hid (Below VE.heap.size VE wu):=hyq (HBT.out.trans (hb.mono HBT.out.size))
          clear hb HXT HOT X13T HBT HRT d0
          cases vx with
          | false =>
           have HD : Hid (r = .error 110):=hyq (by
            rw [HR3.out]
            refine mstep_dead (k:=k + 1) ?_
            rw [HST.out]; unfold mstep; simp only
            rw [if_pos HU.out.symm,if_neg (by rw [← HXE.out,← HVX.out]; simp)])
           have X6U:=hyq (X6.out.on HBU.out)
           have HBW:=hyq (bch HB.out HBU.out)
           go_wp2_with (first | (refine wpList_store_row rfl 24 (.tmp 6) (.tmp 83) rfl (b3 + 1) #[.slice none 0 0] rfl rfl 24 _ X6U.out (info24 _) rfl (slice_one _ _ _) ?_) | fail)
           exact bodyPost_ret (end_tree2 rfl _ (X6U.out.row _) rfl rfl) rfl ⟨below_row HBW.out H6.out _,.inl ⟨_,HD.out,rfl⟩⟩
          | true =>
           have HST2 : Hid ((l.take (k + 1)).foldl (mstep frm tgt) (.ok []) = .ok (withR o x')):=hyq (by
            rw [HST.out]; unfold mstep; simp only
            rw [if_pos HU.out.symm,if_pos (by rw [← HXE.out,← HVX.out]),← HXE.out])
           obtain ⟨d0,d1,d2⟩:=HXU.out.it
           have p0:=X13U.out.cell (k:=0) rfl
           have HRDO : Hid (RdI wu (.slice a3 m c3) o):=hyq HOU.out.rd
           have hol : o.length ≤ 4000:=by have:=HOL.out; omega
           have HWI : Hid (Calls Tryz.prog 77 #[.agg #[.slice a3 m c3],.agg #[.string ⟨x'.path.toArray⟩,.int .i64 x'.kind,.string ⟨x'.data.toArray⟩]] wu fun e w' => ∃ v',e = .returned (.agg #[v']) ∧ OwnI w' wu.heap.size v' (withR o x') ∧ Below wu.heap.size wu w'):=hyq (rwith_any o (.slice a3 m c3) x' wu HRDO.out hol HSO.out (HXS.out))
           clear hol
           go_wp2_with fail
           refine HWI.out.mono ?_
           rintro e wz ⟨vz,rfl,hoz,hbz⟩
           obtain ⟨az,cz,rfl,_,_⟩:=own_slice hoz
           obtain ⟨mz,hmz⟩:=nmq ((withR o x').length)
           rw [← hmz] at hoz ⊢
           have HMZ:=hyq hmz
           have HOZ:=hyq hoz
           have XZ:=hyq (X13U.out.on hbz)
           have HBZ : Hid (Below VE.heap.size VE wz):=hyq (HBU.out.trans (hbz.mono HBU.out.size))
           have HLZ : Hid ((withR o x').length ≤ k + 1):=hyq (by have h1:=with_len o x'; have h2:=HOL.out; omega)
           have HSZ : Hid (∀ y ∈ withR o x',y.path.length ≤ 2000000):=hyq (fun y hy => by rcases with_mem hy with h | h; exact HSO.out y h; rw [h]; exact HXS.out)
           have HVZ : Hid (VE.heap.size ≤ wu.heap.size):=hyq HBU.out.size
           clear hoz hbz hmz HWI d0 d1 d2 p0
           go_wp2_with (first | (refine wpList_store_row rfl 24 (.tmp 13) (.tmp 86) rfl b13 #[.slice az mz cz] rfl rfl 24 _ XZ.out (info24 _) rfl (slice_one _ _ _) ?_) | fail)
           go_roundw
           case rel => exact ⟨k + 1,_,az,mz,cz,hlt,by go_num,HMZ,HLZ,hyq (XZ.out.row _),hyq (own_base (own_row HOZ.out XZ.out) HVZ.out),HST2,HSZ,hyq (below_row HBZ.out H13.out _)⟩
           case measure => simp [Lib.intOf]; omega
       ·have k1 : ¬ ((k : Int) < (n : Int)):=by omega
        have HD : Hid (r = .ok o):=hyq (by rw [HR3.out,← HF.out,List.take_of_length_le (by have:=HN.out; omega)])
        have p0:=X13.out.cell (k:=0) rfl
        have X6K:=hyq (X6.out.on HBk.out)
        have HBW:=hyq (bch HB.out HBk.out)
        have HOB : Hid (w.heap.size ≤ VE.heap.size):=hyq HB.out.size
        go_wp2_with (first | (refine wpList_store_row rfl 24 (.tmp 6) (.tmp 88) rfl (b3 + 1) #[.slice a3 m c3] rfl rfl 24 _ X6K.out (info24 _) rfl (slice_one _ _ _) ?_) | fail)
        exact bodyPost_ret (end_tree2 rfl _ (X6K.out.row _) rfl rfl) rfl ⟨below_row HBW.out H6.out _,.inr ⟨o,_,HD.out,rfl,own_base (own_row HO.out X6K.out) HOB.out⟩⟩
    ·have t1 : (er == 0) = false:=by simpa using he
     have t2 : (er != 0) = true:=by simpa using he
     have HD : Hid (r = .error er):=hyq (by rw [HR1.out,if_pos he])
     clear he
     go_wp2_with (first | (refine wpList_store_row rfl 24 (.tmp 6) (.tmp 42) rfl (b3 + 1) #[.slice none 0 0] rfl rfl 24 _ X6.out (info24 _) rfl (slice_one _ _ _) ?_) | fail)
     exact bodyPost_ret (end_tree2 rfl _ (X6.out.row _) rfl rfl) rfl ⟨below_row HB.out H6.out _,.inl ⟨_,HD.out,rfl⟩⟩
end Go.Proofs.YtigopecainocgaaGreatDoor
