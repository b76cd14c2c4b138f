/- Proved here: Plain words on texts: names, parts, paths. Nothing of the program stands here. | Plain words on paths. | Plain words on paths: names and paths lead back to one another; what is under what; the order; what a text means at a path. | Plain words on paths: what the stage's theorem comes to. | Plain word -/
import Derived.Below
import Derived.Lib.Join
import Derived.Lib.Bytealg
import Derived.Lib.Hide
namespace Go.Proofs.YtigopecainocgaaGreatDoor
theorem hyq {p : Prop} (h : p) : Go.RowKit.Hid p := Go.Lib.hid h
theorem nmq {α : Sort _} (a : α) : ∃ x, x = a := ⟨a, rfl⟩
end Go.Proofs.YtigopecainocgaaGreatDoor
set_option maxRecDepth 100000
set_option maxHeartbeats 32000000
namespace Go.Proofs.YtigopecainocgaaGreatDoor
abbrev Str:=List UInt8
def letB (r : Int) : Bool:=decide (97 ≤ r ∧ r ≤ 122 ∨ 48 ≤ r ∧ r ≤ 57 ∨ r = 46 ∨ r = 95 ∨ r = 43 ∨ r = 45)
def okB (c : UInt8) : Bool:=letB (c.toNat : Int)
def nameB (s : Str) : Bool:=decide (s ≠ [] ∧ s ≠ [46] ∧ s ≠ [46,46] ∧ s.length ≤ 32) && s.all okB
theorem letB_high (r : Int) (h : 128 ≤ r) : letB r = false:=by
 unfold letB; exact decide_eq_false (by omega)
theorem all_yes (s : ByteArray) (p : UInt8 → Bool) (h : ∀ j (hj : j < s.size),p s[j] = true) : s.data.toList.all p = true:=by
 rw [List.all_eq_true]
 intro x hx
 obtain ⟨j,hj,rfl⟩:=List.mem_iff_getElem.1 hx
 exact h j (by simpa using hj)
theorem all_no (s : ByteArray) (p : UInt8 → Bool) (j : Nat) (hj : j < s.size) (h : p s[j] = false) : s.data.toList.all p = false:=by
 rw [List.all_eq_false]
 exact ⟨s[j],by rw [List.mem_iff_getElem]; exact ⟨j,by simpa using hj,rfl⟩,by simp [h]⟩
theorem nameB_no (s : Str) (h : s = [] ∨ s = [46] ∨ s = [46,46] ∨ 32 < s.length) : nameB s = false:=by
 unfold nameB
 rw [decide_eq_false,Bool.false_and]
 rcases h with h | h | h | h
 ·simp [h]
 ·simp [h]
 ·simp [h]
 ·intro ⟨_,_,_,h4⟩; omega
theorem nameB_mid (s : Str) (h1 : s ≠ []) (h2 : s ≠ [46]) (h3 : s ≠ [46,46]) (h4 : s.length ≤ 32) : nameB s = s.all okB:=by
 unfold nameB
 rw [decide_eq_true ⟨h1,h2,h3,h4⟩,Bool.true_and]
/-! ### Cutting at a slash -/
def cut1 (l : Str) : Str × Str × Bool :=
 if 47 ∈ l then (l.takeWhile (· != 47),(l.dropWhile (· != 47)).drop 1,true) else (l,[],false)
def consHead (c : UInt8) : List Str → List Str
 | [] => [[c]]
 | h :: t => (c :: h) :: t
def cutP : Str → List Str
 | [] => [[]]
 | c :: s => if c = 47 then [] :: cutP s else consHead c (cutP s)
theorem cutP_cons (c : UInt8) (s : Str) : cutP (c :: s) = if c = 47 then [] :: cutP s else consHead c (cutP s):=rfl
theorem cutP_ne (l : Str) : cutP l ≠ []:=by
 cases l with
 | nil => simp [cutP]
 | cons c s =>
  rw [cutP_cons]
  by_cases h : c = 47
  ·simp [h]
  ·rw [if_neg h]
   cases cutP s <;> simp [consHead]
theorem cutP_last (l : Str) (h : 47 ∉ l) : cutP l = [l]:=by
 induction l with
 | nil => rfl
 | cons c s ih =>
  simp only [List.mem_cons,not_or] at h
  rw [cutP_cons]
  rw [if_neg (fun e => h.1 e.symm),ih h.2]
  rfl
theorem cutP_step (l : Str) (h : 47 ∈ l) : cutP l = l.takeWhile (· != 47) :: cutP ((l.dropWhile (· != 47)).drop 1):=by
 induction l with
 | nil => simp at h
 | cons c s ih =>
  rw [cutP_cons,List.takeWhile_cons,List.dropWhile_cons]
  by_cases hc : c = 47
  ·simp [hc]
  ·have h' : 47 ∈ s:=by
    rcases List.mem_cons.1 h with h | h
    ·exact absurd h.symm hc
    ·exact h
   rw [if_neg hc,ih h']
   simp [hc,consHead]
theorem cut1_yes (l : Str) (h : 47 ∈ l) : cut1 l = (l.takeWhile (· != 47),(l.dropWhile (· != 47)).drop 1,true):=by unfold cut1; rw [if_pos h]
theorem cut1_no (l : Str) (h : 47 ∉ l) : cut1 l = (l,[],false):=by unfold cut1; rw [if_neg h]
theorem cutP_cut1 (l : Str) : cutP l = (cut1 l).1 :: (if (cut1 l).2.2 = true then cutP (cut1 l).2.1 else []):=by
 by_cases h : 47 ∈ l
 ·rw [cut1_yes l h,cutP_step l h]; simp
 ·rw [cut1_no l h,cutP_last l h]; simp
theorem cut1_len (l : Str) (h : (cut1 l).2.2 = true) : (cut1 l).2.1.length < l.length:=by
 by_cases hm : 47 ∈ l
 ·rw [cut1_yes l hm]
  have h0 : 0 < l.length:=List.length_pos_of_mem hm
  have:=(List.dropWhile_sublist (l:=l) (p:=(· != 47))).length_le
  simp only [List.length_drop]
  omega
 ·rw [cut1_no l hm] at h; simp at h
theorem cut1_le (l : Str) : (cut1 l).1.length ≤ l.length ∧ (cut1 l).2.1.length ≤ l.length:=by
 by_cases hm : 47 ∈ l
 ·rw [cut1_yes l hm]
  have h1:=(List.dropWhile_sublist (l:=l) (p:=(· != 47))).length_le
  have h2:=(List.takeWhile_sublist (l:=l) (p:=(· != 47))).length_le
  simp only [List.length_drop]
  omega
 ·rw [cut1_no l hm]; simp
theorem take_while_len (l : Str) : l.take (l.takeWhile (· != 47)).length = l.takeWhile (· != 47):=by
 induction l with
 | nil => rfl
 | cons c s ih =>
  by_cases hc : c = 47
  ·simp [hc]
  ·rw [List.takeWhile_cons]; simp [hc,ih]
theorem drop_while_len (l : Str) : l.drop (l.takeWhile (· != 47)).length = l.dropWhile (· != 47):=by
 induction l with
 | nil => rfl
 | cons c s ih =>
  by_cases hc : c = 47
  ·simp [hc]
  ·rw [List.takeWhile_cons,List.dropWhile_cons]; simp [hc,ih]
theorem take_while_lt (l : Str) (h : 47 ∈ l) : (l.takeWhile (· != 47)).length < l.length:=by
 induction l with
 | nil => simp at h
 | cons c s ih =>
  by_cases hc : c = 47
  ·simp [hc]
  ·have h' : 47 ∈ s:=by
    rcases List.mem_cons.1 h with h | h
    ·exact absurd h.symm hc
    ·exact h
   rw [List.takeWhile_cons]; simp [hc,ih h']
theorem cut1_snd_le (l : Str) (n : Nat) (h : l.length ≤ n) : (cut1 l).2.1.length ≤ n:=Nat.le_trans (cut1_le l).2 h
def tail1 (part rest : Str) (more : Bool) : List Str:=part :: (if more = true then cutP rest else [])
theorem tail1_start (l : Str) : cutP l = tail1 (cut1 l).1 (cut1 l).2.1 (cut1 l).2.2:=cutP_cut1 l
theorem tail1_more (part rest : Str) : tail1 part rest true = part :: tail1 (cut1 rest).1 (cut1 rest).2.1 (cut1 rest).2.2:=by
 unfold tail1; rw [if_pos rfl,← cutP_cut1 rest]
open Go.RowKit in
def msr : Value → Value → Nat
 | .string s,.bool true => s.size + 1
 | _,_ => 0
theorem msr_true (l : Str) : msr (.string ⟨l.toArray⟩) (.bool true) = l.length + 1:=by simp [msr,ByteArray.size]
theorem msr_lt (l : Str) : msr (.string ⟨(cut1 l).2.1.toArray⟩) (.bool (cut1 l).2.2) < msr (.string ⟨l.toArray⟩) (.bool true):=by
 rw [msr_true]
 by_cases h : (cut1 l).2.2 = true
 ·have:=cut1_len l h
  rw [h,msr_true]; omega
 ·rw [Bool.eq_false_iff.2 h]
  show 0 < _
  omega
end Go.Proofs.YtigopecainocgaaGreatDoor
namespace Go.Proofs.YtigopecainocgaaGreatDoor
def partsB (l : List Str) : Bool:=decide (l.length ≤ 40) && l.all nameB
def validB : Str → Bool
 | c :: r => decide (c = 47) && (decide (r = []) || partsB (cutP r))
 | [] => false
theorem partsB_snoc_long (l m : List Str) (h : 40 < l.length) (hp : l <+: m) : partsB m = false:=by
 unfold partsB
 have:=hp.length_le
 rw [decide_eq_false (by omega),Bool.false_and]
theorem partsB_bad (l m : List Str) (x : Str) (hx : nameB x = false) (hm : x ∈ l) (hp : l <+: m) : partsB m = false:=by
 unfold partsB
 have : m.all nameB = false:=by
  rw [List.all_eq_false]
  exact ⟨x,hp.subset hm,by simp [hx]⟩
 rw [this,Bool.and_false]
theorem partsB_all (l : List Str) (h : l.length ≤ 40) (ha : l.all nameB = true) : partsB l = true:=by
 unfold partsB; rw [decide_eq_true h,ha]; rfl
theorem validB_root : validB [47] = true:=by simp [validB]
theorem validB_slash (r : Str) (h : r ≠ []) : validB (47 :: r) = partsB (cutP r):=by simp [validB,h]
theorem validB_bad (p : Str) (h : p.head? ≠ some 47) : validB p = false:=by
 cases p with
 | nil => rfl
 | cons c r => simp at h; simp [validB,h]
theorem consHead_len (c : UInt8) (l : List Str) (h : l ≠ []) : (consHead c l).length = l.length:=by
 cases l with
 | nil => exact absurd rfl h
 | cons a t => rfl
theorem cutP_count (l : Str) : (cutP l).length = l.count 47 + 1:=by
 induction l with
 | nil => rfl
 | cons c s ih =>
  rw [cutP_cons,List.count_cons]
  by_cases h : c = 47
  ·simp [h,ih]
  ·rw [if_neg h,consHead_len _ _ (cutP_ne s),ih]
   simp [h]
def splitL (s : Str) : List Str:=if s = [] then [] else cutP s
end Go.Proofs.YtigopecainocgaaGreatDoor
namespace Go.Proofs.YtigopecainocgaaGreatDoor
def flat (l : List Str) : Str:=Lib.joinTail [47] l
def joinL (l : List Str) : Str:=47 :: Lib.join l [47]
def namesL (p : Str) : List Str:=splitL (p.drop 1)
theorem flat_nil : flat [] = []:=rfl
theorem flat_cons (x : Str) (r : List Str) : flat (x :: r) = 47 :: (x ++ flat r):=by simp [flat,Lib.joinTail]
theorem flat_append (l m : List Str) : flat (l ++ m) = flat l ++ flat m:=by simp [flat,Lib.joinTail]
theorem join_cons (x : Str) (r : List Str) : Lib.join (x :: r) [47] = x ++ flat r:=Lib.join_cons x r [47]
theorem joinL_nil : joinL [] = [47]:=rfl
theorem joinL_flat (l : List Str) (h : l ≠ []) : joinL l = flat l:=by
 cases l with
 | nil => exact absurd rfl h
 | cons x r => rw [joinL,join_cons,flat_cons]
theorem consHead_append (c : UInt8) (l m : List Str) (h : l ≠ []) : consHead c (l ++ m) = consHead c l ++ m:=by
 cases l with
 | nil => exact absurd rfl h
 | cons a t => rfl
theorem cutP_app (a b : Str) : cutP (a ++ 47 :: b) = cutP a ++ cutP b:=by
 induction a with
 | nil => rfl
 | cons c s ih =>
  rw [List.cons_append,cutP_cons,cutP_cons,ih]
  by_cases h : c = 47
  ·simp [h]
  ·rw [if_neg h,if_neg h,consHead_append _ _ _ (cutP_ne s)]
theorem cutP_flat (x : Str) (r : List Str) (hx : 47 ∉ x) (hr : ∀ y ∈ r,47 ∉ y) : cutP (x ++ flat r) = x :: r:=by
 induction r generalizing x with
 | nil => rw [flat_nil,List.append_nil,cutP_last x hx]
 | cons y r ih =>
  rw [flat_cons,cutP_app,cutP_last x hx,ih y (hr y (by simp)) (fun z hz => hr z (by simp [hz]))]
  rfl
theorem join_cutP (s : Str) : Lib.join (cutP s) [47] = s:=by
 induction s with
 | nil => rfl
 | cons c s ih =>
  rw [cutP_cons]
  obtain ⟨h,t,e⟩ : ∃ h t,cutP s = h :: t:=by
   cases e : cutP s with
   | nil => exact absurd e (cutP_ne s)
   | cons h t => exact ⟨h,t,rfl⟩
  rw [e,join_cons] at ih
  by_cases hc : c = 47
  ·rw [if_pos hc,e,join_cons,flat_cons,ih,hc]; rfl
  ·rw [if_neg hc,e,consHead,join_cons,List.cons_append,ih]
theorem name_ne (x : Str) (h : nameB x = true) : x ≠ [] ∧ x ≠ [46] ∧ x ≠ [46,46] ∧ x.length ≤ 32:=by
 unfold nameB at h
 rw [Bool.and_eq_true] at h
 exact of_decide_eq_true h.1
theorem name_slash (x : Str) (h : nameB x = true) : 47 ∉ x:=by
 unfold nameB at h
 rw [Bool.and_eq_true,List.all_eq_true] at h
 intro hm
 have:=h.2 47 hm
 simp [okB,letB] at this
theorem parts_iff (l : List Str) : partsB l = true ↔ l.length ≤ 40 ∧ ∀ x ∈ l,nameB x = true:=by
 unfold partsB
 rw [Bool.and_eq_true,List.all_eq_true,decide_eq_true_iff]
theorem join_valid (l : List Str) (h : partsB l = true) : validB (joinL l) = true ∧ namesL (joinL l) = l:=by
 cases l with
 | nil => exact ⟨validB_root,rfl⟩
 | cons x r =>
  have hp:=(parts_iff _).1 h
  have hx:=hp.2 x (by simp)
  have hne : x ++ flat r ≠ []:=by
   intro e
   exact (name_ne x hx).1 (List.append_eq_nil_iff.1 e).1
  have hc:=cutP_flat x r (name_slash x hx) (fun y hy => name_slash y (hp.2 y (by simp [hy])))
  rw [joinL,join_cons]
  refine ⟨?_,?_⟩
  ·rw [validB_slash _ hne,hc,h]
  ·show splitL (x ++ flat r) = _
   rw [splitL,if_neg hne,hc]
theorem valid_join (p : Str) (h : validB p = true) : joinL (namesL p) = p ∧ partsB (namesL p) = true:=by
 cases p with
 | nil => cases h
 | cons c t =>
  simp only [validB,Bool.and_eq_true,decide_eq_true_iff] at h
  obtain ⟨rfl,h⟩:=h
  by_cases ht : t = []
  ·subst ht; exact ⟨rfl,rfl⟩
  ·simp only [ht,decide_false,Bool.false_or] at h
   have e : namesL (47 :: t) = cutP t:=by
    show splitL t = _
    rw [splitL,if_neg ht]
   rw [e]
   exact ⟨by rw [joinL,join_cutP],h⟩
theorem valid_names (p : Str) (h : validB p = true) : (namesL p).length ≤ 40 ∧ ∀ x ∈ namesL p,nameB x = true:=(parts_iff _).1 (valid_join p h).2
theorem names_root (p : Str) (h : validB p = true) : namesL p = [] ↔ p = [47]:=by
 constructor
 ·intro e
  have:=(valid_join p h).1
  rw [e] at this
  exact this.symm
 ·intro e; subst e; rfl
/-! ### Lengths -/
theorem flat_len (l : List Str) (h : ∀ x ∈ l,nameB x = true) : (flat l).length ≤ 33 * l.length:=by
 induction l with
 | nil => simp [flat_nil]
 | cons x r ih =>
  have h1:=ih (fun y hy => h y (by simp [hy]))
  have h2:=(name_ne x (h x (by simp))).2.2.2
  rw [flat_cons]
  simp only [List.length_cons,List.length_append]
  omega
theorem join_len (l : List Str) (h : partsB l = true) : (Lib.join l [47]).length ≤ 1400:=by
 have hp:=(parts_iff _).1 h
 have:=flat_len l hp.2
 cases l with
 | nil => simp [Lib.join_nil]
 | cons x r =>
  rw [join_cons]
  rw [flat_cons] at this
  simp only [List.length_cons] at this hp
  omega
theorem valid_len (p : Str) (h : validB p = true) : p.length ≤ 1401:=by
 have h1:=valid_join p h
 have h2:=join_len _ h1.2
 rw [← h1.1,joinL,List.length_cons]
 omega
/-! ### Up and Base -/
def upL (p : Str) : Str:=if validB p = true then joinL (namesL p).dropLast else []
def baseL (p : Str) : Str:=if validB p = true then (namesL p).getLast?.getD [] else []
theorem parts_dropLast (l : List Str) (h : partsB l = true) : partsB l.dropLast = true:=by
 have hp:=(parts_iff _).1 h
 refine (parts_iff _).2 ⟨?_,fun x hx => hp.2 x ((List.dropLast_sublist l).subset hx)⟩
 rw [List.length_dropLast]; omega
theorem valid_last (p : Str) (h : validB p = true) (hr : p ≠ [47]) : ∃ init x,namesL p = init ++ [x] ∧ p = flat init ++ 47 :: x ∧ nameB x = true ∧ partsB init = true ∧ 47 ∉ x:=by
 have hn : namesL p ≠ []:=fun e => hr ((names_root p h).1 e)
 have hj:=valid_join p h
 obtain ⟨init,x,e⟩ : ∃ init x,namesL p = init ++ [x]:=⟨_,_,(List.dropLast_concat_getLast hn).symm⟩
 have hx : nameB x = true:=(valid_names p h).2 x (by rw [e]; simp)
 have hd:=parts_dropLast _ hj.2
 rw [e,List.dropLast_concat] at hd
 refine ⟨init,x,e,?_,hx,hd,name_slash _ hx⟩
 have hp:=hj.1
 rw [joinL_flat _ hn,e,flat_append,flat_cons,flat_nil,List.append_nil] at hp
 exact hp.symm
theorem up_last (p init : Str) (li : List Str) (x : Str) (h : validB p = true) (hn : namesL p = li ++ [x]) (hi : flat li = init) : upL p = if li = [] then [47] else init:=by
 rw [upL,if_pos h,hn,List.dropLast_concat]
 by_cases hl : li = []
 ·rw [if_pos hl,hl]; rfl
 ·rw [if_neg hl,joinL_flat _ hl,hi]
theorem base_last (p : Str) (li : List Str) (x : Str) (h : validB p = true) (hn : namesL p = li ++ [x]) : baseL p = x:=by
 rw [baseL,if_pos h,hn]; simp
theorem up_root : upL [47] = [47]:=by rw [upL,if_pos validB_root]; rfl
theorem base_root : baseL [47] = []:=by rw [baseL,if_pos validB_root]; rfl
theorem up_bad (p : Str) (h : validB p = false) : upL p = []:=by rw [upL,if_neg (by simp [h])]
theorem base_bad (p : Str) (h : validB p = false) : baseL p = []:=by rw [baseL,if_neg (by simp [h])]
theorem flat_zero (l : List Str) : (flat l).length = 0 ↔ l = []:=by
 cases l with
 | nil => simp [flat_nil]
 | cons x r => simp [flat_cons]
/-! ### Under -/
def underB (p d : Str) : Bool:=validB p && validB d && (namesL d).isPrefixOf (namesL p)
theorem noEmpty (p : Str) (h : validB p = true) : [] ∉ namesL p:=fun hm => (name_ne [] ((valid_names p h).2 [] hm)).1 rfl
theorem behind_yes (p d rest : Str) (hp : validB p = true) (hd : validB d = true) (hr : d ≠ [47]) (e : p = d ++ rest) (h : rest = [] ∨ rest.head? = some 47) :
  namesL d <+: namesL p ∧ splitL (rest.drop 1) = (namesL p).drop (namesL d).length:=by
 rcases h with rfl | h
 ·rw [List.append_nil] at e
  subst e
  exact ⟨List.prefix_refl _,by simp [splitL]⟩
 ·obtain ⟨r,rfl⟩ : ∃ r,rest = 47 :: r:=by
   cases rest with
   | nil => cases h
   | cons c r => simp at h; exact ⟨r,by rw [h]⟩
  cases d with
  | nil => cases hd
  | cons c d' =>
   have hd' : d' ≠ []:=by
    intro e2; subst e2
    simp only [validB,Bool.and_eq_true,decide_eq_true_iff] at hd
    exact hr (by rw [hd.1])
   have e1 : namesL (c :: d') = cutP d':=by show splitL d' = _; rw [splitL,if_neg hd']
   have e2 : namesL p = cutP d' ++ cutP r:=by
    rw [e]
    show splitL (d' ++ 47 :: r) = _
    rw [splitL,if_neg (by simp),cutP_app]
   have hr' : r ≠ []:=by
    intro e3; subst e3
    exact noEmpty p hp (by rw [e2]; simp [cutP])
   refine ⟨by rw [e1,e2]; exact List.prefix_append _ _,?_⟩
   rw [e1,e2,List.drop_left]
   show splitL r = _
   rw [splitL,if_neg hr']
theorem behind_no (p d : Str) (hp : validB p = true) (hd : validB d = true) (hr : d ≠ [47]) (h : namesL d <+: namesL p) : ∃ rest,p = d ++ rest ∧ (rest = [] ∨ rest.head? = some 47):=by
 obtain ⟨m,hm⟩:=h
 have hn : namesL d ≠ []:=fun e => hr ((names_root d hd).1 e)
 have e1:=(valid_join p hp).1
 have e2:=(valid_join d hd).1
 rw [joinL_flat _ (by rw [← hm]; simp [hn]),← hm,flat_append] at e1
 rw [joinL_flat _ hn] at e2
 refine ⟨flat m,by rw [← e1,e2],?_⟩
 cases m with
 | nil => left; rfl
 | cons x r => right; rw [flat_cons]; rfl
/-! ### The order -/
def cmpN : List Str → List Str → Int
 | [],[] => 0
 | [],_ :: _ => -1
 | _ :: _,[] => 1
 | x :: xs,y :: ys => if x = y then cmpN xs ys else Lib.compareBytes x y
def cmpL (p q : Str) : Int :=
 if validB p = true then (if validB q = true then cmpN (namesL p) (namesL q) else 1)
 else (if validB q = true then -1 else Lib.compareBytes p q)
theorem split_step (a : Str) (ha : a ≠ []) (h : [] ∉ splitL a) : splitL a = (cut1 a).1 :: splitL (cut1 a).2.1:=by
 have e : splitL a = cutP a:=by rw [splitL,if_neg ha]
 rw [e] at h ⊢
 rw [cutP_cut1] at h ⊢
 by_cases hm : 47 ∈ a
 ·rw [cut1_yes a hm] at h ⊢
  dsimp only at h ⊢
  rw [if_pos rfl] at h ⊢
  have hne : (a.dropWhile (· != 47)).drop 1 ≠ []:=by
   intro e2
   rw [e2] at h
   exact h (by simp [cutP])
  congr 1
  rw [splitL,if_neg hne]
 ·rw [cut1_no a hm]; rfl
theorem cmpN_prefix (l : List Str) (x : Str) (m : List Str) : cmpN l (l ++ x :: m) = -1:=by
 induction l with
 | nil => rfl
 | cons a l ih => rw [List.cons_append,cmpN,if_pos rfl,ih]
theorem cmpN_self (l : List Str) : cmpN l l = 0:=by
 induction l with
 | nil => rfl
 | cons a l ih => rw [cmpN,if_pos rfl,ih]
/-! ### What a text means at a path -/
theorem parts_snoc (l : List Str) (x : Str) (h : partsB l = true) (hl : l.length ≠ 40) (hn : nameB x = true) : partsB (l ++ [x]) = true:=by
 have hp:=(parts_iff _).1 h
 refine (parts_iff _).2 ⟨by simp; omega,fun y hy => ?_⟩
 rcases List.mem_append.1 hy with hy | hy
 ·exact hp.2 y hy
 ·simp at hy; rw [hy]; exact hn
end Go.Proofs.YtigopecainocgaaGreatDoor
namespace Go.Proofs.YtigopecainocgaaGreatDoor
theorem up_valid (p : Str) (h : validB p = true) : validB (upL p) = true ∧ namesL (upL p) = (namesL p).dropLast:=by
 rw [upL,if_pos h]
 exact join_valid _ (parts_dropLast _ (valid_join p h).2)
theorem up_cmp (p : Str) (h : validB p = true) (hr : p ≠ [47]) : cmpL (upL p) p = -1:=by
 obtain ⟨li,x,hn,_,_,_,_⟩:=valid_last p h hr
 have hu:=up_valid p h
 rw [hn,List.dropLast_concat] at hu
 rw [cmpL,if_pos hu.1,if_pos h,hu.2,hn]
 exact cmpN_prefix li x []
theorem up_under (p : Str) (h : validB p = true) : underB p (upL p) = true:=by
 have hu:=up_valid p h
 have : namesL (upL p) <+: namesL p:=by rw [hu.2]; exact List.dropLast_prefix _
 simp [underB,h,hu.1,List.isPrefixOf_iff_prefix,this]
end Go.Proofs.YtigopecainocgaaGreatDoor
namespace Go.Proofs.YtigopecainocgaaGreatDoor
/-! ### Texts,byte by byte -/
theorem cb_range (a b : Str) : Lib.compareBytes a b = -1 ∨ Lib.compareBytes a b = 0 ∨ Lib.compareBytes a b = 1:=by
 induction a generalizing b with
 | nil => cases b <;> simp [Lib.compareBytes]
 | cons x xs ih =>
  cases b with
  | nil => simp [Lib.compareBytes]
  | cons y ys =>
   unfold Lib.compareBytes
   by_cases h1 : x < y
   ·simp [h1]
   ·by_cases h2 : y < x
    ·simp [h1,h2]
    ·simp only [h1,h2,if_false]; exact ih ys
theorem byte_tri (x y : UInt8) : x < y ∨ x = y ∨ y < x:=by
 rcases Nat.lt_trichotomy x.toNat y.toNat with h | h | h
 ·exact .inl h
 ·exact .inr (.inl (UInt8.toNat_inj.1 h))
 ·exact .inr (.inr h)
theorem byte_asymm (x y : UInt8) (h : x < y) : ¬ y < x:=by
 have h' : x.toNat < y.toNat:=h
 intro k
 have k' : y.toNat < x.toNat:=k
 omega
theorem byte_irr (x : UInt8) : ¬ x < x:=fun h => byte_asymm x x h h
theorem byte_trans (x y z : UInt8) (h : x < y) (k : y < z) : x < z:=by
 have h' : x.toNat < y.toNat:=h
 have k' : y.toNat < z.toNat:=k
 show x.toNat < z.toNat
 omega
theorem cb_cons (x y : UInt8) (xs ys : Str) : Lib.compareBytes (x :: xs) (y :: ys) = if x < y then -1 else if y < x then 1 else Lib.compareBytes xs ys:=rfl
theorem cb_anti (a b : Str) : Lib.compareBytes a b = - Lib.compareBytes b a:=by
 induction a generalizing b with
 | nil => cases b <;> simp [Lib.compareBytes]
 | cons x xs ih =>
  cases b with
  | nil => simp [Lib.compareBytes]
  | cons y ys =>
   rw [cb_cons,cb_cons]
   rcases byte_tri x y with h | h | h
   ·rw [if_pos h,if_neg (byte_asymm x y h),if_pos h]
   ·subst h; rw [if_neg (byte_irr x),if_neg (byte_irr x),if_neg (byte_irr x),if_neg (byte_irr x)]; exact ih ys
   ·rw [if_neg (byte_asymm y x h),if_pos h,if_pos h]; rfl
theorem cb_zero (a b : Str) : Lib.compareBytes a b = 0 ↔ a = b:=by
 induction a generalizing b with
 | nil => cases b <;> simp [Lib.compareBytes]
 | cons x xs ih =>
  cases b with
  | nil => simp [Lib.compareBytes]
  | cons y ys =>
   rw [cb_cons]
   rcases byte_tri x y with h | h | h
   ·rw [if_pos h]
    refine ⟨(fun e => by cases e),fun e => ?_⟩
    injection e with e1 _; subst e1; exact absurd h (byte_irr x)
   ·subst h; rw [if_neg (byte_irr x),if_neg (byte_irr x),ih ys]; simp
   ·rw [if_neg (byte_asymm y x h),if_pos h]
    refine ⟨(fun e => by cases e),fun e => ?_⟩
    injection e with e1 _; subst e1; exact absurd h (byte_irr x)
theorem cb_trans (a b c : Str) (h : Lib.compareBytes a b ≤ 0) (k : Lib.compareBytes b c ≤ 0) : Lib.compareBytes a c ≤ 0:=by
 induction a generalizing b c with
 | nil => cases c <;> simp [Lib.compareBytes]
 | cons x xs ih =>
  cases b with
  | nil => simp [Lib.compareBytes] at h
  | cons y ys =>
   cases c with
   | nil => simp [Lib.compareBytes] at k
   | cons z zs =>
    rw [cb_cons] at h k ⊢
    rcases byte_tri x y with h1 | h1 | h1
    ·rcases byte_tri y z with k1 | k1 | k1
     ·rw [if_pos (byte_trans x y z h1 k1)]; omega
     ·subst k1; rw [if_pos h1]; omega
     ·rw [if_neg (byte_asymm z y k1),if_pos k1] at k; omega
    ·subst h1
     rw [if_neg (byte_irr x),if_neg (byte_irr x)] at h
     rcases byte_tri x z with k1 | k1 | k1
     ·rw [if_pos k1]; omega
     ·subst k1
      rw [if_neg (byte_irr x),if_neg (byte_irr x)] at k ⊢
      exact ih ys zs h k
     ·rw [if_neg (byte_asymm z x k1),if_pos k1] at k; omega
    ·rw [if_neg (byte_asymm y x h1),if_pos h1] at h; omega
/-! ### Rows of names -/
theorem cn_cons (x y : Str) (xs ys : List Str) : cmpN (x :: xs) (y :: ys) = if x = y then cmpN xs ys else Lib.compareBytes x y:=rfl
theorem cn_anti (a b : List Str) : cmpN a b = - cmpN b a:=by
 induction a generalizing b with
 | nil => cases b <;> simp [cmpN]
 | cons x xs ih =>
  cases b with
  | nil => simp [cmpN]
  | cons y ys =>
   rw [cn_cons,cn_cons]
   by_cases h : x = y
   ·subst h; rw [if_pos rfl,if_pos rfl]; exact ih ys
   ·rw [if_neg h,if_neg (fun e => h e.symm)]; exact cb_anti x y
theorem cn_zero (a b : List Str) : cmpN a b = 0 ↔ a = b:=by
 induction a generalizing b with
 | nil => cases b <;> simp [cmpN]
 | cons x xs ih =>
  cases b with
  | nil => simp [cmpN]
  | cons y ys =>
   rw [cn_cons]
   by_cases h : x = y
   ·subst h; rw [if_pos rfl,ih ys]; simp
   ·rw [if_neg h,cb_zero]; simp [h]
theorem cn_trans (a b c : List Str) (h : cmpN a b ≤ 0) (k : cmpN b c ≤ 0) : cmpN a c ≤ 0:=by
 induction a generalizing b c with
 | nil => cases c <;> simp [cmpN]
 | cons x xs ih =>
  cases b with
  | nil => simp [cmpN] at h
  | cons y ys =>
   cases c with
   | nil => simp [cmpN] at k
   | cons z zs =>
    rw [cn_cons] at h k ⊢
    by_cases hxy : x = y
    ·subst hxy
     rw [if_pos rfl] at h
     by_cases hxz : x = z
     ·subst hxz; rw [if_pos rfl] at k ⊢; exact ih ys zs h k
     ·rw [if_neg hxz] at k ⊢; exact k
    ·rw [if_neg hxy] at h
     by_cases hyz : y = z
     ·subst hyz; rw [if_neg hxy]; exact h
     ·rw [if_neg hyz] at k
      have hxz:=cb_trans x y z h k
      by_cases e : x = z
      ·subst e
       exfalso
       apply hxy
       have h1:=cb_anti x y
       exact (cb_zero x y).1 (by omega)
      ·rw [if_neg e]; exact hxz
theorem cn_prefix_le (a b : List Str) (h : a <+: b) : cmpN a b ≤ 0:=by
 obtain ⟨r,rfl⟩:=h
 cases r with
 | nil => rw [List.append_nil,cmpN_self]; omega
 | cons x r => rw [cmpN_prefix]; omega
theorem cn_between (a b c : List Str) (h : a <+: b) (h1 : cmpN a c ≤ 0) (h2 : cmpN c b ≤ 0) : a <+: c:=by
 induction a generalizing b c with
 | nil => exact List.nil_prefix
 | cons x xs ih =>
  obtain ⟨r,rfl⟩:=h
  cases c with
  | nil => simp [cmpN] at h1
  | cons z zs =>
   rw [List.cons_append,cn_cons] at h2
   rw [cn_cons] at h1
   by_cases e : x = z
   ·subst e
    rw [if_pos rfl] at h1 h2
    obtain ⟨r',hr'⟩:=ih (xs ++ r) zs (List.prefix_append _ _) h1 h2
    exact ⟨r',by rw [List.cons_append,hr']⟩
   ·exfalso
    rw [if_neg e] at h1
    rw [if_neg (fun k => e k.symm)] at h2
    have h3:=cb_anti x z
    exact e ((cb_zero x z).1 (by omega))
/-! ### Paths -/
theorem cl_anti (a b : Str) : cmpL a b = - cmpL b a:=by
 unfold cmpL
 by_cases ha : validB a = true <;> by_cases hb : validB b = true
 ·rw [if_pos ha,if_pos hb,if_pos hb,if_pos ha]; exact cn_anti _ _
 ·rw [if_pos ha,if_neg hb,if_neg hb,if_pos ha]; rfl
 ·rw [if_neg ha,if_pos hb,if_pos hb,if_neg ha]
 ·rw [if_neg ha,if_neg hb,if_neg hb,if_neg ha]; exact cb_anti _ _
theorem names_inj (a b : Str) (ha : validB a = true) (hb : validB b = true) (h : namesL a = namesL b) : a = b:=by
 rw [← (valid_join a ha).1,h,(valid_join b hb).1]
theorem cl_zero (a b : Str) : cmpL a b = 0 ↔ a = b:=by
 unfold cmpL
 by_cases ha : validB a = true <;> by_cases hb : validB b = true
 ·rw [if_pos ha,if_pos hb,cn_zero]
  exact ⟨names_inj a b ha hb,fun e => by rw [e]⟩
 ·rw [if_pos ha,if_neg hb]
  exact ⟨fun e => by omega,fun e => by subst e; exact absurd ha hb⟩
 ·rw [if_neg ha,if_pos hb]
  exact ⟨fun e => by omega,fun e => by subst e; exact absurd hb ha⟩
 ·rw [if_neg ha,if_neg hb]; exact cb_zero _ _
theorem cl_trans (a b c : Str) (h : cmpL a b ≤ 0) (k : cmpL b c ≤ 0) : cmpL a c ≤ 0:=by
 unfold cmpL at h k ⊢
 by_cases ha : validB a = true <;> by_cases hb : validB b = true <;> by_cases hc : validB c = true
 ·rw [if_pos ha,if_pos hb] at h; rw [if_pos hb,if_pos hc] at k; rw [if_pos ha,if_pos hc]; exact cn_trans _ _ _ h k
 ·rw [if_pos hb,if_neg hc] at k; omega
 ·rw [if_pos ha,if_neg hb] at h; omega
 ·rw [if_pos ha,if_neg hb] at h; omega
 ·rw [if_neg ha,if_pos hc]; omega
 ·rw [if_pos hb,if_neg hc] at k; omega
 ·rw [if_neg ha,if_pos hc]; omega
 ·rw [if_neg ha,if_neg hb] at h; rw [if_neg hb,if_neg hc] at k; rw [if_neg ha,if_neg hc]; exact cb_trans _ _ _ h k
theorem cl_under (a b : Str) (h : underB b a = true) : cmpL a b ≤ 0:=by
 have hv : validB b = true ∧ validB a = true:=by
  unfold underB at h; rw [Bool.and_eq_true,Bool.and_eq_true] at h; exact h.1
 have hp : namesL a <+: namesL b:=by
  unfold underB at h; rw [Bool.and_eq_true,List.isPrefixOf_iff_prefix] at h; exact h.2
 rw [cmpL,if_pos hv.2,if_pos hv.1]
 exact cn_prefix_le _ _ hp
theorem cl_between (a b c : Str) (h : underB b a = true) (h1 : cmpL a c ≤ 0) (h2 : cmpL c b ≤ 0) : underB c a = true:=by
 have hv : validB b = true ∧ validB a = true:=by
  unfold underB at h; rw [Bool.and_eq_true,Bool.and_eq_true] at h; exact h.1
 have hp : namesL a <+: namesL b:=by
  unfold underB at h; rw [Bool.and_eq_true,List.isPrefixOf_iff_prefix] at h; exact h.2
 have hc : validB c = true:=by
  by_cases hc : validB c = true
  ·exact hc
  ·rw [cmpL,if_pos hv.2,if_neg hc] at h1; omega
 rw [cmpL,if_pos hv.2,if_pos hc] at h1
 rw [cmpL,if_pos hc,if_pos hv.1] at h2
 have:=cn_between _ _ _ hp h1 h2
 simp [underB,hc,hv.2,List.isPrefixOf_iff_prefix,this]
/-! ### Rows in order -/
theorem cl_total (a b : Str) (h : ¬ cmpL a b < 0) : cmpL b a ≤ 0:=by
 have:=cl_anti a b
 omega
end Go.Proofs.YtigopecainocgaaGreatDoor
namespace Go.Proofs.YtigopecainocgaaGreatDoor
theorem snoc_ind {α : Type} {motive : List α → Prop} (nil : motive []) (snoc : ∀ l x,motive l → motive (l ++ [x])) (l : List α) : motive l:=by
 have : ∀ n (l : List α),l.length = n → motive l:=by
  intro n
  induction n with
  | zero => intro l hl; rw [List.eq_nil_of_length_eq_zero hl]; exact nil
  | succ n ih =>
   intro l hl
   have hne : l ≠ []:=by intro e; rw [e] at hl; cases hl
   rw [← List.dropLast_concat_getLast hne]
   exact snoc _ _ (ih _ (by rw [List.length_dropLast]; omega))
 exact this _ l rfl
structure It where
 path : Str
 kind : Int
 data : Str
deriving DecidableEq
def It.nil : It:=⟨[],0,[]⟩
def It.root : It:=⟨[47],1,[]⟩
def It.dataB (x : It) : Bool:=if x.kind = 1 then decide (x.data.length = 0) else if x.kind = 2 then decide (x.data.length ≤ 524288) else if x.kind = 3 then decide (1 ≤ x.data.length ∧ x.data.length ≤ 2000) else false
abbrev Lv:=Str × Str
def leaveL (st : List Lv) (d : Str) : List Lv:=st.dropWhile fun e => e.1 != d
def stepV (st : List Lv) (x : It) : Option (List Lv) :=
 match leaveL st (upL x.path) with
 | [] => none
 | e :: r => if Lib.compareBytes x.path e.2 ≤ 0 ∨ x.dataB = false then none else some (if x.kind = 1 then (x.path,x.path) :: (e.1,x.path) :: r else (e.1,x.path) :: r)
def runV (l : List It) : Option (List Lv):=l.foldl (fun o x => o.bind (stepV · x)) (some [([47],[47])])
def validT (l : List It) : Bool:=decide (l.length ≤ 2000) && (runV l).isSome
theorem runV_snoc (l : List It) (x : It) : runV (l ++ [x]) = (runV l).bind (stepV · x):=by simp [runV]
theorem runV_dead (l m : List It) (h : runV l = none) (hp : l <+: m) : runV m = none:=by
 obtain ⟨r,rfl⟩:=hp
 induction r using snoc_ind with
 | nil => simpa using h
 | snoc r x ih => rw [← List.append_assoc,runV_snoc,ih]; rfl
theorem cb_self (a : Str) : Lib.compareBytes a a = 0:=(cb_zero a a).2 rfl
theorem cb_app (p a b : Str) : Lib.compareBytes (p ++ a) (p ++ b) = Lib.compareBytes a b:=by
 induction p with
 | nil => rfl
 | cons c p ih => simp only [List.cons_append]; rw [cb_cons,if_neg (byte_irr c),if_neg (byte_irr c),ih]
theorem cb_longer (p : Str) (c : UInt8) (r : Str) : Lib.compareBytes (p ++ c :: r) p = 1:=by
 have:=cb_app p (c :: r) []
 rw [List.append_nil] at this
 rw [this]; rfl
def Kid (d l : Str) : Prop:=validB l = true ∧ l ≠ [47] ∧ upL l = d
theorem Kid.valid {d l : Str} (h : Kid d l) : validB d = true:=by rw [← h.2.2]; exact (up_valid l h.1).1
theorem Kid.form {d l : Str} (h : Kid d l) : ∃ x,namesL l = namesL d ++ [x] ∧ l = flat (namesL d) ++ 47 :: x ∧ nameB x = true:=by
 obtain ⟨init,x,e1,e2,e3,e4,_⟩:=valid_last l h.1 h.2.1
 have e : namesL d = init:=by
  have:=(up_valid l h.1).2
  rw [h.2.2,e1,List.dropLast_concat] at this
  exact this
 exact ⟨x,by rw [e]; exact e1,by rw [e]; exact e2,e3⟩
theorem Kid.ne {d l : Str} (h : Kid d l) : d ≠ l:=by
 obtain ⟨x,e,_⟩:=h.form
 intro e2
 rw [e2] at e
 have:=congrArg List.length e
 simp at this
theorem flat_of {d : Str} (h : validB d = true) (hr : d ≠ [47]) : flat (namesL d) = d:=by
 have hn : namesL d ≠ []:=fun e => hr ((names_root d h).1 e)
 have:=(valid_join d h).1
 rwa [joinL_flat _ hn] at this
theorem Kid.over {d l : Str} (h : Kid d l) : Lib.compareBytes l d = 1:=by
 obtain ⟨x,e1,e2,e3⟩:=h.form
 by_cases hr : d = [47]
 ·subst hr
  have : flat (namesL [47]) = []:=rfl
  rw [this] at e2
  obtain ⟨c,r,rfl⟩ : ∃ c r,x = c :: r:=by
   cases x with
   | nil => exact absurd rfl (name_ne [] e3).1
   | cons c r => exact ⟨c,r,rfl⟩
  rw [e2]
  exact cb_longer [47] c r
 ·rw [e2,flat_of h.valid hr]; exact cb_longer d 47 x
theorem Kid.cmp {d l m : Str} (h : Kid d l) (k : Kid d m) : ∃ x y,namesL l = namesL d ++ [x] ∧ namesL m = namesL d ++ [y] ∧ Lib.compareBytes l m = Lib.compareBytes x y:=by
 obtain ⟨x,e1,e2,e3⟩:=h.form
 obtain ⟨y,f1,f2,f3⟩:=k.form
 refine ⟨x,y,e1,f1,?_⟩
 rw [e2,f2,cb_app,cb_cons,if_neg (byte_irr _),if_neg (byte_irr _)]
inductive Ch : List Lv → Prop
 | root (l : Str) : l = [47] ∨ Kid [47] l → Ch [([47],l)]
 | down (d l d' : Str) (r : List Lv) : Ch ((d',d) :: r) → Kid d' d → l = d ∨ Kid d l → Ch ((d,l) :: (d',d) :: r)
theorem Ch.ne {st : List Lv} (h : Ch st) : st ≠ []:=by cases h <;> simp
theorem Ch.last {d l : Str} {r : List Lv} (h : Ch ((d,l) :: r)) : validB d = true ∧ (l = d ∨ Kid d l):=by
 cases h with
 | root _ h => exact ⟨validB_root,h⟩
 | down _ _ d' r h k j => exact ⟨k.1,j⟩
theorem Ch.tail {e f : Lv} {r : List Lv} (h : Ch (e :: f :: r)) : Ch (f :: r):=by cases h with | down _ _ _ _ h _ _ => exact h
theorem Ch.drop {st : List Lv} (h : Ch st) (p : Lv → Bool) (hn : st.dropWhile p ≠ []) : Ch (st.dropWhile p):=by
 induction st with
 | nil => exact absurd rfl h.ne
 | cons e r ih =>
  rw [List.dropWhile_cons] at hn ⊢
  split
  ·rename_i hp
   rw [if_pos hp] at hn
   cases r with
   | nil => exact absurd rfl hn
   | cons f r => exact ih h.tail hn
  ·exact h
theorem under_self {p : Str} (h : validB p = true) : underB p p = true:=by simp [underB,h]
theorem under_trans {a b c : Str} (h : underB a b = true) (k : underB b c = true) : underB a c = true:=by
 simp only [underB,Bool.and_eq_true,List.isPrefixOf_iff_prefix] at h k ⊢
 exact ⟨⟨h.1.1,k.1.2⟩,k.2.trans h.2⟩
theorem Kid.under {d l : Str} (h : Kid d l) : underB l d = true:=by
 have:=up_under l h.1
 rwa [h.2.2] at this
def topL (st : List Lv) : Str:=(st.head?.map (·.2)).getD []
theorem Ch.under {st : List Lv} (h : Ch st) : validB (topL st) = true ∧ ∀ e ∈ st,underB (topL st) e.2 = true ∧ underB (topL st) e.1 = true:=by
 induction h with
 | root l h =>
  have hv : validB l = true:=by rcases h with rfl | h; exact validB_root; exact h.1
  refine ⟨hv,fun e he => ?_⟩
  simp at he
  subst he
  refine ⟨under_self hv,?_⟩
  rcases h with rfl | h
  ·exact under_self hv
  ·exact h.under
 | down d l d' r h k j ih =>
  have hv : validB l = true:=by rcases j with rfl | j; exact k.1; exact j.1
  have hu : underB l d = true:=by
   rcases j with rfl | j
   ·exact under_self hv
   ·exact j.under
  refine ⟨hv,fun e he => ?_⟩
  rcases List.mem_cons.1 he with rfl | he
  ·exact ⟨under_self hv,hu⟩
  ·exact ⟨under_trans hu (ih.2 e he).1,under_trans hu (ih.2 e he).2⟩
theorem Ch.lower {st : List Lv} (h : Ch st) {e : Lv} (he : e ∈ st.tail) : Kid e.1 e.2:=by
 induction h with
 | root l h => cases he
 | down d l d' r h k j ih =>
  rcases List.mem_cons.1 he with rfl | he
  ·exact k
  ·exact ih he
theorem stepV_some {st st' : List Lv} {x : It} (h : stepV st x = some st') : ∃ d l r,leaveL st (upL x.path) = (d,l) :: r ∧ d = upL x.path ∧ ¬ Lib.compareBytes x.path l ≤ 0 ∧ x.dataB = true ∧ st' = if x.kind = 1 then (x.path,x.path) :: (d,x.path) :: r else (d,x.path) :: r:=by
 unfold stepV at h
 cases e : leaveL st (upL x.path) with
 | nil => rw [e] at h; cases h
 | cons f r =>
  rw [e] at h
  obtain ⟨d,l⟩:=f
  have hd : d = upL x.path:=by
   have:=List.head?_dropWhile_not (fun e : Lv => e.1 != upL x.path) st
   unfold leaveL at e
   rw [e] at this
   simpa using this
  simp only at h
  split at h
  ·cases h
  ·rename_i hc
   refine ⟨d,l,r,rfl,hd,fun k => hc (.inl k),?_,(Option.some.inj h).symm⟩
   cases hx : x.dataB with
   | true => rfl
   | false => exact absurd (.inr hx) hc
theorem Ch.mem_leave {st : List Lv} {d : Str} {e : Lv} (h : e ∈ leaveL st d) : e ∈ st:=(List.dropWhile_sublist _).subset h
theorem Ch.step {st st' : List Lv} {x : It} (h : Ch st) (hs : stepV st x = some st') : Ch st' ∧ topL st' = x.path ∧ Kid (upL x.path) x.path ∧ cmpL (topL st) x.path < 0 ∧ x.dataB = true ∧ (upL x.path = [47] ∨ upL x.path ∈ st.map (·.1)):=by
 obtain ⟨d,l,r,e1,e2,e3,e4,e5⟩:=stepV_some hs
 have hc : Ch ((d,l) :: r):=by
  have:=h.drop (fun e : Lv => e.1 != upL x.path) (by show leaveL st _ ≠ []; rw [e1]; simp)
  rw [show st.dropWhile _ = _ from e1] at this
  exact this
 have hmem : (d,l) ∈ st:=Ch.mem_leave (by rw [e1]; simp)
 have hdv:=hc.last.1
 have hxv : validB x.path = true:=by
  cases hv : validB x.path with
  | true => rfl
  | false => rw [e2,up_bad _ hv] at hdv; cases hdv
 have hxr : x.path ≠ [47]:=by
  intro e
  have : Lib.compareBytes x.path l ≤ 0:=by
   rw [e]
   rcases hc.last.2 with k | k
   ·rw [k,e2,e,up_root,cb_self]; exact Int.le_refl _
   ·have hd : d = [47]:=by rw [e2,e,up_root]
    rw [hd] at k
    have:=k.over
    rw [cb_anti] at this
    omega
  exact e3 this
 have hk : Kid d x.path:=⟨hxv,hxr,e2.symm⟩
 have hu:=h.under
 have hlt : cmpL (topL st) x.path < 0:=by
  by_cases hl : l = d
  ·-- the topmost level,with nothing in it yet
   have ht : st.head? = some (d,l):=by
    cases st with
    | nil => cases hmem
    | cons f s =>
     rcases List.mem_cons.1 hmem with k | k
     ·rw [← k]; rfl
     ·exact absurd hl.symm (h.lower (e:=(d,l)) k).ne
   have : topL st = d:=by simp [topL,ht,hl]
   rw [this,e2,up_cmp _ hxv hxr]
   decide
  ·have hkl : Kid d l:=by
    rcases hc.last.2 with k | k
    ·exact absurd k hl
    ·exact k
   obtain ⟨m,n,f1,f2,f3⟩:=hkl.cmp hk
   have hul:=(hu.2 _ hmem).1
   simp only [underB,Bool.and_eq_true,List.isPrefixOf_iff_prefix] at hul
   obtain ⟨more,hm⟩:=hul.2
   have hneg : Lib.compareBytes m n < 0:=by
    rw [← f3]
    have:=cb_anti l x.path
    omega
   have hne : m ≠ n:=by
    intro e
    rw [e,cb_self] at hneg
    exact absurd hneg (by decide)
   unfold cmpL
   rw [if_pos hu.1,if_pos hxv,← hm,f1,f2,List.append_assoc]
   have : ∀ (p a b : List Str),cmpN (p ++ a) (p ++ b) = cmpN a b:=by
    intro p a b
    induction p with
    | nil => rfl
    | cons c p ih => simp only [List.cons_append]; rw [cn_cons,if_pos rfl,ih]
   rw [this,List.cons_append,List.nil_append,cn_cons,if_neg hne]
   exact hneg
 have hch2 : Ch ((d,x.path) :: r):=by
  cases hc with
  | root _ _ => exact .root _ (.inr hk)
  | down _ _ d' r h k j => exact .down _ _ _ _ h k (.inr hk)
 refine ⟨?_,?_,e2 ▸ hk,hlt,e4,.inr (List.mem_map.2 ⟨(d,l),hmem,e2⟩)⟩
 ·rw [e5]
  split
  ·exact .down _ _ _ _ hch2 hk (.inl rfl)
  ·exact hch2
 ·rw [e5]; split <;> rfl
theorem cl_lt_trans {a b c : Str} (h : cmpL a b < 0) (k : cmpL b c < 0) : cmpL a c < 0:=by
 have h1:=cl_trans a b c (by omega) (by omega)
 by_cases h2 : cmpL a c = 0
 ·have e:=(cl_zero a c).1 h2
  subst e
  have:=cl_anti a b
  omega
 ·omega
structure Good (l : List It) (st : List Lv) : Prop where
 ch : Ch st
 top : l ≠ [] → ∃ x,l.getLast? = some x ∧ topL st = x.path
 first : l = [] → topL st = [47]
 kid : ∀ x ∈ l,Kid (upL x.path) x.path ∧ x.dataB = true
 sorted : l.Pairwise fun a b => cmpL a.path b.path < 0
 dirs : ∀ e ∈ st,e.1 = [47] ∨ ∃ x ∈ l,x.path = e.1 ∧ x.kind = 1
 up : ∀ x ∈ l,upL x.path = [47] ∨ ∃ y ∈ l,y.path = upL x.path ∧ y.kind = 1
theorem good_nil : Good [] [([47],[47])]:=⟨.root _ (.inl rfl),fun h => absurd rfl h,fun _ => rfl,by simp,.nil,fun e he => by simp at he; subst he; exact .inl rfl,by simp⟩
theorem Good.step {l : List It} {st st' : List Lv} {x : It} (h : Good l st) (hs : stepV st x = some st') : Good (l ++ [x]) st':=by
 obtain ⟨h1,h2,h3,h4,h5,h6⟩:=h.ch.step hs
 obtain ⟨d,lb,r,e1,e2,e3,e4,e5⟩:=stepV_some hs
 have hall : ∀ a ∈ l,cmpL a.path x.path < 0:=by
  intro a ha
  have hne : l ≠ []:=List.ne_nil_of_mem ha
  obtain ⟨y,hy,ht⟩:=h.top hne
  rw [ht] at h4
  obtain ⟨init,rfl⟩ : ∃ init,l = init ++ [y]:=⟨_,(List.getLast?_eq_some_iff.1 hy).choose_spec⟩
  rcases List.mem_append.1 ha with k | k
  ·have:=(List.pairwise_append.1 h.sorted).2.2 a k y (by simp)
   exact cl_lt_trans this h4
  ·simp at k; subst k; exact h4
 have hdirs : ∀ e ∈ st,e.1 = [47] ∨ ∃ z ∈ l ++ [x],z.path = e.1 ∧ z.kind = 1:=fun e he => (h.dirs e he).imp id fun ⟨z,hz,k⟩ => ⟨z,List.mem_append_left _ hz,k⟩
 refine ⟨h1,fun _ => ⟨x,by simp,h2⟩,fun e => by simp at e,?_,?_,?_,?_⟩
 ·intro z hz
  rcases List.mem_append.1 hz with k | k
  ·exact h.kid z k
  ·simp at k; subst k; exact ⟨h3,h5⟩
 ·rw [List.pairwise_append]
  exact ⟨h.sorted,by simp,fun a ha b hb => by simp at hb; subst hb; exact hall a ha⟩
 ·intro e he
  have hold : ∀ f ∈ (d,lb) :: r,f.1 = [47] ∨ ∃ z ∈ l ++ [x],z.path = f.1 ∧ z.kind = 1:=fun f hf => hdirs f (Ch.mem_leave (by rw [e1]; exact hf))
  have hrest : ∀ f ∈ (d,x.path) :: r,f.1 = [47] ∨ ∃ z ∈ l ++ [x],z.path = f.1 ∧ z.kind = 1:=by
   intro f hf
   rcases List.mem_cons.1 hf with rfl | hf
   ·exact hold (d,lb) (by simp)
   ·exact hold f (by simp [hf])
  rw [e5] at he
  split at he
  ·rename_i hk
   rcases List.mem_cons.1 he with rfl | he
   ·exact .inr ⟨x,by simp,rfl,hk⟩
   ·exact hrest e he
  ·exact hrest e he
 ·intro z hz
  rcases List.mem_append.1 hz with k | k
  ·exact (h.up z k).imp id fun ⟨y,hy,q⟩ => ⟨y,List.mem_append_left _ hy,q⟩
  ·simp at k; subst k
   rcases h6 with k | k
   ·exact .inl k
   ·obtain ⟨e,he,hd⟩:=List.mem_map.1 k
    rcases h.dirs e he with q | ⟨y,hy,q⟩
    ·exact .inl (by rw [← hd]; exact q)
    ·exact .inr ⟨y,List.mem_append_left _ hy,by rw [q.1]; exact hd,q.2⟩
theorem good_run (l : List It) (st : List Lv) (h : runV l = some st) : Good l st:=by
 induction l using snoc_ind generalizing st with
 | nil => cases h; exact good_nil
 | snoc l x ih =>
  rw [runV_snoc] at h
  cases e : runV l with
  | none => rw [e] at h; cases h
  | some s => rw [e] at h; exact (ih s e).step h
structure TreeOk (l : List It) : Prop where
 many : l.length ≤ 2000
 kid : ∀ x ∈ l,Kid (upL x.path) x.path ∧ x.dataB = true
 sorted : l.Pairwise fun a b => cmpL a.path b.path < 0
 up : ∀ x ∈ l,upL x.path = [47] ∨ ∃ y ∈ l,y.path = upL x.path ∧ y.kind = 1
theorem tree_ok {l : List It} (h : validT l = true) : TreeOk l:=by
 unfold validT at h
 rw [Bool.and_eq_true,decide_eq_true_iff] at h
 obtain ⟨st,hst⟩:=Option.isSome_iff_exists.1 h.2
 have g:=good_run l st hst
 exact ⟨h.1,g.kid,g.sorted,g.up⟩
end Go.Proofs.YtigopecainocgaaGreatDoor
namespace Go.Proofs.YtigopecainocgaaGreatDoor
theorem under_up {d a : Str} (h : underB d a = true) (hn : a ≠ d) : underB (upL d) a = true:=by
 simp only [underB,Bool.and_eq_true,List.isPrefixOf_iff_prefix] at h ⊢
 obtain ⟨h1,h2⟩:=up_valid d h.1.1
 refine ⟨⟨h1,h.1.2⟩,?_⟩
 rw [h2]
 obtain ⟨m,hm⟩:=h.2
 have hne : m ≠ []:=by
  intro e
  rw [e,List.append_nil] at hm
  exact hn (names_inj _ _ h.1.2 h.1.1 hm)
 rw [← hm,List.dropLast_append_of_ne_nil hne]
 exact List.prefix_append _ _
theorem Ch.all {d l : Str} {r : List Lv} (h : Ch ((d,l) :: r)) {a : Str} (ha : underB d a = true) : a ∈ ((d,l) :: r).map (·.1):=by
 obtain ⟨st,hst⟩:=nmq ((d,l) :: r)
 rw [← hst] at h ⊢
 induction h generalizing d l r with
 | root q hq =>
  cases hst
  simp only [underB,Bool.and_eq_true,List.isPrefixOf_iff_prefix] at ha
  have : namesL a = []:=by
   have:=ha.2
   rw [(names_root [47] validB_root).2 rfl] at this
   exact List.prefix_nil.1 this
  simp [(names_root a ha.1.2).1 this]
 | down d2 l2 d' r2 h2 k j ih =>
  cases hst
  by_cases e : a = d2
  ·simp [e]
  ·have:=under_up ha e
   rw [k.2.2] at this
   exact List.mem_cons_of_mem _ (ih this rfl)
theorem Ch.has {st : List Lv} (h : Ch st) {a : Str} (ha : underB (topL st) a = true) (hn : a = topL st → a = [47]) : a ∈ st.map (·.1):=by
 cases st with
 | nil => exact absurd rfl h.ne
 | cons e r =>
  obtain ⟨d,l⟩:=e
  have ht : topL ((d,l) :: r) = l:=rfl
  rw [ht] at ha hn
  rcases h.last.2 with k | k
  ·subst k; exact h.all ha
  ·by_cases e : a = l
   ·have:=hn e
    rw [this] at e
    exact absurd e.symm k.2.1
   ·have:=under_up ha e
    rw [k.2.2] at this
    exact h.all this
theorem root_under {p : Str} (h : validB p = true) : underB p [47] = true:=by
 simp only [underB,Bool.and_eq_true,List.isPrefixOf_iff_prefix]
 refine ⟨⟨h,validB_root⟩,?_⟩
 rw [(names_root [47] validB_root).2 rfl]
 exact List.nil_prefix
theorem cn_app (p a b : List Str) : cmpN (p ++ a) (p ++ b) = cmpN a b:=by
 induction p with
 | nil => rfl
 | cons c p ih => simp only [List.cons_append]; rw [cn_cons,if_pos rfl,ih]
theorem leave_mem {st : List Lv} {d : Str} (h : d ∈ st.map (·.1)) : ∃ l r,leaveL st d = (d,l) :: r:=by
 induction st with
 | nil => cases h
 | cons e r ih =>
  unfold leaveL
  rw [List.dropWhile_cons]
  by_cases he : e.1 = d
  ·subst he; exact ⟨e.2,r,by simp⟩
  ·rw [if_pos (by simpa using he)]
   refine ih ?_
   rcases List.mem_cons.1 h with k | k
   ·exact absurd k.symm he
   ·exact k
structure Good3 (l : List It) (st : List Lv) : Prop where
 good : Good l st
 own : ∀ y,l.getLast? = some y → y.kind = 1 → ∃ r,st = (y.path,y.path) :: r
theorem Good3.step {l : List It} {st st' : List Lv} {x : It} (h : Good3 l st) (hs : stepV st x = some st') : Good3 (l ++ [x]) st':=by
 refine ⟨h.good.step hs,fun y hy hk => ?_⟩
 obtain ⟨d,lb,r,e1,e2,e3,e4,e5⟩:=stepV_some hs
 have : y = x:=by simpa using hy.symm
 subst this
 rw [if_pos hk] at e5
 exact ⟨_,e5⟩
theorem good3_run (l : List It) (st : List Lv) (h : runV l = some st) : Good3 l st:=by
 induction l using snoc_ind generalizing st with
 | nil => cases h; exact ⟨good_nil,fun y hy => by cases hy⟩
 | snoc l x ih =>
  rw [runV_snoc] at h
  cases e : runV l with
  | none => rw [e] at h; cases h
  | some s => rw [e] at h; exact (ih s e).step h
theorem Good3.go {l : List It} {st : List Lv} {x : It} (h : Good3 l st) (hk : Kid (upL x.path) x.path) (hd : x.dataB = true) (hs : ∀ a ∈ l,cmpL a.path x.path < 0) (hu : upL x.path = [47] ∨ ∃ y ∈ l,y.path = upL x.path ∧ y.kind = 1) : ∃ st',stepV st x = some st':=by
 have hc:=h.good.ch
 have hun:=hc.under
 have htop : cmpL (topL st) x.path < 0:=by
  by_cases hl : l = []
  ·rw [h.good.first hl]
   have:=cl_under [47] x.path (root_under hk.1)
   by_cases e : cmpL [47] x.path = 0
   ·exact absurd ((cl_zero _ _).1 e).symm hk.2.1
   ·omega
  ·obtain ⟨z,hz,ht⟩:=h.good.top hl
   rw [ht]
   exact hs z (List.mem_of_getLast? hz)
 have hmem : upL x.path ∈ st.map (·.1):=by
  rcases hu with e | ⟨y,hy,e,hyk⟩
  ·rw [e]
   exact hc.has (root_under hun.1) (fun _ => rfl)
  ·have hl : l ≠ []:=List.ne_nil_of_mem hy
   obtain ⟨z,hz,ht⟩:=h.good.top hl
   have hyz : cmpL y.path z.path ≤ 0:=by
    obtain ⟨init,rfl⟩ : ∃ init,l = init ++ [z]:=⟨_,(List.getLast?_eq_some_iff.1 hz).choose_spec⟩
    rcases List.mem_append.1 hy with k | k
    ·have:=(List.pairwise_append.1 h.good.sorted).2.2 y k z (by simp)
     omega
    ·simp at k; subst k; rw [(cl_zero _ _).2 rfl]; exact Int.le_refl _
   have hzx : cmpL z.path x.path < 0:=by rw [← ht]; exact htop
   have hub : underB z.path (upL x.path) = true:=by
    rw [e] at hyz
    exact cl_between _ x.path _ hk.under hyz (by omega)
   by_cases ez : upL x.path = z.path
   ·-- the last one is that directory itself
    have hyp : y = z:=by
     obtain ⟨init,rfl⟩ : ∃ init,l = init ++ [z]:=⟨_,(List.getLast?_eq_some_iff.1 hz).choose_spec⟩
     rcases List.mem_append.1 hy with k | k
     ·have:=(List.pairwise_append.1 h.good.sorted).2.2 y k z (by simp)
      rw [e,ez,(cl_zero _ _).2 rfl] at this
      exact absurd this (by decide)
     ·simpa using k
    subst hyp
    obtain ⟨r,hr⟩:=h.own y hz hyk
    rw [hr,← e]
    simp
   ·rw [← ht] at hub ez
    exact hc.has hub (fun k => absurd k ez)
 obtain ⟨lb,r,e1⟩:=leave_mem hmem
 have hc2 : Ch ((upL x.path,lb) :: r):=by
  have:=hc.drop (fun e : Lv => e.1 != upL x.path) (by show leaveL st _ ≠ []; rw [e1]; simp)
  rw [show st.dropWhile _ = _ from e1] at this
  exact this
 have hml : (upL x.path,lb) ∈ st:=Ch.mem_leave (d:=upL x.path) (by rw [e1]; simp)
 have hlt : ¬ Lib.compareBytes x.path lb ≤ 0:=by
  rcases hc2.last.2 with k | k
  ·rw [k,hk.over]; decide
  ·obtain ⟨m,n,f1,f2,f3⟩:=k.cmp hk
   have hul:=(hun.2 _ hml).1
   simp only [underB,Bool.and_eq_true,List.isPrefixOf_iff_prefix] at hul
   obtain ⟨more,hm⟩:=hul.2
   unfold cmpL at htop
   rw [if_pos hun.1,if_pos hk.1,← hm,f1,f2,List.append_assoc,cn_app,List.cons_append,List.nil_append,cn_cons] at htop
   have hc1 : Lib.compareBytes x.path lb = - Lib.compareBytes m n:=by rw [cb_anti,f3]
   by_cases e : m = n
   ·rw [if_pos e] at htop
    cases more with
    | nil => simp [cmpN] at htop
    | cons a b => simp [cmpN] at htop
   ·rw [if_neg e] at htop
    omega
 refine ⟨if x.kind = 1 then (x.path,x.path) :: (upL x.path,x.path) :: r else (upL x.path,x.path) :: r,?_⟩
 unfold stepV
 rw [e1]
 simp only
 rw [if_neg (fun k => k.elim hlt (fun q => by rw [hd] at q; cases q))]
theorem run_ok (l : List It) (hk : ∀ x ∈ l,Kid (upL x.path) x.path ∧ x.dataB = true) (hs : l.Pairwise fun a b => cmpL a.path b.path < 0) (hu : ∀ x ∈ l,upL x.path = [47] ∨ ∃ y ∈ l,y.path = upL x.path ∧ y.kind = 1) : ∃ st,runV l = some st:=by
 induction l using snoc_ind with
 | nil => exact ⟨_,rfl⟩
 | snoc l x ih =>
  rw [List.pairwise_append] at hs
  have hlt : ∀ a ∈ l,cmpL a.path x.path < 0:=fun a ha => hs.2.2 a ha x (by simp)
  have hup : ∀ z ∈ l ++ [x],(∀ a ∈ l,z = a ∨ cmpL a.path z.path < 0 ∨ cmpL z.path a.path < 0):=by
   intro z hz a ha
   rcases List.mem_append.1 hz with k | k
   ·by_cases e : z = a
    ·exact .inl e
    ·right
     rcases List.mem_iff_getElem.1 k with ⟨i,hi,rfl⟩
     rcases List.mem_iff_getElem.1 ha with ⟨j,hj,rfl⟩
     rcases Nat.lt_trichotomy i j with q | q | q
     ·exact .inr (List.pairwise_iff_getElem.1 hs.1 i j hi hj q)
     ·subst q; exact absurd rfl e
     ·exact .inl (List.pairwise_iff_getElem.1 hs.1 j i hj hi q)
   ·simp at k; subst k; exact .inr (.inl (hlt a ha))
  have key : ∀ z ∈ l ++ [x],upL z.path = [47] ∨ ∃ y ∈ l,y.path = upL z.path ∧ y.kind = 1:=by
   intro z hz
   rcases hu z hz with e | ⟨y,hy,e,q⟩
   ·exact .inl e
   ·rcases List.mem_append.1 hy with k | k
    ·exact .inr ⟨y,k,e,q⟩
    ·simp at k
     subst k
     exfalso
     -- the directory would stand behind what is in it
     have h1 : cmpL (upL z.path) z.path < 0:=by
      have:=up_cmp z.path (hk z hz).1.1 (hk z hz).1.2.1
      omega
     rw [← e] at h1
     rcases List.mem_append.1 hz with k | k
     ·have h2:=hlt z k
      have h3:=cl_anti y.path z.path
      omega
     ·simp at k; subst k
      rw [(cl_zero _ _).2 rfl] at h1
      exact absurd h1 (by decide)
  obtain ⟨st,hst⟩:=ih (fun z hz => hk z (List.mem_append_left _ hz)) hs.1 (fun z hz => key z (List.mem_append_left _ hz))
  obtain ⟨st',hst'⟩:=(good3_run l st hst).go (hk x (by simp)).1 (hk x (by simp)).2 hlt (key x (by simp))
  exact ⟨st',by rw [runV_snoc,hst]; exact hst'⟩
theorem ok_tree {l : List It} (h : TreeOk l) : validT l = true:=by
 unfold validT
 obtain ⟨st,hst⟩:=run_ok l h.kid h.sorted h.up
 rw [decide_eq_true h.many,hst]
 rfl
theorem valid_tree (l : List It) : validT l = true ↔ TreeOk l:=⟨tree_ok,ok_tree⟩
end Go.Proofs.YtigopecainocgaaGreatDoor
namespace Go.Proofs.YtigopecainocgaaGreatDoor
def getI (l : List It) (p : Str) : Option It:=if p = [47] then some .root else l.find? fun x => x.path == p
def trimS (p : Str) : Str:=if p.getLast? = some 47 then p.dropLast else p
def toL (p part : Str) : Str:=trimS p ++ 47 :: part
def stepM (l : List It) (last : Bool) (here : It) (part : Str) (rest : List Str) (hops : Nat) : Except Int (It × List Str × Nat) :=
 if part = [] ∨ part = [46] then .ok (here,rest,hops)
 else if part = [46,46] then .ok ((getI l (upL here.path)).getD .nil,rest,hops)
 else match getI l (toL here.path part) with
  | none => .error 4
  | some x =>
   if x.kind = 2 ∧ rest ≠ [] then .error 161
   else if x.kind = 3 ∧ (rest ≠ [] ∨ last = true) then (if hops = 40 then .error 170 else .ok (if x.data.head? = some 47 then .root else here,cutP x.data ++ rest,hops + 1))
   else .ok (x,rest,hops)
def mM (rest : List Str) (hops : Nat) : Nat:=rest.length + (40 - hops) * 2001
/-! ### What stands in a tree -/
theorem find_mem {l : List It} {p : Str} {x : It} (h : l.find? (fun x => x.path == p) = some x) : x ∈ l ∧ x.path = p:=⟨List.mem_of_find?_eq_some h,by simpa using List.find?_some h⟩
theorem TreeOk.one {l : List It} (h : TreeOk l) {x y : It} (hx : x ∈ l) (hy : y ∈ l) (e : x.path = y.path) : x = y:=by
 rcases List.mem_iff_getElem.1 hx with ⟨i,hi,rfl⟩
 rcases List.mem_iff_getElem.1 hy with ⟨j,hj,rfl⟩
 rcases Nat.lt_trichotomy i j with q | q | q
 ·have:=List.pairwise_iff_getElem.1 h.sorted i j hi hj q
  rw [e,(cl_zero _ _).2 rfl] at this
  exact absurd this (by decide)
 ·subst q; rfl
 ·have:=List.pairwise_iff_getElem.1 h.sorted j i hj hi q
  rw [e,(cl_zero _ _).2 rfl] at this
  exact absurd this (by decide)
theorem TreeOk.find {l : List It} (h : TreeOk l) {x : It} (hx : x ∈ l) : l.find? (fun y => y.path == x.path) = some x:=by
 cases e : l.find? (fun y => y.path == x.path) with
 | none => have:=List.find?_eq_none.1 e x hx; simp at this
 | some y =>
  obtain ⟨hy,hp⟩:=find_mem e
  rw [h.one hy hx hp]
theorem TreeOk.get {l : List It} (h : TreeOk l) {x : It} (hx : x ∈ l) : getI l x.path = some x:=by
 unfold getI
 rw [if_neg (h.kid x hx).1.2.1]
 exact h.find hx
theorem get_root (l : List It) : getI l [47] = some .root:=by simp [getI]
def Here (l : List It) (x : It) : Prop:=x = .root ∨ x ∈ l
theorem get_here {l : List It} {p : Str} {x : It} (h : getI l p = some x) : Here l x ∧ x.path = p:=by
 unfold getI at h
 split at h
 ·rename_i e; cases h; exact ⟨.inl rfl,e.symm⟩
 ·exact ⟨.inr (find_mem h).1,(find_mem h).2⟩
theorem Here.valid {l : List It} (h : TreeOk l) {x : It} (hx : Here l x) : validB x.path = true:=by
 rcases hx with rfl | hx
 ·exact validB_root
 ·exact (h.kid x hx).1.1
theorem Here.kinds {l : List It} (h : TreeOk l) {x : It} (hx : Here l x) : x.kind = 1 ∨ x.kind = 2 ∨ x.kind = 3:=by
 rcases hx with rfl | hx
 ·exact .inl rfl
 ·have:=(h.kid x hx).2
  unfold It.dataB at this
  by_cases h1 : x.kind = 1
  ·exact .inl h1
  ·by_cases h2 : x.kind = 2
   ·exact .inr (.inl h2)
   ·by_cases h3 : x.kind = 3
    ·exact .inr (.inr h3)
    ·rw [if_neg h1,if_neg h2,if_neg h3] at this; cases this
theorem Here.link {l : List It} (h : TreeOk l) {x : It} (hx : Here l x) (hk : x.kind = 3) : x.data.length ≤ 2000:=by
 rcases hx with rfl | hx
 ·exact absurd hk (by decide)
 ·have:=(h.kid x hx).2
  unfold It.dataB at this
  rw [if_neg (by omega),if_neg (by omega),if_pos hk,decide_eq_true_iff] at this
  exact this.2
theorem Here.up {l : List It} (h : TreeOk l) {x : It} (hx : Here l x) : ∃ y,getI l (upL x.path) = some y ∧ y.kind = 1 ∧ Here l y:=by
 rcases hx with rfl | hx
 ·exact ⟨.root,by show getI l (upL [47]) = _; rw [up_root]; exact get_root l,rfl,.inl rfl⟩
 ·rcases h.up x hx with e | ⟨y,hy,e,k⟩
  ·exact ⟨.root,by rw [e]; exact get_root l,rfl,.inl rfl⟩
  ·exact ⟨y,by rw [← e]; exact h.get hy,k,.inr hy⟩
theorem cut_len (s : Str) : (cutP s).length ≤ s.length + 1:=by
 rw [cutP_count]
 have:=List.count_le_length (a:=(47 : UInt8)) (l:=s)
 omega
/-! ### A step -/
structure Stand (l : List It) (last : Bool) (it : It) (rest : List Str) (n : Nat) : Prop where
 here : Here l it
 dir : rest ≠ [] → it.kind = 1
 link : last = true → it.kind ≠ 3
 hops : n ≤ 40
theorem Stand.step {l : List It} (h : TreeOk l) {last : Bool} {here : It} {part : Str} {rest : List Str} {hops : Nat} {r : It × List Str × Nat} (hs : Stand l last here (part :: rest) hops) (he : stepM l last here part rest hops = .ok r) :
  Stand l last r.1 r.2.1 r.2.2 ∧ mM r.2.1 r.2.2 < mM (part :: rest) hops:=by
 have hd:=hs.dir (by simp)
 unfold stepM at he
 split at he
 ·cases he
  exact ⟨⟨hs.here,fun _ => hd,hs.link,hs.hops⟩,by simp [mM]⟩
 ·split at he
  ·cases he
   obtain ⟨y,e,k,hy⟩:=hs.here.up h
   simp only [e,Option.getD_some]
   exact ⟨⟨hy,fun _ => k,fun _ => by rw [k]; decide,hs.hops⟩,by simp [mM]⟩
  ·split at he
   ·cases he
   ·rename_i x hx
    obtain ⟨hh,hp⟩:=get_here hx
    split at he
    ·cases he
    ·rename_i h2
     split at he
     ·rename_i h3
      split at he
      ·cases he
      ·rename_i h4
       cases he
       have hl:=hh.link h h3.1
       have hc:=cut_len x.data
       have ho:=hs.hops
       refine ⟨⟨?_,fun _ => ?_,fun _ => ?_,by show hops + 1 ≤ 40; omega⟩,?_⟩
       ·show Here l (if x.data.head? = some 47 then .root else here)
        split
        ·exact .inl rfl
        ·exact hs.here
       ·show (if x.data.head? = some 47 then It.root else here).kind = 1
        split
        ·rfl
        ·exact hd
       ·show (if x.data.head? = some 47 then It.root else here).kind ≠ 3
        split
        ·decide
        ·rw [hd]; decide
       ·show mM (cutP x.data ++ rest) (hops + 1) < _
        simp only [mM,List.length_append,List.length_cons]
        have : (40 - hops) = (40 - (hops + 1)) + 1:=by omega
        rw [this,Nat.add_mul]
        omega
     ·rename_i h3
      cases he
      refine ⟨⟨hh,fun hr => ?_,fun hl => ?_,hs.hops⟩,by simp [mM]⟩
      ·rcases hh.kinds h with k | k | k
       ·exact k
       ·exact absurd ⟨k,hr⟩ h2
       ·exact absurd ⟨k,.inl hr⟩ h3
      ·intro k
       exact h3 ⟨k,.inr hl⟩
/-! ### Its own path leads to it -/
theorem anc {l : List It} (h : TreeOk l) (more : List Str) : ∀ (pre : List Str) (x : It),Here l x → namesL x.path = pre ++ more → more ≠ [] → ∃ y,getI l (joinL pre) = some y ∧ y.kind = 1 ∧ Here l y:=by
 induction more using snoc_ind with
 | nil => intro pre x hx hn h0; exact absurd rfl h0
 | snoc m z ih =>
  intro pre x hx hn _
  obtain ⟨y,e,k,hy⟩:=hx.up h
  have hv:=hx.valid h
  have hun:=up_valid x.path hv
  have hny : namesL (upL x.path) = pre ++ m:=by rw [hun.2,hn,← List.append_assoc,List.dropLast_concat]
  have hpath:=(get_here e).2
  by_cases hm : m = []
  ·subst hm
   rw [List.append_nil] at hny
   refine ⟨y,?_,k,hy⟩
   rw [← hny,(valid_join _ hun.1).1]
   exact e
  ·exact ih pre y hy (by rw [hpath]; exact hny) hm
/-! ### Without links -/
end Go.Proofs.YtigopecainocgaaGreatDoor
namespace Go.Proofs.YtigopecainocgaaGreatDoor
abbrev Srt (l : List It) : Prop:=l.Pairwise fun a b => cmpL a.path b.path < 0
def idxL (l : List It) (p : Str) : Nat:=(l.takeWhile fun x => decide (cmpL x.path p < 0)).length
def hasL (l : List It) (p : Str) : Bool:=match l[idxL l p]? with
 | some x => x.path == p
 | none => false
def takeL (l : List It) (p : Str) (n : Nat) : List It:=l.take (idxL l p) ++ l.drop (idxL l p + n)
def oneL (l : List It) (p : Str) : Nat:=if hasL l p = true then 1 else 0
def putL (l m : List It) (p : Str) : List It:=l.take (idxL l p) ++ m ++ l.drop (idxL l p + oneL l p)
def belowL (l : List It) (p : Str) : List It:=(l.drop (idxL l p + oneL l p)).takeWhile fun x => underB x.path p
theorem cl_self (a : Str) : cmpL a a = 0:=(cl_zero a a).2 rfl
theorem cl_irr {a : Str} (h : cmpL a a < 0) : False:=by rw [cl_self] at h; omega
theorem cl_ne {a b : Str} (h : cmpL a b < 0) : a ≠ b:=fun e => by subst e; exact cl_irr h
theorem split_idx (l : List It) (p : Str) (hs : Srt l) : ∃ A B,l = A ++ B ∧ idxL l p = A.length ∧ (∀ a ∈ A,cmpL a.path p < 0) ∧ (∀ b ∈ B,0 ≤ cmpL b.path p):=by
 induction l with
 | nil => exact ⟨[],[],rfl,rfl,by simp,by simp⟩
 | cons x l ih =>
  replace hs:=List.pairwise_cons.1 hs
  by_cases h : cmpL x.path p < 0
  ·obtain ⟨A,B,e1,e2,e3,e4⟩:=ih hs.2
   refine ⟨x :: A,B,by rw [e1]; rfl,?_,?_,e4⟩
   ·unfold idxL at *
    rw [List.takeWhile_cons,if_pos (by simpa using h),List.length_cons,e2,List.length_cons]
   ·intro a ha
    rcases List.mem_cons.1 ha with rfl | ha
    ·exact h
    ·exact e3 a ha
  ·refine ⟨[],x :: l,rfl,by unfold idxL; rw [List.takeWhile_cons,if_neg (by simpa using h)],by simp,fun b hb => ?_⟩
   rcases List.mem_cons.1 hb with rfl | hb
   ·omega
   ·have:=hs.1 b hb
    by_cases hb0 : cmpL b.path p < 0
    ·exact absurd (cl_lt_trans this hb0) h
    ·omega
structure Pl (l : List It) (p : Str) (A B : List It) : Prop where
 idx : idxL l p = A.length
 low : ∀ a ∈ A,cmpL a.path p < 0
 high : ∀ b ∈ B,cmpL p b.path < 0
theorem place (l : List It) (p : Str) (hs : Srt l) : ∃ A B,Pl l p A B ∧ ((hasL l p = false ∧ l = A ++ B) ∨ ∃ x,hasL l p = true ∧ x.path = p ∧ l = A ++ x :: B):=by
 obtain ⟨A,B,e1,e2,e3,e4⟩:=split_idx l p hs
 cases B with
 | nil =>
  refine ⟨A,[],⟨e2,e3,by simp⟩,.inl ⟨?_,e1⟩⟩
  unfold hasL
  rw [e2,e1,List.append_nil,List.getElem?_eq_none (Nat.le_refl _)]
 | cons x B =>
  have hg : l[idxL l p]? = some x:=by rw [e2,e1]; simp
  have hp0 : Srt (A ++ x :: B):=e1 ▸ hs
  have hp1:=List.pairwise_append.1 hp0
  have hp:=And.intro hp1.1 (And.intro (List.pairwise_cons.1 hp1.2.1) hp1.2.2)
  by_cases hx : x.path = p
  ·refine ⟨A,B,⟨e2,e3,fun b hb => ?_⟩,.inr ⟨x,?_,hx,e1⟩⟩
   ·rw [← hx]; exact hp.2.1.1 b hb
   ·unfold hasL; rw [hg]; simpa using hx
  ·have hpx : cmpL p x.path < 0:=by
    have h1:=e4 x (by simp)
    have h2:=cl_anti p x.path
    have h3 : cmpL x.path p ≠ 0:=fun e => hx ((cl_zero _ _).1 e)
    omega
   refine ⟨A,x :: B,⟨e2,e3,fun b hb => ?_⟩,.inl ⟨?_,e1⟩⟩
   ·rcases List.mem_cons.1 hb with rfl | hb
    ·exact hpx
    ·exact cl_lt_trans hpx (hp.2.1.1 b hb)
   ·unfold hasL; rw [hg]; simpa using hx
theorem Pl.no {l A B : List It} {p : Str} (h : Pl l p A B) (hh : hasL l p = false) (e : l = A ++ B) : (∀ m,putL l m p = A ++ m ++ B) ∧ l.drop (idxL l p + oneL l p) = B ∧ l.take (idxL l p) = A:=by
 have h1 : oneL l p = 0:=by unfold oneL; rw [if_neg (by simp [hh])]
 have h2 : l.take (idxL l p) = A:=by rw [h.idx,e,List.take_left]
 have h3 : l.drop (idxL l p + oneL l p) = B:=by rw [h1,Nat.add_zero,h.idx,e,List.drop_left]
 exact ⟨fun m => by unfold putL; rw [h2,h3],h3,h2⟩
theorem Pl.yes {l A B : List It} {p : Str} {x : It} (h : Pl l p A B) (hh : hasL l p = true) (e : l = A ++ x :: B) : (∀ m,putL l m p = A ++ m ++ B) ∧ l.drop (idxL l p + oneL l p) = B ∧ l.take (idxL l p) = A ∧ l[idxL l p]? = some x ∧ ∀ n,takeL l p (n + 1) = A ++ B.drop n:=by
 have h1 : oneL l p = 1:=by unfold oneL; rw [if_pos hh]
 have h2 : l.take (idxL l p) = A:=by rw [h.idx,e,List.take_left]
 have h4 : ∀ n,l.drop (idxL l p + (n + 1)) = B.drop n:=by
  intro n
  rw [h.idx,e,show A.length + (n + 1) = (A ++ [x]).length + n by simp; omega,show A ++ x :: B = (A ++ [x]) ++ B by simp,← List.drop_drop,List.drop_left]
 have h3 : l.drop (idxL l p + oneL l p) = B:=by rw [h1]; exact (h4 0).trans (by simp)
 exact ⟨fun m => by unfold putL; rw [h2,h3],h3,h2,by rw [h.idx,e]; simp,fun n => by unfold takeL; rw [h2,h4]⟩
theorem tw_mem {α : Type} {q : α → Bool} {l : List α} {x : α} (h : x ∈ l.takeWhile q) : q x = true ∧ x ∈ l:=by
 induction l with
 | nil => cases h
 | cons y l ih =>
  rw [List.takeWhile_cons] at h
  by_cases hy : q y = true
  ·rw [if_pos hy] at h
   rcases List.mem_cons.1 h with rfl | h
   ·exact ⟨hy,by simp⟩
   ·exact ⟨(ih h).1,List.mem_cons_of_mem _ (ih h).2⟩
  ·rw [if_neg hy] at h; cases h
theorem tw_under {B : List It} {p : Str} (hs : Srt B) (hp : ∀ b ∈ B,cmpL p b.path < 0) : ∀ r ∈ B.dropWhile (fun x => underB x.path p),underB r.path p = false:=by
 induction B with
 | nil => intro r hr; cases hr
 | cons y B ih =>
  replace hs:=List.pairwise_cons.1 hs
  intro r hr
  rw [List.dropWhile_cons] at hr
  by_cases hy : underB y.path p = true
  ·rw [if_pos hy] at hr
   exact ih hs.2 (fun b hb => hp b (List.mem_cons_of_mem _ hb)) r hr
  ·rw [if_neg hy] at hr
   rcases List.mem_cons.1 hr with rfl | hr
   ·exact Bool.eq_false_iff.2 hy
   ·by_cases hu : underB r.path p = true
    ·have h1:=hp y (by simp)
     have h2:=hs.1 r hr
     exact absurd (cl_between p r.path y.path hu (by omega) (by omega)) hy
    ·exact Bool.eq_false_iff.2 hu
theorem under_ge {a p : Str} (h : cmpL a p < 0) : underB a p = false:=by
 by_cases hu : underB a p = true
 ·have h1:=cl_under p a hu
  have h2:=cl_anti a p
  omega
 ·exact Bool.eq_false_iff.2 hu
structure Blk (l : List It) (p : Str) (A U R : List It) : Prop where
 idx : idxL l p = A.length
 below : belowL l p = U
 low : ∀ a ∈ A,cmpL a.path p < 0
 mid : ∀ u ∈ U,underB u.path p = true ∧ u.path ≠ p
 high : ∀ r ∈ R,cmpL p r.path < 0 ∧ underB r.path p = false
theorem block (l : List It) (p : Str) (hs : Srt l) : ∃ A U R,Blk l p A U R ∧ ((hasL l p = false ∧ l = A ++ U ++ R) ∨ ∃ x,hasL l p = true ∧ x.path = p ∧ l = A ++ x :: (U ++ R)):=by
 obtain ⟨A,B,hP,hc⟩:=place l p hs
 have hB : Srt B:=by
  rcases hc with ⟨_,e⟩ | ⟨x,_,_,e⟩
  ·rw [e] at hs; exact (List.pairwise_append.1 hs).2.1
  ·rw [e] at hs; exact (List.pairwise_cons.1 (List.pairwise_append.1 hs).2.1).2
 have hd : l.drop (idxL l p + oneL l p) = B:=by
  rcases hc with ⟨h,e⟩ | ⟨x,h,_,e⟩
  ·exact (hP.no h e).2.1
  ·exact (hP.yes h e).2.1
 have hsp : B = B.takeWhile (fun x => underB x.path p) ++ B.dropWhile (fun x => underB x.path p):=List.takeWhile_append_dropWhile.symm
 refine ⟨A,B.takeWhile (fun x => underB x.path p),B.dropWhile (fun x => underB x.path p),⟨hP.idx,by unfold belowL; rw [hd],hP.low,fun u hu => ?_,fun r hr => ⟨hP.high r ?_,tw_under hB hP.high r hr⟩⟩,?_⟩
 ·have h1:=tw_mem hu
  exact ⟨h1.1,(cl_ne (hP.high u h1.2)).symm⟩
 ·rw [hsp]; exact List.mem_append_right _ hr
 ·rcases hc with ⟨h,e⟩ | ⟨x,h,hx,e⟩
  ·exact .inl ⟨h,by rw [List.append_assoc,← hsp]; exact e⟩
  ·exact .inr ⟨x,h,hx,by rw [← hsp]; exact e⟩
theorem below_mem {l : List It} (hs : Srt l) (p : Str) (y : It) : y ∈ belowL l p ↔ y ∈ l ∧ underB y.path p = true ∧ y.path ≠ p:=by
 obtain ⟨A,U,R,hb,hc⟩:=block l p hs
 rw [hb.below]
 constructor
 ·intro hy
  refine ⟨?_,hb.mid y hy⟩
  rcases hc with ⟨_,e⟩ | ⟨x,_,_,e⟩
  ·rw [e]; simp [hy]
  ·rw [e]; simp [hy]
 ·rintro ⟨h1,h2,h3⟩
  have hA : y ∉ A:=fun h => by have:=under_ge (hb.low y h); rw [h2] at this; cases this
  have hR : y ∉ R:=fun h => by have:=(hb.high y h).2; rw [h2] at this; cases this
  rcases hc with ⟨_,e⟩ | ⟨x,_,hx,e⟩
  ·rw [e] at h1
   simp only [List.mem_append] at h1
   rcases h1 with (h | h) | h
   ·exact absurd h hA
   ·exact h
   ·exact absurd h hR
  ·rw [e] at h1
   simp only [List.mem_append,List.mem_cons] at h1
   rcases h1 with h | h | h | h
   ·exact absurd h hA
   ·subst h; exact absurd hx h3
   ·exact h
   ·exact absurd h hR
/-! ### What stands at a path -/
theorem has_get {l : List It} (hs : Srt l) {p : Str} (hp : p ≠ [47]) : getI l p = if hasL l p = true then l[idxL l p]? else none:=by
 unfold getI
 rw [if_neg hp]
 obtain ⟨A,B,hP,hc⟩:=place l p hs
 have hA : A.find? (fun x => x.path == p) = none:=by
  rw [List.find?_eq_none]
  intro a ha
  have:=cl_ne (hP.low a ha)
  simpa using this
 have hB : B.find? (fun x => x.path == p) = none:=by
  rw [List.find?_eq_none]
  intro b hb
  have:=(cl_ne (hP.high b hb)).symm
  simpa using this
 rcases hc with ⟨h,e⟩ | ⟨x,h,hx,e⟩
 ·rw [if_neg (by simp [h])]
  conv => lhs; rw [e]
  rw [List.find?_append,hA,hB]; rfl
 ·rw [if_pos h,(hP.yes h e).2.2.2.1]
  conv => lhs; rw [e]
  rw [List.find?_append,hA,List.find?_cons]
  simp [hx]
theorem get_some {l : List It} (hs : Srt l) {p : Str} {x : It} : getI l p = some x ↔ (p = [47] ∧ x = .root) ∨ (p ≠ [47] ∧ x ∈ l ∧ x.path = p):=by
 by_cases hp : p = [47]
 ·subst hp
  rw [get_root]
  constructor
  ·intro h; cases h; exact .inl ⟨rfl,rfl⟩
  ·rintro (⟨_,rfl⟩ | ⟨h,_⟩)
   ·rfl
   ·exact absurd rfl h
 ·rw [has_get hs hp]
  obtain ⟨A,B,hP,hc⟩:=place l p hs
  have hA : ∀ a ∈ A,a.path ≠ p:=fun a ha => cl_ne (hP.low a ha)
  have hB : ∀ a ∈ B,a.path ≠ p:=fun a ha => (cl_ne (hP.high a ha)).symm
  rcases hc with ⟨h,e⟩ | ⟨y,h,hy,e⟩
  ·rw [if_neg (by simp [h])]
   refine ⟨fun k => (by cases k),?_⟩
   rintro (⟨k,_⟩ | ⟨_,k,q⟩)
   ·exact absurd k hp
   ·rw [e,List.mem_append] at k
    rcases k with k | k
    ·exact absurd q (hA x k)
    ·exact absurd q (hB x k)
  ·rw [if_pos h,(hP.yes h e).2.2.2.1]
   constructor
   ·intro k; cases k; exact .inr ⟨hp,by rw [e]; simp,hy⟩
   ·rintro (⟨k,_⟩ | ⟨_,k,q⟩)
    ·exact absurd k hp
    ·rw [e,List.mem_append,List.mem_cons] at k
     rcases k with k | k | k
     ·exact absurd q (hA x k)
     ·rw [k]
     ·exact absurd q (hB x k)
theorem get_none {l : List It} {p : Str} : getI l p = none ↔ p ≠ [47] ∧ ∀ x ∈ l,x.path ≠ p:=by
 unfold getI
 by_cases hp : p = [47]
 ·rw [if_pos hp]; simp [hp]
 ·rw [if_neg hp,List.find?_eq_none]; simp [hp]
theorem has_none {l : List It} (hs : Srt l) {p : Str} (h : getI l p = none) : hasL l p = false:=by
 have hp:=(get_none.1 h).1
 rw [has_get hs hp] at h
 by_cases hh : hasL l p = true
 ·rw [if_pos hh] at h
  obtain ⟨A,B,hP,hc⟩:=place l p hs
  rcases hc with ⟨k,_⟩ | ⟨y,k,hy,e⟩
  ·exact k
  ·rw [(hP.yes k e).2.2.2.1] at h; cases h
 ·exact Bool.eq_false_iff.2 hh
theorem has_some {l : List It} (hs : Srt l) {p : Str} {x : It} (h : getI l p = some x) (hp : p ≠ [47]) : hasL l p = true:=by
 rw [has_get hs hp] at h
 by_cases hh : hasL l p = true
 ·exact hh
 ·rw [if_neg hh] at h; cases h
theorem srt_ext {a b : List It} (ha : Srt a) (hb : Srt b) (h : ∀ x,x ∈ a ↔ x ∈ b) : a = b:=by
 induction a generalizing b with
 | nil =>
  cases b with
  | nil => rfl
  | cons y b => exact absurd ((h y).2 (by simp)) (by simp)
 | cons x a ih =>
  cases b with
  | nil => exact absurd ((h x).1 (by simp)) (by simp)
  | cons y b =>
   replace ha:=List.pairwise_cons.1 ha
   replace hb:=List.pairwise_cons.1 hb
   have hxy : x = y:=by
    by_cases e : x = y
    ·exact e
    ·have h1 : x ∈ b:=by
      rcases List.mem_cons.1 ((h x).1 (by simp)) with k | k
      ·exact absurd k e
      ·exact k
     have h2 : y ∈ a:=by
      rcases List.mem_cons.1 ((h y).2 (by simp)) with k | k
      ·exact absurd k.symm e
      ·exact k
     exact absurd (cl_lt_trans (hb.1 x h1) (ha.1 y h2)) (fun k => cl_irr k)
   subst hxy
   congr 1
   refine ih ha.2 hb.2 fun z => ⟨fun hz => ?_,fun hz => ?_⟩
   ·rcases List.mem_cons.1 ((h z).1 (List.mem_cons_of_mem _ hz)) with k | k
    ·subst k; exact absurd (ha.1 z hz) (fun k => cl_irr k)
    ·exact k
   ·rcases List.mem_cons.1 ((h z).2 (List.mem_cons_of_mem _ hz)) with k | k
    ·subst k; exact absurd (hb.1 z hz) (fun k => cl_irr k)
    ·exact k
/-! ### Operations -/
structure Opn where
 kind : Int
 path : Str
 to : Str
 data : Str
def mostM (k : Int) : Nat:=if k = 2 ∨ k = 3 then 524288 else if k = 4 then 2000 else 0
def leastM (k : Int) : Nat:=if k = 4 then 1 else 0
def checkM (o : Opn) : Int :=
 if o.kind < 1 ∨ 7 < o.kind then 2
 else if (o.kind ≠ 5 ∧ o.to ≠ []) ∨ (mostM o.kind = 0 ∧ o.data ≠ []) ∨ o.data.length < leastM o.kind then 2
 else if validB o.path = false ∨ (o.kind = 5 ∧ validB o.to = false) then 110
 else if mostM o.kind < o.data.length then 3 else 0
def openM (l : List It) (p : Str) : Int:=match getI l (upL p) with
 | none => 4
 | some d => if d.kind = 1 then 0 else 161
def addM (l : List It) (x : It) : Except Int (List It) :=
 if openM l x.path ≠ 0 then .error (openM l x.path)
 else if (getI l x.path).isSome then .error 5
 else if l.length = 2000 then .error 6
 else .ok (putL l [x] x.path)
def writeM (l : List It) (p d : Str) : Except Int (List It) :=
 if openM l p ≠ 0 then .error (openM l p)
 else match getI l p with
  | some x => if x.kind = 2 then .ok (putL l [⟨p,2,d⟩] p) else .error 161
  | none => if l.length = 2000 then .error 6 else .ok (putL l [⟨p,2,d⟩] p)
def extendM (l : List It) (p d : Str) : Except Int (List It):=match getI l p with
 | none => .error 4
 | some x => if x.kind ≠ 2 then .error 161 else if 524288 < x.data.length + d.length then .error 3 else .ok (putL l [⟨p,2,x.data ++ d⟩] p)
def newN (frm to q : Str) : List Str:=namesL to ++ (namesL q).drop (namesL frm).length
def newI (frm to : Str) (y : It) : It:=⟨joinL (newN frm to y.path),y.kind,y.data⟩
def movedM (l : List It) (frm to : Str) (x : It) : List It:=⟨to,x.kind,x.data⟩ :: (belowL l frm).map (newI frm to)
def fitsM (l : List It) (frm to : Str) : Bool:=(belowL l frm).all fun y => partsB (newN frm to y.path)
def moveM (l : List It) (frm to : Str) : Except Int (List It):=match getI l frm with
 | none => .error 4
 | some x =>
  if underB to frm = true then .error 2
  else if openM l to ≠ 0 then .error (openM l to)
  else if (getI l to).isSome then .error 5
  else if fitsM l frm to = false then .error 110
  else .ok (putL (takeL l frm ((belowL l frm).length + 1)) (movedM l frm to x) to)
def unlinkM (l : List It) (p : Str) : Except Int (List It):=match getI l p with
 | none => .error 4
 | some x => if x.kind = 1 then .error 161 else .ok (takeL l p 1)
def rmdirM (l : List It) (p : Str) : Except Int (List It):=match getI l p with
 | none => .error 4
 | some x => if x.kind ≠ 1 then .error 161 else if x = .root ∨ belowL l p ≠ [] then .error 162 else .ok (takeL l p 1)
def doesM (l : List It) (o : Opn) : Except Int (List It) :=
 if o.kind = 1 then addM l ⟨o.path,1,[]⟩
 else if o.kind = 2 then writeM l o.path o.data
 else if o.kind = 3 then extendM l o.path o.data
 else if o.kind = 4 then addM l ⟨o.path,3,o.data⟩
 else if o.kind = 5 then moveM l o.path o.to
 else if o.kind = 6 then unlinkM l o.path
 else rmdirM l o.path
def actM (l : List It) (o : Opn) : Except Int (List It):=if checkM o ≠ 0 then .error (checkM o) else doesM l o
def runM : List It → List Opn → List It × Nat × Int
 | l,[] => (l,0,0)
 | l,o :: r => match actM l o with
  | .error e => (l,0,e)
  | .ok l' => ((runM l' r).1,(runM l' r).2.1 + 1,(runM l' r).2.2)
end Go.Proofs.YtigopecainocgaaGreatDoor
