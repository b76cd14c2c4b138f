/- Proved here: slices.Insert of rows of items that are the caller's own. -/
import Derived.Test.YtigopecainocgaaGreatDoorNA
import Derived.Shelf.Spec.SlicesInsertGrow
set_option maxRecDepth 100000
set_option maxHeartbeats 32000000
namespace Go.Proofs.YtigopecainocgaaGreatDoor
open Go.RowKit Go.Shelf
def OwnI (w : World) (B : Nat) (v : Value) (l : List It) : Prop:=w.ownsRow B 59 3 v l.length (flatI l)
theorem OwnI.rd {w : World} {B : Nat} {v : Value} {l : List It} (h : OwnI w B v l) : RdI w v l:=RdF.of_own h
theorem run_copy_rowS {P : Program} (w : World) (dT sT ty elem : TypeId) (s g o dLen dCap : Nat) (a : Addr) (sLen sCap : Nat) (cur : Array Value) (t : TypeId) (cs : List Value)
  (hu : P.underlying dT = some (.slice elem)) (hs : (P.info? elem).map (·.size) = some s)
  (hg : w.heap[g]? = some (.cells cur t (0,0))) (k : Nat) (hk : Nat.min sLen dLen = k) (hn : cs.length = k * s)
  (hsrc : ∀ j v,cs[j]? = some v → w.cell? (a.add j) = some v) (hfit : o + cs.length ≤ cur.size) (h1 : ∀ v ∈ cs,v.oneCell' = true) :
  (Builtin.copy_ #[dT,sT] ty #[.slice (some ⟨g,o,none⟩) dLen dCap,.slice (some a) sLen sCap]).run P w =
   .ok (goInt k) (w.setRow g (cur.toList.take o ++ cs ++ cur.toList.drop (o + cs.length)).toArray):=by
 have hl:=run_firstCells_some (P:=P) w s k a sLen sCap cs hn hsrc
 have hst:=run_storeCells_at P g o t cs 0 cur w hg (by simpa using hfit) h1
 simp only [Nat.add_zero] at hst
 cases hq : P.info? elem with
 | none => simp [hq] at hs
 | some i =>
  have hi : i.size = s:=by simpa [hq] using hs
  simp only [Builtin.copy_,List.getElem?_toArray,List.getElem?_cons_zero,List.getElem?_cons_succ,Sem.run_bind,Sem.run_pure,run_underlying hu,Builtin.lenOf,sizeOf,typeInfo,Result.andThen_ok]
  simp [hi,hk,hl,hst,hq]
theorem splice_take {α : Type} (C X : List α) (a b : Nat) (h : b ≤ a) (hl : a ≤ C.length) : (C.take a ++ X ++ C.drop (a + X.length)).take b = C.take b:=by
 rw [List.append_assoc,List.take_append_of_le_length (by rw [List.length_take]; omega),List.take_take,Nat.min_eq_left h]
theorem splice_drop {α : Type} (C X : List α) (a : Nat) (hl : a ≤ C.length) : (C.take a ++ X ++ C.drop (a + X.length)).drop a = X ++ C.drop (a + X.length):=by
 rw [List.append_assoc,List.drop_append_of_le_length (by rw [List.length_take]; omega)]
 rw [List.drop_of_length_le (by rw [List.length_take]; omega),List.nil_append]
theorem splice_len {α : Type} (C X : List α) (a : Nat) (hl : a + X.length ≤ C.length) : (C.take a ++ X ++ C.drop (a + X.length)).length = C.length:=by
 simp only [List.length_append,List.length_take,List.length_drop]; omega
theorem splice_two {α : Type} (C F D M : List α) (a : Nat) (ha : F.length = a) (hC : C.take (a + D.length) = F ++ D) (hl : a + M.length + D.length ≤ C.length) :
  let C1:=C.take (a + M.length) ++ D ++ C.drop (a + M.length + D.length)
  let C2:=C1.take a ++ M ++ C1.drop (a + M.length)
  C1.length = C.length ∧ C2.length = C.length ∧ C2.take (a + M.length + D.length) = F ++ M ++ D:=by
 intro C1 C2
 have h1 : C1.length = C.length:=splice_len C D (a + M.length) (by omega)
 have h2 : C2.length = C.length:=by
  show (C1.take a ++ M ++ C1.drop (a + M.length)).length = _
  rw [splice_len C1 M a (by omega),h1]
 refine ⟨h1,h2,?_⟩
 have e1 : C1.take a = F:=by
  show (C.take (a + M.length) ++ D ++ C.drop (a + M.length + D.length)).take a = F
  rw [splice_take C D (a + M.length) a (by omega) (by omega)]
  have : C.take a = (C.take (a + D.length)).take a:=by rw [List.take_take,Nat.min_eq_left (by omega)]
  rw [this,hC,List.take_append_of_le_length (by omega),List.take_of_length_le (by omega)]
 have e2 : C1.drop (a + M.length) = D ++ C.drop (a + M.length + D.length):=splice_drop C D (a + M.length) (by omega)
 show (C1.take a ++ M ++ C1.drop (a + M.length)).take _ = _
 rw [e1,e2,← List.append_assoc]
 rw [List.take_append_of_le_length (by simp only [List.length_append]; omega),List.take_of_length_le (by simp only [List.length_append]; omega)]
def InsR (B : Nat) (v : Value) (l : List It) (w : World) (e : Ending) (w' : World) : Prop :=
 ∃ v',e = .returned v' ∧ OwnI w' B v' l ∧ w.grownBy w' v.ownBlock ∧ (v'.ownBlock = v.ownBlock ∨ ∀ k,v'.ownBlock = some k → w.heap.size ≤ k)
theorem ins_end (l m : List It) (v : Value) (g o mc B : Nat) (w : World) (h : OwnI w B v l) (hm : 0 < m.length) (hM : ∀ (j : Nat) (u : Value),(flatI m)[j]? = some u → w.cell? ⟨g,o + j,none⟩ = some u)
  (hl : l.length ≤ 100000) (hml : m.length ≤ 100000) (hB : B ≤ w.heap.size) :
  Calls Tryz.prog 101 #[v,.int .i64 l.length,.slice (some ⟨g,o,none⟩) m.length mc] w (InsR B v (l ++ m) w):=by
 obtain ⟨i0,hi,hz0,hz1,hz2⟩:=info_parts info35z
 have hfl:=flatI_len m
 have hnews : ∀ (j : Nat) (u : Value),(flatI m)[j]? = some u → w.cell? ((⟨g,o,none⟩ : Addr).add j) = some u:=fun j u hu => by rw [add_to]; exact hM j u hu
 obtain ⟨a,c,hv,hlc,hcm,_⟩:=h.rd.open
 obtain ⟨n,hn⟩:=nmq (l.length)
 obtain ⟨k,hk⟩:=nmq (m.length)
 have hO : w.ownsRow B 59 3 v n (flatI l):=by rw [hn]; exact h
 rw [← hn] at hv hlc hl ⊢
 rw [← hk] at hm hfl hml ⊢
 unfold maxLen at hcm
 have k1 : ¬ ((k : Int) = 0):=by omega
 have HFL:=hyq hfl
 have HNW:=hyq hnews
 have HO:=hyq hO
 have HN:=hyq hn
 have HK:=hyq hk
 clear h hM hfl hnews hO hn hk
 subst hv
 have fin : ∀ (v' : Value) (w' : World),w'.ownsRow B 59 3 v' (n + k) (flatI l ++ flatI m) → w.grownBy w' (Value.slice a n c).ownBlock → (v'.ownBlock = (Value.slice a n c).ownBlock ∨ v'.ownBlock = some w.heap.size) → InsR B (.slice a n c) (l ++ m) w (.returned v') w':=fun v' w' h1 h2 h3 => by
  refine ⟨v',rfl,?_,h2,h3.imp id fun e k hk => ?_⟩
  ·unfold OwnI
   rw [List.length_append,← HN.out,← HK.out,flatI_append]
   exact h1
  ·rw [e] at hk; cases hk; exact Nat.le_refl _
 have FIN:=hyq fin
 clear fin
 cases a with
 | none =>
  have h0 : n = 0:=by
   rcases HO.out.2 with ⟨_,h0⟩ | ⟨g',cap,cur,hv',_⟩
   ·exact h0
   ·cases hv'
  subst h0
  go_enter Tryz.func101,Tryz.ntmps101
  go_wp2_with (at_builtin; refine wpList_append_own_at _ rfl _ _ 22 rfl B 59 i0 (.agg It.nil.arr) 3 40 Tryz.underlying22 hi hz0 hz1 hz2 rfl (by decide) _ _ _ rfl HO.out ⟨g,o,none⟩ k mc (flatI m) rfl HFL.out HNW.out (flatI_one m) (by unfold maxLen; omega) (by omega) hB ?_)
  intro v' w1 hown hgrow _ hat
  go_wp2
  go_ret
  exact FIN.out v' w1 (by rw [Nat.zero_add]; exact hown) hgrow hat
 | some ad =>
  have k2 : (n : Int) ≤ (c : Int):=by omega
  go_enter Tryz.func101,Tryz.ntmps101
  go_wp2_with (at_builtin; refine wpList_append_own_at _ rfl _ _ 22 rfl B 59 i0 (.agg It.nil.arr) 3 40 Tryz.underlying22 hi hz0 hz1 hz2 rfl (by decide) _ _ _ rfl HO.out ⟨g,o,none⟩ k mc (flatI m) rfl HFL.out HNW.out (flatI_one m) (by unfold maxLen; omega) (by omega) hB ?_)
  all_goals
   intro v' w1 hown hgrow _ hat
   go_wp2
   go_ret
   exact FIN.out v' w1 hown hgrow hat
end Go.Proofs.YtigopecainocgaaGreatDoor
