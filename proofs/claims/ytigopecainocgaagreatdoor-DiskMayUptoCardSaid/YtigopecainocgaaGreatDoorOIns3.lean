/- Proved here: slices.Insert of rows of items, in the middle of a row that has no room; and, of any row, wherever. -/
import Derived.Test.YtigopecainocgaaGreatDoorOIns2
set_option maxRecDepth 100000
set_option maxHeartbeats 32000000
namespace Go.Proofs.YtigopecainocgaaGreatDoor
open Go.RowKit Go.Shelf
theorem grow_lists {α : Type} (C F M D : List α) (a : Nat) (hF : F.length = a) (hC : C.take a = F) (hl : a + M.length + D.length ≤ C.length) :
  let C1:=C.take a ++ M ++ C.drop (a + M.length)
  let C2:=C1.take (a + M.length) ++ D ++ C1.drop (a + M.length + D.length)
  C1.length = C.length ∧ C2.length = C.length ∧ C2.take (a + M.length + D.length) = F ++ M ++ D:=by
 intro C1 C2
 have h1 : C1.length = C.length:=splice_len C M a (by omega)
 have h2 : C2.length = C.length:=by
  show (C1.take (a + M.length) ++ D ++ C1.drop (a + M.length + D.length)).length = _
  rw [splice_len C1 D (a + M.length) (by omega),h1]
 refine ⟨h1,h2,?_⟩
 have e1 : C1.take (a + M.length) = F ++ M:=by
  show (C.take a ++ M ++ C.drop (a + M.length)).take (a + M.length) = _
  rw [hC,List.take_append_of_le_length (by simp only [List.length_append]; omega),List.take_of_length_le (by simp only [List.length_append]; omega)]
 show (C1.take (a + M.length) ++ D ++ C1.drop (a + M.length + D.length)).take _ = _
 rw [e1,List.take_append_of_le_length (by simp only [List.length_append]; omega),List.take_of_length_le (by simp only [List.length_append]; omega)]
theorem ins_grow (l m : List It) (i b n c g o mc B : Nat) (w : World) (h : OwnI w B (.slice (some ⟨b,0,none⟩) n c) l) (hn : n = l.length) (hi : i < n) (hroom : c < n + m.length) (hm : 0 < m.length)
  (hgw : g < w.heap.size) (hM : ∀ (j : Nat) (u : Value),(flatI m)[j]? = some u → w.cell? ⟨g,o + j,none⟩ = some u) (hl : l.length ≤ 100000) (hml : m.length ≤ 100000) (hB : B ≤ w.heap.size) :
  Calls Tryz.prog 101 #[.slice (some ⟨b,0,none⟩) n c,.int .i64 i,.slice (some ⟨g,o,none⟩) m.length mc] w (InsR B (.slice (some ⟨b,0,none⟩) n c) (l.take i ++ m ++ l.drop i) w):=by
 obtain ⟨k,hk⟩:=nmq (m.length)
 rw [← hn] at hl
 rw [← hk] at hm hroom hml ⊢
 have hbw : b < w.heap.size:=(h.lt b rfl).2
 obtain ⟨-,hc⟩:=h
 rcases hc with ⟨h0,_⟩ | ⟨b',c',cur,hv,hBb,hcells,hnc,hcm,hcs,htk⟩
 ·cases h0
 injection hv with e1 e2 e3
 injection e1 with e1
 injection e1 with e1
 subst e1 e3
 unfold maxLen at hcm
 rw [← hn] at hnc htk
 obtain ⟨i0,hi0,hz0,hzs,hzb⟩:=info_parts info35z
 have hFl : (flatI (l.take i)).length = i * 3:=by rw [flatI_len,List.length_take]; omega
 have hDl : (flatI (l.drop i)).length = (n - i) * 3:=by rw [flatI_len,List.length_drop,hn]
 have hMl : (flatI m).length = k * 3:=by rw [flatI_len,hk]
 have hF : flatI l = flatI (l.take i) ++ flatI (l.drop i):=by rw [← flatI_append,List.take_append_drop]
 have hcur : ∀ j v,(flatI l)[j]? = some v → w.cell? ⟨b,j,none⟩ = some v:=fun j v hj => by
  refine (cell_of_row _ b _ cur 59 (0,0) hcells).trans ?_
  rw [← Array.getElem?_toList]
  have hlt:=(List.getElem?_eq_some_iff.1 hj).1
  rw [flatI_len,← hn] at hlt
  have h1 : cur.toList[j]? = (cur.toList.take (n * 3))[j]?:=by rw [List.getElem?_take,if_pos hlt]
  rw [h1,htk]
  exact hj
 have hik : i + (n + k - i) = n + k:=by omega
 have hkk : (n : Int) + (k : Int) - (i : Int) = ((n + k - i : Nat) : Int):=by omega
 have hold : (Builtin.firstCells i0.size i (.slice (some ⟨b,0,none⟩) i c)).run Tryz.prog w.drew = .ok (flatI (l.take i)).toArray w.drew:=by
  rw [hzs]
  exact run_firstCells_some w.drew 3 i ⟨b,0,none⟩ i c (flatI (l.take i)) hFl (fun j v hj => by
   rw [add_to,Nat.zero_add]
   refine hcur j v ?_
   rw [hF,List.getElem?_append_left (List.getElem?_eq_some_iff.1 hj).1]
   exact hj)
 obtain ⟨G,hG⟩:=nmq (grownCap w (n + k) c 59)
 obtain ⟨ROW,hROW⟩ : ∃ ROW : Array Value,ROW = (flatI (l.take i)).toArray ++ Builtin.zeroCells (Value.agg It.nil.arr).cells (n + k - i) ++ Builtin.zeroCells (Value.agg It.nil.arr).cells (G - (n + k)):=⟨_,rfl⟩
 obtain ⟨W1,hW1⟩:=nmq (w.drew.alloc (.cells ROW 59))
 have hrz : ∀ ty,(Builtin.append_ #[22,3] ty #[.slice (some ⟨b,0,none⟩) i c,.int .i64 ((n : Int) + (k : Int) - (i : Int))]).run Tryz.prog w = .ok (.slice (some ⟨w.heap.size,0,none⟩) (n + k) G) W1:=fun ty => by
  have q:=Lib.run_append_grow_zeros w 22 3 ty 59 i0 _ .i64 .i64 Tryz.underlying22 Tryz.underlying3 hi0 hz0 (some ⟨b,0,none⟩) i c (flatI (l.take i)) hold (n + k - i) (by omega) (by omega) (by omega) (by omega) (by rw [hzb]; omega) (by rw [hzb,hik]; exact growslice_fits hroom (by omega))
  rw [hik,← hG,← hROW,← hW1] at q
  rw [hkk]
  exact q
 have hGn : n + k ≤ G:=by rw [hG]; exact grownCap_ge w _ _ _
 have hG63 : G ≤ 9223372036854775807:=by
  have:=grownCap_le_maxLen w (n + k) c 59 (by unfold maxLen; omega)
  rw [← hG] at this
  unfold maxLen at this
  omega
 have hRs : ROW.size = G * 3:=by
  rw [hROW]
  simp only [Array.size_append,size_zeroCells,List.size_toArray,hFl,show (Value.agg It.nil.arr).cells.size = 3 from rfl]
  omega
 have hRl : ROW.toList.length = G * 3:=by rw [Array.length_toList,hRs]
 have hRt : ROW.toList.take (i * 3) = flatI (l.take i):=by
  rw [hROW]
  simp only [Array.toList_append]
  rw [List.append_assoc,List.take_append_of_le_length (by omega),List.take_of_length_le (by omega)]
 have hsp:=grow_lists ROW.toList (flatI (l.take i)) (flatI m) (flatI (l.drop i)) (i * 3) hFl hRt (by rw [hMl,hDl,hRl]; omega)
 rw [hDl,hMl] at hsp
 obtain ⟨C1,hC1⟩:=nmq (ROW.toList.take (i * 3) ++ flatI m ++ ROW.toList.drop (i * 3 + k * 3))
 obtain ⟨C2,hC2⟩:=nmq (C1.take (i * 3 + k * 3) ++ flatI (l.drop i) ++ C1.drop (i * 3 + k * 3 + (n - i) * 3))
 have hs1 : C1.length = G * 3:=by rw [hC1,← hRl]; exact hsp.1
 have hs2 : C2.length = G * 3:=by rw [hC2,hC1,← hRl]; exact hsp.2.1
 have hs3 : C2.take (i * 3 + k * 3 + (n - i) * 3) = flatI (l.take i) ++ flatI m ++ flatI (l.drop i):=by rw [hC2,hC1]; exact hsp.2.2
 have hN1 : W1.heap[w.heap.size]? = some (.cells ROW 59 (0,0)):=by rw [hW1]; exact heap_alloc_new w.drew _
 have hO1 : ∀ x,x < w.heap.size → W1.heap[x]? = w.heap[x]?:=fun x hx => by rw [hW1]; exact Below.heap_alloc w.drew _ x hx
 obtain ⟨N,hN⟩:=nmq (w.heap.size)
 have hcp1 : ∀ (W : World),(∀ x,W.heap[x]? = W1.heap[x]?) → ∀ ty dc,(Builtin.copy_ #[22,22] ty #[.slice (some ⟨N,i * 3,none⟩) (n + k - i) dc,.slice (some ⟨g,o,none⟩) k mc]).run Tryz.prog W = .ok (goInt k) (W.setRow N C1.toArray):=fun W hW ty dc => by
  have hq:=run_copy_rowS (P:=Tryz.prog) W 22 22 ty 59 3 N (i * 3) (n + k - i) dc ⟨g,o,none⟩ k mc ROW 59 (flatI m) Tryz.underlying22 size35 (by rw [hN,hW]; exact hN1) k (nm_min rfl (by omega)) hMl
   (fun j v hj => by
    rw [add_to]
    rw [show W.cell? ⟨g,o + j,none⟩ = w.cell? ⟨g,o + j,none⟩ from World.cell?_of_block ((hW g).trans (hO1 g hgw))]
    exact hM j v hj) (by rw [hMl,hRs]; omega) (flatI_one _)
  rw [hq,hC1,hMl]
 have hcp2 : ∀ (W : World),(∀ x,W.heap[x]? = (W1.setRow N C1.toArray).heap[x]?) → ∀ ty dc sc,(Builtin.copy_ #[22,22] ty #[.slice (some ⟨N,(i + k) * 3,none⟩) (n + k - (i + k)) dc,.slice (some ⟨b,i * 3,none⟩) (n - i) sc]).run Tryz.prog W = .ok (goInt ((n - i : Nat) : Int)) (W.setRow N C2.toArray):=fun W hW ty dc sc => by
  have hWN : W.heap[N]? = some (.cells C1.toArray 59 (0,0)):=(hW N).trans (setRow_heap W1 N ROW _ 59 _ (by rw [hN]; exact hN1))
  have hWb : W.heap[b]? = w.heap[b]?:=(hW b).trans ((setRow_other W1 N b _ (by omega)).trans (hO1 b hbw))
  have hq:=run_copy_rowS (P:=Tryz.prog) W 22 22 ty 59 3 N ((i + k) * 3) (n + k - (i + k)) dc ⟨b,i * 3,none⟩ (n - i) sc C1.toArray 59 (flatI (l.drop i)) Tryz.underlying22 size35 hWN (n - i) (nm_min rfl (by omega)) hDl
   (fun j v hj => by
    rw [add_to]
    rw [show W.cell? ⟨b,i * 3 + j,none⟩ = w.cell? ⟨b,i * 3 + j,none⟩ from World.cell?_of_block hWb]
    refine hcur _ v ?_
    rw [hF,List.getElem?_append_right (by omega),hFl,Nat.add_sub_cancel_left]
    exact hj) (by rw [hDl,List.size_toArray,hs1]; omega) (flatI_one _)
  rw [hq,hC2,hDl,show (i + k) * 3 = i * 3 + k * 3 by omega]
 have fin : ∀ W : World,(∀ x,x < N → W.heap[x]? = w.heap[x]?) → W.heap[N]? = some (.cells C2.toArray 59 (0,0)) → W.os = w.os → W.tape = w.tape → W.output = w.output → N < W.heap.size → InsR B (.slice (some ⟨b,0,none⟩) n c) (l.take i ++ m ++ l.drop i) w (.returned (.slice (some ⟨N,0,none⟩) (n + k) G)) W:=fun W h1 h2 h3 h4 h5 h6 => by
  have hlen : (l.take i ++ m ++ l.drop i).length = n + k:=by simp only [List.length_append,List.length_take,List.length_drop]; omega
  refine ⟨_,rfl,⟨flatI_len _,.inr ⟨N,G,C2.toArray,?_,by omega,h2,?_,by unfold maxLen; omega,by rw [List.size_toArray,hs2],?_⟩⟩,⟨h3,h4,h5,by omega,fun x hx _ => h1 x (by omega)⟩,.inr fun q hq => ?_⟩
  ·rw [hlen]
  ·rw [hlen]; exact hGn
  ·rw [hlen,flatI_append,flatI_append,← hs3,show (n + k) * 3 = i * 3 + k * 3 + (n - i) * 3 by omega]
  ·cases hq; exact Nat.le_of_eq hN.symm
 have fin2 : InsR B (.slice (some ⟨b,0,none⟩) n c) (l.take i ++ m ++ l.drop i) w (.returned (.slice (some ⟨N,0,none⟩) (n + k) G)) (((W1.setRow N C1.toArray).drew).setRow N C2.toArray):=by
  refine fin _ (fun x hx => ?_) ?_ ?_ ?_ ?_ ?_
  ·exact (setRow_other _ N x _ (by omega)).trans ((setRow_other W1 N x _ (by omega)).trans (hO1 x (by omega)))
  ·exact setRow_heap _ N C1.toArray _ 59 _ (setRow_heap W1 N ROW _ 59 _ (by rw [hN]; exact hN1))
  ·rw [hW1]; rfl
  ·rw [hW1]; rfl
  ·rw [hW1]; rfl
  ·rw [hW1,hN]; simp
 have r2 : ∀ x : Nat,(((W1.setRow N C1.toArray).drew)).heap[x]? = (W1.setRow N C1.toArray).heap[x]?:=fun _ => rfl
 rw [← hN] at hrz
 obtain ⟨L,hL⟩:=nmq (l.take i ++ m ++ l.drop i)
 rw [← hL] at fin2 ⊢
 have mixed : Tryz.prog.follows Departure.mixedOrders = true:=by kernel_rfl
 have b7 : i ≤ n:=by omega
 have z1 : ¬ ((k : Int) = 0):=by omega
 have z2 : ¬ ((i : Int) = (n : Int)):=by omega
 have z3 : (c : Int) < (n : Int) + (k : Int):=by omega
 have w1 : IntKind.i64.wrap ((i : Int) + (k : Int)) = (i : Int) + (k : Int):=IntWalk.i64_in _ (by omega)
 have w2 : IntKind.i64.wrap ((n : Int) + (k : Int)) = (n : Int) + (k : Int):=IntWalk.i64_in _ (by omega)
 have b1 : (0 : Int) ≤ (i : Int) + (k : Int):=by omega
 have b2 : (i : Int) ≤ (n : Int):=by omega
 have b3 : ((i : Int) + (k : Int)).toNat = i + k:=by omega
 have b4 : ¬ (G = i + k):=by omega
 have b5 : (i : Int) ≤ (n : Int) + (k : Int):=by omega
 have b6 : ¬ (G = i):=by omega
 have b8 : ¬ (c = i):=by omega
 have b9 : i ≤ c:=by omega
 have HRZ:=hyq hrz
 have HCP1:=hyq hcp1
 have HCP2:=hyq hcp2
 have FIN:=hyq fin2
 have HR2:=hyq r2
 clear hrz hcp1 hcp2 fin fin2 hcells hsp hs1 hs2 hs3 hC1 hC2 hF hFl hDl hMl htk hcs hM hk hn hL e2 hBb hcur hold hROW hG hW1 hRs hRl hRt hN1 hO1 hik hkk hN hi0 hz0 hzs hzb r2
 go_enter Tryz.func101,Tryz.ntmps101
 go_wp2_with (first
  | (at_builtin; refine Lib.wpList_append_run _ rfl _ _ _ _ rfl _ _ rfl rfl _ _ (HRZ.out _) ?_)
  | rw [HCP1.out W1 (fun _ => rfl)])
 go_region_law_o (refine step_copy_runI rfl _ _ 22 22 rfl (.slice (some ⟨N,(i + k) * 3,none⟩) (n + k - (i + k)) (G - (i + k))) (.slice (some ⟨b,i * 3,none⟩) (n - i) (c - i)) (by simp [Act.eval,Act.put]) (by simp [Act.eval,Act.put]) (HCP2.out _ HR2.out _ _ _) ?_)
 go_wp2
 go_ret
 exact FIN.out
theorem own_form {w : World} {B : Nat} {v : Value} {l : List It} (h : OwnI w B v l) : (l = [] ∧ v.ownBlock = none) ∨ ∃ b c,v = .slice (some ⟨b,0,none⟩) l.length c ∧ B ≤ b ∧ b < w.heap.size ∧ v.ownBlock = some b ∧ ∃ cs t,w.heap[b]? = some (.cells cs t (0,0)):=by
 have hx:=h
 obtain ⟨-,hc⟩:=h
 rcases hc with ⟨rfl,h0⟩ | ⟨b,c,cur,rfl,hB,hg,_⟩
 ·exact .inl ⟨List.eq_nil_of_length_eq_zero h0,rfl⟩
 ·exact .inr ⟨b,c,rfl,hB,(hx.lt b rfl).2,rfl,cur,59,hg⟩
theorem ins_any (l m : List It) (i : Nat) (v : Value) (g o mc B : Nat) (w : World) (h : OwnI w B v l) (hi : i ≤ l.length) (hm : 0 < m.length) (hne : v.ownBlock ≠ some g) (hgc : ∃ cs t,w.heap[g]? = some (.cells cs t (0,0)))
  (hM : ∀ (j : Nat) (u : Value),(flatI m)[j]? = some u → w.cell? ⟨g,o + j,none⟩ = some u) (hl : l.length ≤ 100000) (hml : m.length ≤ 100000) (hB : B ≤ w.heap.size) :
  Calls Tryz.prog 101 #[v,.int .i64 i,.slice (some ⟨g,o,none⟩) m.length mc] w (InsR B v (l.take i ++ m ++ l.drop i) w):=by
 by_cases he : i = l.length
 ·subst he
  rw [List.take_of_length_le (Nat.le_refl _),List.drop_of_length_le (Nat.le_refl _),List.append_nil]
  exact ins_end l m v g o mc B w h hm hM hl hml hB
 ·have hlt : i < l.length:=by omega
  have hgw : g < w.heap.size:=by
   obtain ⟨cs,t,e⟩:=hgc
   exact (Array.getElem?_eq_some_iff.1 e).1
  rcases own_form h with ⟨e,_⟩ | ⟨b,c,rfl,_,_,hob,_⟩
  ·subst e; exact absurd hlt (Nat.not_lt_zero _)
  ·have hgb : g ≠ b:=fun e => hne (by rw [hob,e])
   by_cases hroom : l.length + m.length ≤ c
   ·exact ins_mid l m i b l.length c g o mc B w h rfl hlt hroom hm hgb hgc hM hl hml
   ·exact ins_grow l m i b l.length c g o mc B w h rfl hlt (by omega) hm hgw hM hl hml hB
end Go.Proofs.YtigopecainocgaaGreatDoor
