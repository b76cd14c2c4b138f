/- Proved here: slices.Insert of rows of items, in the middle of a row that has room. -/
import Derived.Test.YtigopecainocgaaGreatDoorOIns
set_option maxRecDepth 100000
set_option maxHeartbeats 32000000
namespace Go.Proofs.YtigopecainocgaaGreatDoor
open Go.RowKit Go.Shelf
theorem nm_min {a b k : Nat} (h : a = k) (h2 : k ≤ b) : Nat.min a b = k:=by
 subst h; exact Nat.min_eq_left h2
theorem nm_min' {a b k : Nat} (h : b = k) (h2 : k ≤ a) : Nat.min a b = k:=by
 subst h; exact Nat.min_eq_right h2
theorem size35 : (Tryz.prog.info? 59).map (·.size) = some 3:=by kernel_rfl
theorem sizeof35 (w : World) : (Go.sizeOf 59).run Tryz.prog w = .ok 3 w:=by kernel_rfl
theorem flatI_drop (l : List It) (k : Nat) : flatI (l.drop k) = (flatI l).drop (k * 3):=by
 induction l generalizing k with
 | nil => simp [flatI]
 | cons v l ih =>
  cases k with
  | zero => simp
  | succ k =>
   rw [List.drop_succ_cons,flatI_cons,ih,show (k + 1) * 3 = v.cells.length + k * 3 by rw [icells_len]; omega,← List.drop_drop,List.drop_left]
theorem ins_mid (l m : List It) (i b n c g o mc B : Nat) (w : World) (h : OwnI w B (.slice (some ⟨b,0,none⟩) n c) l) (hn : n = l.length) (hi : i < n) (hroom : n + m.length ≤ c) (hm : 0 < m.length)
  (hgb : g ≠ b) (hgc : ∃ cs t,w.heap[g]? = some (.cells cs t (0,0))) (hM : ∀ (j : Nat) (u : Value),(flatI m)[j]? = some u → w.cell? ⟨g,o + j,none⟩ = some u) (hl : l.length ≤ 100000) (hml : m.length ≤ 100000) :
  Calls Tryz.prog 101 #[.slice (some ⟨b,0,none⟩) n c,.int .i64 i,.slice (some ⟨g,o,none⟩) m.length mc] w (InsR B (.slice (some ⟨b,0,none⟩) n c) (l.take i ++ m ++ l.drop i) w):=by
 obtain ⟨k,hk⟩:=nmq (m.length)
 rw [← hn] at hl
 rw [← hk] at hm hroom hml ⊢
 obtain ⟨-,hc⟩:=h
 rcases hc with ⟨h0,_⟩ | ⟨b',c',cur,hv,hBb,hcells,hnc,hcm,hcs,htk⟩
 ·cases h0
 injection hv with e1 e2 e3
 injection e1 with e1
 injection e1 with e1
 subst e1 e3
 obtain ⟨gcs,gt,hgc⟩:=hgc
 unfold maxLen at hcm
 have hFl : (flatI (l.take i)).length = i * 3:=by rw [flatI_len,List.length_take]; omega
 have hDl : (flatI (l.drop i)).length = (n - i) * 3:=by rw [flatI_len,List.length_drop,hn]
 have hMl : (flatI m).length = k * 3:=by rw [flatI_len,hk]
 have hF : flatI l = flatI (l.take i) ++ flatI (l.drop i):=by rw [← flatI_append,List.take_append_drop]
 have hsp:=splice_two cur.toList (flatI (l.take i)) (flatI (l.drop i)) (flatI m) (i * 3) hFl (by rw [hDl,show i * 3 + (n - i) * 3 = l.length * 3 by omega,htk,hF]) (by rw [hMl,hDl,Array.length_toList,hcs]; omega)
 rw [hDl,hMl] at hsp
 obtain ⟨C1,hC1⟩:=nmq (cur.toList.take (i * 3 + k * 3) ++ flatI (l.drop i) ++ cur.toList.drop (i * 3 + k * 3 + (n - i) * 3))
 obtain ⟨C2,hC2⟩:=nmq (C1.take (i * 3) ++ flatI m ++ C1.drop (i * 3 + k * 3))
 have hs1 : C1.length = cur.size:=by rw [hC1]; exact hsp.1
 have hs2 : C2.length = cur.size:=by rw [hC2,hC1]; exact hsp.2.1
 have hs3 : C2.take (i * 3 + k * 3 + (n - i) * 3) = flatI (l.take i) ++ flatI m ++ flatI (l.drop i):=by rw [hC2,hC1]; exact hsp.2.2
 have hcp1 : ∀ ty dc sc,(Builtin.copy_ #[22,22] ty #[.slice (some ⟨b,(i + k) * 3,none⟩) (n + k - (i + k)) dc,.slice (some ⟨b,i * 3,none⟩) (n + k - i) sc]).run Tryz.prog w.drew = .ok (goInt ((n - i : Nat) : Int)) (w.drew.setRow b C1.toArray):=fun ty dc sc => by
  have hq:=run_copy_rowS (P:=Tryz.prog) w.drew 22 22 ty 59 3 b ((i + k) * 3) (n + k - (i + k)) dc ⟨b,i * 3,none⟩ (n + k - i) sc cur 59 (flatI (l.drop i)) Tryz.underlying22 size35 hcells (n - i) (nm_min' (by omega) (by omega)) hDl
   (fun j v hj => by
    rw [add_to]
    refine (cell_of_row _ b _ cur 59 (0,0) hcells).trans ?_
    rw [← Array.getElem?_toList]
    have hlt:=(List.getElem?_eq_some_iff.1 hj).1
    rw [hDl] at hlt
    have h1 : cur.toList[i * 3 + j]? = (cur.toList.take (l.length * 3))[i * 3 + j]?:=by rw [List.getElem?_take,if_pos (by omega)]
    rw [h1,htk,hF,List.getElem?_append_right (by omega),hFl,Nat.add_sub_cancel_left]
    exact hj) (by rw [hDl,hcs]; omega) (flatI_one _)
  rw [hq,hC1,hDl,show (i + k) * 3 = i * 3 + k * 3 by omega]
 have hcp2 : ∀ (W : World),(∀ x,W.heap[x]? = (w.drew.setRow b C1.toArray).heap[x]?) → ∀ ty dc,(Builtin.copy_ #[22,22] ty #[.slice (some ⟨b,i * 3,none⟩) (n + k - i) dc,.slice (some ⟨g,o,none⟩) k mc]).run Tryz.prog W = .ok (goInt k) (W.setRow b C2.toArray):=fun W hW ty dc => by
  have hWb : W.heap[b]? = some (.cells C1.toArray 59 (0,0)):=(hW b).trans (setRow_heap w.drew b cur _ 59 _ hcells)
  have hq:=run_copy_rowS (P:=Tryz.prog) W 22 22 ty 59 3 b (i * 3) (n + k - i) dc ⟨g,o,none⟩ k mc C1.toArray 59 (flatI m) Tryz.underlying22 size35 hWb k (nm_min rfl (by omega)) hMl
   (fun j v hj => by
    rw [add_to]
    have h1 : W.heap[g]? = w.heap[g]?:=(hW g).trans (setRow_other w.drew b g _ hgb)
    rw [show W.cell? ⟨g,o + j,none⟩ = w.cell? ⟨g,o + j,none⟩ from World.cell?_of_block h1]
    exact hM j v hj) (by rw [hMl,List.size_toArray,hs1,hcs]; omega) (flatI_one _)
  rw [hq,hC2,hMl]
 have hov : ∀ lb cb,(callFunc 116 #[.slice (some ⟨g,o,none⟩) k mc,.slice (some ⟨b,(i + k) * 3,none⟩) lb cb]).run Tryz.prog w = .ok (.value (.bool false)) w:=fun lb cb => by
  rw [run_callFunc_extern Tryz.func116 (by kernel_rfl) (by kernel_rfl) (by kernel_rfl) (e:=Extern.SlicesOverlaps.overlaps #[22,22] #[4]) (by kernel_rfl),
   Lib.run_overlaps_apart w 22 4 59 Tryz.underlying22 3 sizeof35 ⟨g,o,none⟩ ⟨b,(i + k) * 3,none⟩ k mc lb cb hgb gt 59 gcs.size cur.size (by simp [World.shape?,hgc]) (by simp [World.shape?,hcells]) (by rw [hcs]; omega) (by simp [World.frozen?,hgc]) (by simp [World.frozen?,hgc])]
  rfl
 have fin : ∀ W : World,(∀ x,x ≠ b → W.heap[x]? = w.heap[x]?) → W.heap[b]? = some (.cells C2.toArray 59 (0,0)) → W.os = w.os → W.tape = w.tape → W.output = w.output → W.heap.size = w.heap.size → InsR B (.slice (some ⟨b,0,none⟩) n c) (l.take i ++ m ++ l.drop i) w (.returned (.slice (some ⟨b,0,none⟩) (n + k) c)) W:=fun W h1 h2 h3 h4 h5 h6 => by
  have hlen : (l.take i ++ m ++ l.drop i).length = n + k:=by simp only [List.length_append,List.length_take,List.length_drop]; omega
  refine ⟨_,rfl,⟨flatI_len _,.inr ⟨b,c,C2.toArray,?_,hBb,h2,?_,by unfold maxLen; omega,by rw [List.size_toArray,hs2,hcs],?_⟩⟩,⟨h3,h4,h5,by omega,fun x _ hx => h1 x (fun e => hx (by rw [e]; rfl))⟩,.inl rfl⟩
  ·rw [hlen]
  ·rw [hlen]; exact hroom
  ·rw [hlen,flatI_append,flatI_append,← hs3,show (n + k) * 3 = i * 3 + k * 3 + (n - i) * 3 by omega]
 obtain ⟨L,hL⟩:=nmq (l.take i ++ m ++ l.drop i)
 rw [← hL] at fin ⊢
 have mixed : Tryz.prog.follows Departure.mixedOrders = true:=by kernel_rfl
 have b7 : i ≤ n:=by omega
 have z1 : ¬ ((k : Int) = 0):=by omega
 have z2 : ¬ ((i : Int) = (n : Int)):=by omega
 have z3 : ¬ ((c : Int) < (n : Int) + (k : Int)):=by omega
 have w1 : IntKind.i64.wrap ((i : Int) + (k : Int)) = (i : Int) + (k : Int):=IntWalk.i64_in _ (by omega)
 have w2 : IntKind.i64.wrap ((n : Int) + (k : Int)) = (n : Int) + (k : Int):=IntWalk.i64_in _ (by omega)
 have b1 : (0 : Int) ≤ (i : Int) + (k : Int):=by omega
 have b2 : (i : Int) ≤ (n : Int):=by omega
 have b3 : ((i : Int) + (k : Int)).toNat = i + k:=by omega
 have b4 : ¬ (c = i + k):=by omega
 have b5 : (i : Int) ≤ (n : Int) + (k : Int):=by omega
 have b6 : ¬ (c = i):=by omega
 have HCP1:=hyq hcp1
 have HCP2:=hyq hcp2
 have HOV:=hyq hov
 have FIN:=hyq fin
 have HCE:=hyq hcells
 clear hcp1 hcp2 hov fin hcells hsp hs1 hs2 hs3 hC1 hC2 hF hFl hDl hMl htk hcs hgc hM hk hn hL e2 hnc hBb
 go_enter Tryz.func101,Tryz.ntmps101
 go_wp2_with (simp only [HOV.out])
 go_region_law_o (refine step_copy_runI rfl _ _ 22 22 rfl (.slice (some ⟨b,(i + k) * 3,none⟩) (n + k - (i + k)) (c - (i + k))) (.slice (some ⟨b,i * 3,none⟩) (n + k - i) (c - i)) (by simp [Act.eval,Act.put]) (by simp [Act.eval,Act.put]) (HCP1.out _ _ _) ?_)
 go_wp2_with (rw [HCP2.out (w.drew.setRow b C1.toArray) (fun _ => rfl)])
 go_ret
 exact FIN.out _ (fun x hx => (setRow_other _ b x _ hx).trans (setRow_other _ b x _ hx)) (setRow_heap _ b C1.toArray _ 59 _ (setRow_heap w.drew b cur _ 59 _ HCE.out)) rfl rfl rfl (by simp)
end Go.Proofs.YtigopecainocgaaGreatDoor
