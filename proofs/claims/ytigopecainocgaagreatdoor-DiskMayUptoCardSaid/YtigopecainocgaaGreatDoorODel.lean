/- Proved here: slices.Delete of a row of items that is the caller's own, a part of at least one item being taken out. -/
import Derived.Test.YtigopecainocgaaGreatDoorOIns2
import Derived.Deep.RegionLaw
import Derived.Lib.SliceRun
set_option maxRecDepth 100000
set_option maxHeartbeats 32000000
namespace Go.Proofs.YtigopecainocgaaGreatDoor
open Go.RowKit Go.Shelf
theorem setCells_row (w : World) (b o : Nat) (vs : List Value) (cur : Array Value) (t : TypeId) (hg : w.heap[b]? = some (.cells cur t (0,0))) (hl : o + vs.length ≤ cur.size) (h1 : ∀ v ∈ vs,v.oneCell' = true) :
  w.setCells b o vs = w.setRow b (cur.toList.take o ++ vs ++ cur.toList.drop (o + vs.length)).toArray:=by
 have e1:=run_storeCells_at Tryz.prog b o t vs 0 cur w hg (by simpa using hl) h1
 have e2:=run_storeCells_cells (P:=Tryz.prog) b o vs 0 w
  (fun j hj => by rw [World.cell?,hg]; simp; omega) (fun j hj => by simp [World.frozen?,hg]) h1
 simp only [Nat.add_zero] at e1 e2
 rw [e1] at e2
 injection e2 with _ e
 exact e.symm
theorem zc_one (n : Nat) : ∀ u ∈ (Builtin.zeroCells It.nil.arr n).toList,u.oneCell' = true:=by
 intro u hu
 simp only [Builtin.zeroCells,Array.toList_map,List.mem_map] at hu
 obtain ⟨k,_,rfl⟩:=hu
 have h3 : k % It.nil.arr.size < 3:=Nat.mod_lt _ (by decide)
 generalize k % It.nil.arr.size = q at h3
 have : q = 0 ∨ q = 1 ∨ q = 2:=by omega
 rcases this with rfl | rfl | rfl <;> rfl
theorem zc_len (n : Nat) : (Builtin.zeroCells It.nil.arr n).toList.length = n * 3:=by
 rw [Array.length_toList,size_zeroCells]; rfl
theorem run_clear_items (w : World) (ty : TypeId) (g o n c : Nat) (cur : Array Value) (ct : TypeId) (hn : 0 < n) (hg : w.heap[g]? = some (.cells cur ct (0,0))) (hfit : o + n * 3 ≤ cur.size) :
  (Builtin.clear_ #[22] ty #[.slice (some ⟨g,o,none⟩) n c]).run Tryz.prog w = .ok (.tuple #[]) (w.setRow g (cur.toList.take o ++ (Builtin.zeroCells It.nil.arr n).toList ++ cur.toList.drop (o + n * 3)).toArray):=by
 have hz : ∀ w,(zeroValue 59).run Tryz.prog w = .ok (.agg It.nil.arr) w:=fun w => Tryz.zeroValue59 w
 have hst:=run_storeCells_at Tryz.prog g o ct (Builtin.zeroCells It.nil.arr n).toList 0 cur w hg (by rw [zc_len]; simpa using hfit) (zc_one n)
 simp only [Nat.add_zero,zc_len] at hst
 obtain ⟨m,rfl⟩ : ∃ m,n = m + 1:=⟨n - 1,by omega⟩
 have hc : (Value.agg It.nil.arr).cells = It.nil.arr:=rfl
 simp [Builtin.clear_,run_underlying Tryz.underlying22,hz,hc,hst]
theorem del_lists {α : Type} (C X : List α) (a n : Nat) (Z : List α) (hX : a + X.length ≤ n) (hn : n ≤ C.length) (hz : Z.length = n - (a + X.length)) :
  let C1:=C.take a ++ X ++ C.drop (a + X.length)
  let C2:=C1.take (a + X.length) ++ Z ++ C1.drop (a + X.length + Z.length)
  C1.length = C.length ∧ C2.length = C.length ∧ C2.take (a + X.length) = C.take a ++ X:=by
 intro C1 C2
 have h1 : C1.length = C.length:=splice_len C X a (by omega)
 have h2 : C2.length = C.length:=by
  show (C1.take (a + X.length) ++ Z ++ C1.drop (a + X.length + Z.length)).length = _
  rw [splice_len C1 Z (a + X.length) (by omega),h1]
 refine ⟨h1,h2,?_⟩
 show (C1.take (a + X.length) ++ Z ++ C1.drop (a + X.length + Z.length)).take (a + X.length) = _
 rw [splice_take C1 Z (a + X.length) (a + X.length) (Nat.le_refl _) (by omega)]
 show (C.take a ++ X ++ C.drop (a + X.length)).take (a + X.length) = _
 rw [List.take_append_of_le_length (by simp only [List.length_append,List.length_take]; omega),List.take_of_length_le (by simp only [List.length_append,List.length_take]; omega)]
theorem del_any (l : List It) (i j b n c B : Nat) (w : World) (h : OwnI w B (.slice (some ⟨b,0,none⟩) n c) l) (hn : n = l.length) (hij : i < j) (hj : j ≤ n) (hl : l.length ≤ 100000) :
  Calls Tryz.prog 108 #[.slice (some ⟨b,0,none⟩) n c,.int .i64 i,.int .i64 j] w (InsR B (.slice (some ⟨b,0,none⟩) n c) (l.take i ++ l.drop j) w):=by
 rw [← hn] at hl
 obtain ⟨-,hc⟩:=h
 rcases hc with ⟨h0,_⟩ | ⟨b',c',cur,hv,hBb,hcells,hnc,hcm,hcs,htk⟩
 ·cases h0
 injection hv with e1 e2 e3
 injection e1 with e1
 injection e1 with e1
 subst e1 e3
 unfold maxLen at hcm
 rw [← hn] at hnc htk
 have hFl : (flatI (l.take i)).length = i * 3:=by rw [flatI_len,List.length_take]; omega
 have hDl : (flatI (l.drop j)).length = (n - j) * 3:=by rw [flatI_len,List.length_drop,hn]
 have hZl : (Builtin.zeroCells It.nil.arr (j - i)).toList.length = (j - i) * 3:=zc_len _
 have hcur : cur.toList.length = c * 3:=by rw [Array.length_toList,hcs]
 have hsp:=del_lists cur.toList (flatI (l.drop j)) (i * 3) (n * 3) (Builtin.zeroCells It.nil.arr (j - i)).toList (by rw [hDl]; omega) (by rw [hcur]; omega) (by rw [hDl,hZl]; omega)
 rw [hDl,hZl] at hsp
 have htl : cur.toList.take (i * 3) = flatI (l.take i):=by
  have : cur.toList.take (i * 3) = (cur.toList.take (n * 3)).take (i * 3):=by rw [List.take_take,Nat.min_eq_left (by omega)]
  rw [this,htk,flatI_take]
 obtain ⟨C1,hC1⟩:=nmq (cur.toList.take (i * 3) ++ flatI (l.drop j) ++ cur.toList.drop (i * 3 + (n - j) * 3))
 obtain ⟨C2,hC2⟩:=nmq (C1.take (i * 3 + (n - j) * 3) ++ (Builtin.zeroCells It.nil.arr (j - i)).toList ++ C1.drop (i * 3 + (n - j) * 3 + (j - i) * 3))
 have hs1 : C1.length = cur.toList.length:=by rw [hC1]; exact hsp.1
 have hs2 : C2.length = cur.toList.length:=by rw [hC2,hC1]; exact hsp.2.1
 have hs3 : C2.take (i * 3 + (n - j) * 3) = flatI (l.take i) ++ flatI (l.drop j):=by rw [hC2,hC1,hsp.2.2,htl]
 obtain ⟨A,hA,hsrc⟩ : ∃ A : Addr,(if c = j then some (⟨b,0,none⟩ : Addr) else some ⟨b,j * 3,none⟩) = some A ∧ ∀ t u,(flatI (l.drop j))[t]? = some u → w.drew.cell? (A.add t) = some u:=by
  by_cases hcj : c = j
  ·refine ⟨⟨b,0,none⟩,by rw [if_pos hcj],fun t u hu => ?_⟩
   have h0:=(List.getElem?_eq_some_iff.1 hu).1
   rw [hDl] at h0
   omega
  ·refine ⟨⟨b,j * 3,none⟩,by rw [if_neg hcj],fun t u hu => ?_⟩
   have h0:=(List.getElem?_eq_some_iff.1 hu).1
   rw [hDl] at h0
   rw [add_to]
   refine (cell_of_row _ b _ cur 59 (0,0) hcells).trans ?_
   rw [← Array.getElem?_toList]
   have h1 : cur.toList[j * 3 + t]? = (cur.toList.take (n * 3))[j * 3 + t]?:=by rw [List.getElem?_take,if_pos (by omega)]
   rw [h1,htk]
   rw [flatI_drop,List.getElem?_drop] at hu
   exact hu
 obtain ⟨i0,hi0,_,hz1,_⟩:=info_parts info35z
 have s1 : (flatI (l.drop j)).length = (n - j) * 3:=hDl
 have s3 : ∀ t,t < (flatI (l.drop j)).length → (w.drew.cell? ⟨b,0 + i * 3 + t,none⟩).isSome = true ∧ w.drew.frozen? ⟨b,0 + i * 3 + t,none⟩ = false:=fun t ht => by
  rw [hDl] at ht
  rw [Nat.zero_add]
  refine ⟨?_,frozen_of_row w.drew b _ _ _ hcells⟩
  show (w.cell? _).isSome = true
  rw [World.cell?,hcells]
  simp
  omega
 have hset : w.drew.setCells b (0 + i * 3) (flatI (l.drop j)) = w.drew.setRow b C1.toArray:=by
  rw [Nat.zero_add,setCells_row w.drew b (i * 3) _ cur 59 hcells (by rw [hDl]; omega) (flatI_one _),hDl,hC1]
 have hcl : ∀ ty cc,(Builtin.clear_ #[22] ty #[.slice (some ⟨b,(i + (n - j)) * 3,none⟩) (n - (i + (n - j))) cc]).run Tryz.prog (w.drew.setRow b C1.toArray) = .ok (.tuple #[]) ((w.drew.setRow b C1.toArray).setRow b C2.toArray):=fun ty cc => by
  have e1 : n - (i + (n - j)) = j - i:=by omega
  have e2 : (i + (n - j)) * 3 = i * 3 + (n - j) * 3:=by omega
  rw [e1,e2,run_clear_items _ ty b _ (j - i) cc C1.toArray 59 (by omega) (setRow_heap w.drew b cur _ 59 _ hcells) (by rw [List.size_toArray,hs1,hcur]; omega),hC2]
 have fin : ∀ W : World,(∀ x,x ≠ b → W.heap[x]? = w.heap[x]?) → W.heap[b]? = some (.cells C2.toArray 59 (0,0)) → W.os = w.os → W.tape = w.tape → W.output = w.output → W.heap.size = w.heap.size → InsR B (.slice (some ⟨b,0,none⟩) n c) (l.take i ++ l.drop j) w (.returned (.slice (some ⟨b,0,none⟩) (i + (n - j)) c)) W:=fun W h1 h2 h3 h4 h5 h6 => by
  have hlen : (l.take i ++ l.drop j).length = i + (n - j):=by simp only [List.length_append,List.length_take,List.length_drop]; omega
  refine ⟨_,rfl,⟨flatI_len _,.inr ⟨b,c,C2.toArray,?_,hBb,h2,?_,by unfold maxLen; omega,by rw [List.size_toArray,hs2,hcur],?_⟩⟩,⟨h3,h4,h5,by omega,fun x _ hx => h1 x (fun e => hx (by rw [e]; rfl))⟩,.inl rfl⟩
  ·rw [hlen]
  ·rw [hlen]; omega
  ·rw [hlen,flatI_append,← hs3,show (i + (n - j)) * 3 = i * 3 + (n - j) * 3 by omega]
 obtain ⟨L,hL⟩:=nmq (l.take i ++ l.drop j)
 rw [← hL] at fin ⊢
 obtain ⟨N,hN⟩:=nmq (flatI (l.drop j))
 rw [← hN] at s1 s3 hsrc hset
 have s2 : ∀ u ∈ N,u.oneCell' = true:=by rw [hN]; exact flatI_one _
 have mixed : Tryz.prog.follows Departure.mixedOrders = true:=by kernel_rfl
 have z1 : ¬ ((i : Int) = (j : Int)):=by omega
 have b1 : (i : Int) ≤ (j : Int):=by omega
 have b2 : (j : Int) ≤ (n : Int):=by omega
 have b3 : i ≤ j:=by omega
 have b4 : j ≤ c:=by omega
 have b5 : i ≤ c:=by omega
 have b6 : n ≤ c:=hnc
 have hroom : i + (n - j) ≤ c:=by omega
 have S1:=hyq s1
 have S2:=hyq s2
 have S3:=hyq s3
 have SRC:=hyq hsrc
 have HS:=hyq hset
 have HCL:=hyq hcl
 have FIN:=hyq fin
 have HCE:=hyq hcells
 clear hcl fin hcells hset hsrc s1 s2 s3 hsp hs1 hs2 hs3 hC1 hC2 hFl hDl hZl htl htk hcs hcur hN hL hn e2 hBb
 go_enter Tryz.func108,Tryz.ntmps108
 go_wp2_with fail
 go_region_law_o (refine step_append_room rfl (.tmp 22) (.tmp 25) 22 rfl 59 i0 3 Tryz.underlying22 hi0 hz1 b 0 i c (by simp [Act.eval,Act.put]) A (n - j) (c - j) N (by simp [Act.eval,Act.put]) S1.out SRC.out S2.out hroom S3.out ?_; rw [HS.out])
 go_wp2_with (rw [HCL.out])
 go_ret
 exact FIN.out _ (fun x hx => (setRow_other _ b x _ hx).trans (setRow_other _ b x _ hx)) (setRow_heap _ b C1.toArray _ 59 _ (setRow_heap w.drew b cur _ 59 _ HCE.out)) rfl rfl rfl (by simp)
end Go.Proofs.YtigopecainocgaaGreatDoor
