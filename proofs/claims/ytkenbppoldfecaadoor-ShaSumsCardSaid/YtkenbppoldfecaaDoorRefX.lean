/- Proved here: Sum of puncheonref03: the sum of bytes. -/
import Derived.Test.YtkenbppoldfecaaDoorRefE
namespace Go.Proofs.YtkenbppoldfecaaDoor
open Go.RowKit Go.Shelf

theorem blk_addR (i j : Nat) (s : St) (l : Bytes) : blk (i + j) s l = blk j (blk i s l) (l.drop (64 * i)) := by
  induction i generalizing s l with
  | zero => simp [blk]
  | succ i ih => rw [show i + 1 + j = (i + j) + 1 by omega, blk, ih, blk, List.drop_drop, show 64 + 64 * i = 64 * (i + 1) by omega]
theorem blk_appR (k : Nat) (s : St) (x y : Bytes) (h : 64 * k ≤ x.length) : blk k s (x ++ y) = blk k s x := by
  induction k generalizing s x with
  | zero => rfl
  | succ k ih => rw [blk, blk, List.take_append_of_le_length (by omega), List.drop_append_of_le_length (by omega), ih _ _ (by rw [List.length_drop]; omega)]
theorem more_wordsR (s : St) (x y : Bytes) : wordsOf (wordsOf s x) (restOf x ++ y) = wordsOf s (x ++ y) ∧ restOf (restOf x ++ y) = restOf (x ++ y) := by
  obtain ⟨i, hi⟩ : ∃ i, i = x.length / 64 := ⟨_, rfl⟩
  have hr : (restOf x).length = x.length - i * 64 := by unfold restOf; rw [List.length_drop, ← hi]
  obtain ⟨j, hj⟩ : ∃ j, j = (restOf x ++ y).length / 64 := ⟨_, rfl⟩
  have hd : (x ++ y).drop (64 * i) = restOf x ++ y := by
    rw [List.drop_append_of_le_length (by omega)]
    unfold restOf
    rw [← hi, Nat.mul_comm]
  have ht : (x ++ y).length / 64 = i + j := by
    rw [hj, List.length_append, List.length_append, hr]
    omega
  constructor
  · unfold wordsOf
    rw [← hi, ← hj, ht, blk_addR, hd, blk_appR i s x y (by omega)]
  · rw [show restOf (restOf x ++ y) = (restOf x ++ y).drop (j * 64) by rw [hj]; rfl, ← hd, List.drop_drop]
    unfold restOf
    rw [ht]
    congr 1
    omega
theorem rest_rd (l : Bytes) {n c : Nat} {a : Option Addr} {w : World} (hn : n = l.length) (h : Rd w (.slice a n c) (bytesV l)) (q : Nat) (hq : q = n / 64 * 64) : Rd w (.slice (if c = q then a else a.map (·.add q)) (n - q) (c - q)) (bytesV (restOf l)) := by
  have h1 := h.drop (by rw [bytesV_len]; exact hn) q (by omega)
  unfold restOf
  unfold bytesV at h1 ⊢
  rw [List.map_drop, ← hn, ← hq]
  exact h1
theorem info26d (S : St) : (Tryd.prog.info? 26).map (·.size) = some (bytesA (digestL S)).size := by rw [info26]; simp [bytesA, bytesV_len, digestL_len]
theorem size26d (S : St) : (part z8 [] 32 0).size = (bytesA (digestL S)).size := zeros32 _ (digestL_len _)
theorem rest_len (l : Bytes) : (restOf l).length = l.length % 64 := by
  unfold restOf
  rw [List.length_drop]
  omega
theorem tab_first {w : World} {g : Nat} (h : Box w g 35 tabA) : w.rangeAt g 0 (wordsV first) := fun j v hv => by
  rw [Nat.zero_add]
  have hl := (List.getElem?_eq_some_iff.1 hv).1
  refine h.cell ?_
  unfold tabA
  rw [Array.getElem?_append_left (by rw [stA_size]; rw [wordsV_len] at hl; omega)]
  unfold stA
  rw [List.getElem?_toArray]
  exact hv

set_option maxRecDepth 100000 in
set_option maxHeartbeats 8000000 in
theorem rsum_any (l : Bytes) (v : Value) (w : World) (hv : Rd w v (bytesV l)) (hl : l.length ≤ 100000000) : Calls Tryd.prog 11 #[v] w fun e w' => e = .returned (.agg (bytesA (sumL l))) ∧ Below w.heap.size w w' := by
  obtain ⟨a, c, rfl, hlc, hcm, _⟩ := id hv
  unfold maxLen at hcm
  rw [bytesV_len] at hlc hv ⊢
  obtain ⟨n, hn⟩ : ∃ n, n = l.length := ⟨_, rfl⟩
  rw [← hn] at hlc hv hl ⊢
  obtain ⟨w1, hw1⟩ : ∃ q, q = w.alloc (.cells (part z8 [] 32 0) 26) := ⟨_, rfl⟩
  have X0 : Hid (Box w1 w.heap.size 26 (part z8 [] 32 0)) := Lib.hid (by rw [hw1]; exact box_new _ _ _ rfl)
  have B1 : Hid (Below w.heap.size w w1) := Lib.hid (by rw [hw1]; exact (Below.refl _ _).alloc (Nat.le_refl _) _)
  have HV := Lib.hid hv
  have HN := Lib.hid hn
  clear hv hn
  go_enter Tryd.func11, Tryd.ntmps11
  go_wp2_with (with_reducible refine wpList_zero rfl 26 rfl (part z8 [] 32 0) (zero26 _) ?_)
  rw [← hw1]
  clear hw1
  refine (made_any w1).mono ?_
  rintro e w2 ⟨rfl, hb2⟩
  have X2 : Hid (Box w2 w.heap.size 26 (part z8 [] 32 0)) := Lib.hid (X0.out.below hb2 X0.out.lt)
  have B2 : Hid (Below w.heap.size w w2) := Lib.hid (bch B1.out hb2)
  obtain ⟨gt, hgt⟩ : ∃ q, q = w2.heap.size := ⟨_, rfl⟩
  have hg0 : w.heap.size < gt := by rw [hgt]; exact X2.out.lt
  have HZ : Hid (Box (w2.alloc (.cells (tabP 0 0) 35)) w2.heap.size 35 (tabP 0 0)) := Lib.hid (box_new _ _ _ rfl)
  obtain ⟨w3, hw3⟩ : ∃ q, q = (w2.alloc (.cells (tabP 0 0) 35)).setRow w2.heap.size tabA := ⟨_, rfl⟩
  have T3 : Hid (Box w3 gt 35 tabA) := Lib.hid (by rw [hw3, hgt]; exact HZ.out.row _)
  have X3 : Hid (Box w3 w.heap.size 26 (part z8 [] 32 0)) := Lib.hid (by rw [hw3]; exact (X2.out.alloc _).far_row (by omega) _)
  have B3 : Hid (Below w.heap.size w w3) := Lib.hid (by rw [hw3]; exact below_row (B2.out.alloc B2.out.size _) (by omega) _)
  have HGT := Lib.hid hgt
  clear hb2 hgt X0 B1 X2 B2
  obtain ⟨q, hq⟩ : ∃ q, q = n / 64 * 64 := ⟨_, rfl⟩
  have q1 : (n : Int) / 64 * 64 = (q : Int) := by omega
  have q2 : q ≤ n := by omega
  have q3 : q ≤ c := by omega
  have q4 : (0 : Int) ≤ (q : Int) := by omega
  have q5 : (q : Int) ≤ (n : Int) := by omega
  have q6 : (q : Int) ≤ (c : Int) := by omega
  have n1 : IntKind.u64.wrap (n : Int) = (n : Int) := by rw [wrap_u64]; omega
  have HQ := Lib.hid hq
  clear hq
  go_wp2_with (first
    | (with_reducible refine wpList_zero rfl 35 rfl (tabP 0 0) zero35 ?_)
    | (refine wpList_store_row rfl 35 (.tmp 3) (.tmp 5) rfl w2.heap.size tabA rfl rfl 35 (tabP 0 0) HZ.out info35a size35a tabA_one ?_))
  rw [← hw3, ← HGT.out]
  clear hw3 HZ
  obtain ⟨D, hD⟩ : ∃ D, D = sumL l := ⟨_, rfl⟩
  have HD := Lib.hid hD
  clear hD
  go_cut [10, 11, 12, 13, 14, 15, 16, 17, 18, 19, 20, 21, 22] (fun _ _ _ _ _ _ _ _ _ _ _ _ _ wx => Hid (Box wx w.heap.size 26 (bytesA D)) ∧ Hid (Below w.heap.size w wx))
  case first =>
    rename_i J3 K3 hJ3 hK3
    have hi := tabV_len
    refine wp_region_held_drew (S := fun w' => Box w' gt 35 tabA ∧ Below w.heap.size w w') (by kernel_rfl) ⟨T3.out.drew, B3.out.drew⟩ (fun hHeld => ?_)
    have P0 := X3.out.drew
    generalize w3.drew = W at P0 hHeld ⊢
    refine wpAnyH_take (i := 0) (oi := { dst := some 10, op := Op.load 35 (Operand.tmp 3), type := 35, pos := "ref.go:171", after := #[], guard := none }) (v := _) rfl (by kernel_rfl) (by kernel_rfl) (by kernel_rfl) (fun _ _ _ h => h) (yieldsIf_load_mid (by rfl) 35 (.tmp 3) rfl gt 0 rfl tabV _ (fun _ h => range_cells (t := 35) (by rw [tabV_eq]; exact h.1)) Tryd.underlying35 rfl hi) hHeld ?_
    rw [tabV_eq]
    (try simp only [Act.put, List.setIfInBounds_toArray, List.set_cons_zero, List.set_cons_succ])
    refine wpAnyH_take (i := 1) (oi := { dst := some 11, op := Op.load 35 (Operand.tmp 3), type := 35, pos := "ref.go:171", after := #[], guard := none }) (v := _) rfl (by kernel_rfl) (by kernel_rfl) (by kernel_rfl) (fun _ _ _ h => h) (yieldsIf_load_mid (by rfl) 35 (.tmp 3) rfl gt 0 rfl tabV _ (fun _ h => range_cells (t := 35) (by rw [tabV_eq]; exact h.1)) Tryd.underlying35 rfl hi) hHeld ?_
    rw [tabV_eq]
    (try simp only [Act.put, List.setIfInBounds_toArray, List.set_cons_zero, List.set_cons_succ])
    refine wpAnyH_take (i := 2) (oi := { dst := some 12, op := Op.fieldAddr 35 (Operand.tmp 3) 0, type := 0, pos := "ref.go:171", after := #[], guard := none }) (v := ?_) rfl (by kernel_rfl) (by kernel_rfl) (by kernel_rfl) (fun _ _ _ h => h) (Or.inl ⟨by rfl, ?_⟩) hHeld ?_
    rotate_left
    · (intro w hSw; go_simp; try with_reducible rfl)
    (try simp only [Act.put, List.setIfInBounds_toArray, List.set_cons_zero, List.set_cons_succ])
    refine wpAnyH_take (i := 3) (oi := { dst := some 13, op := Op.load 33 (Operand.tmp 12), type := 33, pos := "ref.go:171", after := #[{ on := 2, ground := Ground.data }], guard := none }) (v := _) rfl (by kernel_rfl) (by kernel_rfl) (by kernel_rfl) (fun _ _ _ h => h) (yieldsIf_load_mid (by rfl) 33 (.tmp 12) rfl gt 0 rfl (wordsV first) (.array 8 30) (fun _ h => tab_first h.1) Tryd.underlying33 rfl info33) hHeld ?_
    (try simp only [Act.put, List.setIfInBounds_toArray, List.set_cons_zero, List.set_cons_succ])
    refine wpAnyH_take (i := 4) (oi := { dst := some 14, op := Op.move (Operand.tmp 0), type := 24, pos := "ref.go:171", after := #[], guard := none }) (v := ?_) rfl (by kernel_rfl) (by kernel_rfl) (by kernel_rfl) (fun _ _ _ h => h) (Or.inl ⟨by rfl, ?_⟩) hHeld ?_
    rotate_left
    · (intro w hSw; go_simp; try with_reducible rfl)
    (try simp only [Act.put, List.setIfInBounds_toArray, List.set_cons_zero, List.set_cons_succ])
    refine wpAnyH_take (i := 6) (oi := { dst := some 16, op := Op.move (Operand.tmp 0), type := 24, pos := "ref.go:171", after := #[], guard := none }) (v := ?_) rfl (by kernel_rfl) (by kernel_rfl) (by kernel_rfl) (fun _ _ _ h => h) (Or.inl ⟨by rfl, ?_⟩) hHeld ?_
    rotate_left
    · (intro w hSw; go_simp; try with_reducible rfl)
    (try simp only [Act.put, List.setIfInBounds_toArray, List.set_cons_zero, List.set_cons_succ])
    refine wpAnyH_take (i := 7) (oi := { dst := some 17, op := Op.move (Operand.tmp 4), type := 3, pos := "ref.go:171", after := #[], guard := none }) (v := ?_) rfl (by kernel_rfl) (by kernel_rfl) (by kernel_rfl) (fun _ _ _ h => h) (Or.inl ⟨by rfl, ?_⟩) hHeld ?_
    rotate_left
    · (intro w hSw; go_simp; try with_reducible rfl)
    (try simp only [Act.put, List.setIfInBounds_toArray, List.set_cons_zero, List.set_cons_succ])
    refine wpAnyH_take (i := 8) (oi := { dst := some 18, op := Op.slice 24 (Operand.tmp 16) (some (Operand.tmp 17)) none none, type := 24, pos := "ref.go:171", after := #[{ on := 6, ground := Ground.data }, { on := 7, ground := Ground.data }], guard := none }) (v := ?_) rfl (by kernel_rfl) (by kernel_rfl) (by kernel_rfl) (fun _ _ _ h => h) (Or.inl ⟨by rfl, ?_⟩) hHeld ?_
    rotate_left
    · (intro w hSw; go_simp; try with_reducible rfl)
    (try simp only [Act.put, List.setIfInBounds_toArray, List.set_cons_zero, List.set_cons_succ])
    refine wpAnyH_take (i := 9) (oi := { dst := some 19, op := Op.move (Operand.tmp 0), type := 24, pos := "ref.go:171", after := #[], guard := none }) (v := ?_) rfl (by kernel_rfl) (by kernel_rfl) (by kernel_rfl) (fun _ _ _ h => h) (Or.inl ⟨by rfl, ?_⟩) hHeld ?_
    rotate_left
    · (intro w hSw; go_simp; try with_reducible rfl)
    (try simp only [Act.put, List.setIfInBounds_toArray, List.set_cons_zero, List.set_cons_succ])
    refine wpAnyH_take (i := 10) (oi := { dst := some 20, op := Op.call { callee := Callee.builtin Builtin.len, args := #[Operand.tmp 19], argTypes := #[24] }, type := 3, pos := "ref.go:171", after := #[{ on := 9, ground := Ground.data }], guard := none }) (v := ?_) rfl (by kernel_rfl) (by kernel_rfl) (by kernel_rfl) (fun _ _ _ h => h) (Or.inl ⟨by rfl, ?_⟩) hHeld ?_
    rotate_left
    · (intro w hSw; go_simp; try with_reducible rfl)
    (try simp only [Act.put, List.setIfInBounds_toArray, List.set_cons_zero, List.set_cons_succ])
    refine wpAnyH_take (i := 11) (oi := { dst := some 21, op := Op.convert 3 50 (Operand.tmp 20), type := 50, pos := "ref.go:171", after := #[{ on := 10, ground := Ground.data }], guard := none }) (v := ?_) rfl (by kernel_rfl) (by kernel_rfl) (by kernel_rfl) (fun _ _ _ h => h) (Or.inl ⟨by rfl, ?_⟩) hHeld ?_
    rotate_left
    · (intro w hSw; go_simp; try with_reducible rfl)
    (try simp only [Act.put, List.setIfInBounds_toArray, List.set_cons_zero, List.set_cons_succ])
    refine wpAnyH_ready (rs := [5]) (by kernel_rfl) (by simp) (AllReadyH.cons (o := { dst := some 15, op := Op.call { callee := Callee.value (Operand.func 30), args := #[Operand.tmp 11, Operand.tmp 13, Operand.tmp 14], argTypes := #[35, 33, 24] }, type := 33, pos := "ref.go:171", after := #[{ on := 1, ground := Ground.data }, { on := 3, ground := Ground.data }, { on := 4, ground := Ground.data }], guard := none }) rfl (fun K hK => ?_) AllReadyH.nil)
    · go_simp
      refine (words_any first l _ _ (HV.out.on hHeld.2) (by have := HN.out; omega)).mono ?_
      rintro e wa ⟨rfl, hba⟩
      have P0 := P0.below hba P0.lt
      have T := hHeld.1.below hba hHeld.1.lt
      refine hK.out _ _ ⟨T, bch hHeld.2 hba⟩ (fun hHeld => ?_)
      (try simp only [Act.put, List.setIfInBounds_toArray, List.set_cons_zero, List.set_cons_succ])
      refine wpAnyH_ready (rs := [12]) (by kernel_rfl) (by simp) (AllReadyH.cons (o := { dst := some 22, op := Op.call { callee := Callee.value (Operand.func 29), args := #[Operand.tmp 10, Operand.tmp 15, Operand.tmp 18, Operand.tmp 21], argTypes := #[35, 33, 24, 50] }, type := 26, pos := "ref.go:171", after := #[{ on := 0, ground := Ground.data }, { on := 5, ground := Ground.data }, { on := 8, ground := Ground.data }, { on := 11, ground := Ground.data }, { on := 5, ground := Ground.chain }], guard := none }) rfl (fun K hK => ?_) AllReadyH.nil)
      · go_simp
        refine (ends_any (wordsOf first l) (restOf l) n _ _ (rest_rd l HN.out (HV.out.on hHeld.2) q HQ.out) (by rw [rest_len, ← HN.out]) (by omega)).mono ?_
        rintro e wb ⟨rfl, hbb⟩
        have P0 := P0.below hbb P0.lt
        have T := hHeld.1.below hbb hHeld.1.lt
        refine hK.out _ _ ⟨T, bch hHeld.2 hbb⟩ (fun hHeld => ?_)
        (try simp only [Act.put, List.setIfInBounds_toArray, List.set_cons_zero, List.set_cons_succ])
        refine wpAnyH_ready (rs := [13]) (by kernel_rfl) (by simp) (AllReadyH.cons (o := { dst := none, op := Op.store 26 (Operand.tmp 2) (Operand.tmp 22), type := 0, pos := "ref.go:171", after := #[{ on := 12, ground := Ground.data }, { on := 12, ground := Ground.chain }, { on := 0, ground := Ground.phase }, { on := 1, ground := Ground.phase }, { on := 2, ground := Ground.phase }, { on := 3, ground := Ground.phase }, { on := 4, ground := Ground.phase }, { on := 5, ground := Ground.phase }, { on := 6, ground := Ground.phase }, { on := 7, ground := Ground.phase }, { on := 8, ground := Ground.phase }, { on := 9, ground := Ground.phase }, { on := 10, ground := Ground.phase }, { on := 11, ground := Ground.phase }, { on := 12, ground := Ground.phase }], guard := none }) rfl (fun K hK => ?_) AllReadyH.nil)
        · refine wp_storeE (by rfl) 26 (.tmp 2) (.tmp 22) rfl w.heap.size 26 (part z8 [] 32 0) _ rfl rfl P0 (info26d _) (size26d _) (bytesA_one _) ?_
          have P0 := P0.row (bytesA (digestL (wordsOf (wordsOf first l) (restOf l ++ padL n))))
          have T := hHeld.1.far_row (g := w.heap.size) (by omega) (bytesA (digestL (wordsOf (wordsOf first l) (restOf l ++ padL n))))
          refine hK.out _ _ ⟨T, below_row hHeld.2 (Nat.le_refl _) _⟩ (fun hHeld => ?_)
          (try simp only [Act.put])
          refine wpAnyH_done (by kernel_rfl) ?_ _
          first | refine hK3 _ _ (Met.intro (hJ3 _ _ ?_)) | refine Met.intro (hJ3 _ _ ?_)
          (repeat apply Exists.intro)
          refine ⟨?_, rfl⟩
          have E : digestL (wordsOf (wordsOf first l) (restOf l ++ padL n)) = D := by rw [HN.out, (more_wordsR first l (padL l.length)).1, HD.out]; rfl
          rw [E] at P0 hHeld ⊢
          exact ⟨Lib.hid P0, Lib.hid hHeld.2⟩
  case rest =>
    obtain ⟨Q1, QB⟩ := hcut
    have hi26 : (Tryd.prog.info? 26).map (·.size) = some (bytesA D).size := by rw [HD.out]; exact info26d _
    go_wp2_with fail
    rw [← HD.out]
    exact bodyPost_ret (results_cell_row rfl _ _ w.heap.size 26 (bytesA D) (0, 0) (.array 32 5) rfl Q1.out Tryd.underlying26 rfl hi26) rfl ⟨rfl, QB.out⟩
end Go.Proofs.YtkenbppoldfecaaDoor
