/- Proved here: End of package sha, on a sum that goes on. -/
import Derived.Test.YtkenbppoldfecaaDoorMore
import Derived.Deep.DeepCutAuto
namespace Go.Proofs.YtkenbppoldfecaaDoor
open Go.RowKit Go.Shelf Go.Joins


theorem below_new (w : World) (o : Obj) : Below w.heap.size w (w.alloc o) := (Below.refl _ _).alloc (Nat.le_refl _) _
theorem boxz_new {w W : World} (h : Below w.heap.size w W) : w.heap.size ≤ W.heap.size ∧ Box (W.alloc (.cells #[z32, z32, z32, z32, z32, z32, z32, z32] 33)) W.heap.size 33 #[z32, z32, z32, z32, z32, z32, z32, z32] := ⟨h.size, box_new _ _ _ rfl⟩

/-- A whole row that is stored, at a step of a region that draws. -/
theorem wp_store_if {P : Program} {op : Oper} {a : Act} {w : World} {K : Act → World → Prop} {Q : Exit → Act → World → Prop} {ops : Array Oper} (hw : Region.wanted op (yielded ops a.tmps) = true) (ty : TypeId) (x y : Operand) (ho : op.op = .store ty x y)
    (g t : Nat) (old cells : Array Value) (hx : a.eval x = .pointer (some ⟨g, 0, none⟩)) (hy : a.eval y = .agg cells) (hg : Box w g t old) (hi : (P.info? ty).map (·.size) = some cells.size) (hsz : old.size = cells.size) (h1 : cells.all (·.oneCell') = true)
    (h : K (a.put op.dst undef) (w.setRow g cells)) : if Region.wanted op (yielded ops a.tmps) = true then op.wp P a w K Q else K (a.put op.dst undef) w := by
  rw [if_pos hw]
  exact Go.wp_store_row ty x y ho g cells hx hy t old hg hi hsz h1 h

set_option maxRecDepth 100000 in
set_option maxHeartbeats 8000000 in
theorem end_any (t : TypeId) (fr : Nat × Nat) (s : St) (rest : Bytes) (a : Option Addr) (k c n : Nat) (w : World) (hP : Prim t fr w) (hm : MayBe s k n) (hk : k = rest.length) (hr : Rd w (.slice a k c) (bytesV rest)) (hn : n ≤ 1000000000) : Calls Tryd.prog 21 #[.agg (runA s (.slice a k c) n)] w fun e w' => e = .returned (.tuple #[.agg (bytesA (digestL (wordsOf s (rest ++ padL n)))), .int .i64 0]) ∧ Below w.heap.size w w' := by
  have hk64 : k < 64 := by have := hm.2.1; omega
  have hB0 : Below w.heap.size w ((w.alloc (.cells (runA s (.slice a k c) n) 52)).alloc (.cells (part z8 [] 32 0) 27)) := ((Below.refl _ _).alloc (Nat.le_refl _) _).alloc (by simp) _
  have X0 : Box ((w.alloc (.cells (runA s (.slice a k c) n) 52)).alloc (.cells (part z8 [] 32 0) 27)) w.heap.size 52 (runA s (.slice a k c) n) := (box_new _ _ _ rfl).alloc _
  have Z0 : Box ((w.alloc (.cells (runA s (.slice a k c) n) 52)).alloc (.cells (part z8 [] 32 0) 27)) (w.heap.size + 1) 27 (part z8 [] 32 0) := heap_alloc2_new w _ _
  have HX := Lib.hid X0
  have HV := Lib.hid (valid_any t fr s a k c n hm _ (hP.on hB0))
  have HP := Lib.hid hP
  have HR := Lib.hid hr
  have HK := Lib.hid hk
  have HN := Lib.hid hn
  have HK64 := Lib.hid hk64
  clear hm hP hr hk
  go_enter Tryd.func21, Tryd.ntmps21
  go_wp2_with (first
    | (with_reducible refine wpList_zero rfl 27 rfl (part z8 [] 32 0) (zero27 _) ?_)
    | (refine wpList_load_row rfl 52 (.tmp 1) rfl w.heap.size rfl 52 (runA s (.slice a k c) n) (0, 0) _ HX.out Tryd.underlying52 rfl info52 ?_))
  refine HV.out.mono ?_
  rintro e w1 ⟨rfl, hb1⟩
  have hB1 := bch hB0 hb1
  have X1 : Box w1 w.heap.size 52 (runA s (.slice a k c) n) := X0.below hb1 X0.lt
  have Z1 : Box w1 (w.heap.size + 1) 27 (part z8 [] 32 0) := Z0.below hb1 Z0.lt
  clear HV HX X0 Z0 hb1 hB0 hk64
  go_wp2_with fail
  have l1 := Z1.lt
  obtain ⟨c8, c9⟩ := runA_w X1
  have hrg := range_w X1
  have hi : (Tryd.prog.info? 33).map (·.size) = some (wordsV s).length := info33
  have hu := Tryd.underlying33
  obtain ⟨g, hg⟩ : ∃ g, g = w.heap.size := ⟨_, rfl⟩
  have hB1H := Lib.hid hB1
  have Z1H := Lib.hid Z1
  rw [← hg] at c8 c9 hrg ⊢
  have lg : g < w1.heap.size := by omega
  have HG := Lib.hid hg
  clear hg Z1 X1 hB1
  obtain ⟨S2, hS2⟩ : ∃ x, x = wordsOf s (rest ++ padL n) := ⟨_, rfl⟩
  have HS2 := Lib.hid hS2
  have HNB : Hid (n ≤ 1000000000) := HN
  have HR1 := Lib.hid (HR.out.on hB1H.out)
  have HP1 := Lib.hid (HP.out.on hB1H.out)
  have HSZ : Hid ((rest ++ padL n).length ≤ 140737488355328) := Lib.hid (by
    have h1 := padT_len n 8 (by omega)
    rw [padT_all] at h1
    have h2 := noughts_lt n
    have h3 := HK.out
    have h4 := HK64.out
    rw [List.length_append, h1]
    omega)
  clear hS2
  go_cut [4, 5] (fun p _ wx => ∃ h, p = .pointer (some ⟨h, 0, none⟩) ∧ Hid (w1.heap.size ≤ h ∧ Box wx h 33 (stA S2)) ∧ Hid (Below w1.heap.size w1 wx))
  case first =>
    rename_i J2 K2 hJ hK2
    refine wp_region_held_drew (S := fun w' => Below w1.heap.size w1 w') (by kernel_rfl) ((Below.refl _ _).drew) (fun hHeld => ?_)
    (refine wpAnyH_take (i := 0) (v := ?_) rfl (by kernel_rfl) (by kernel_rfl) (by kernel_rfl) (fun _ _ _ h => h) (Or.inl ⟨by rfl, ?_⟩) hHeld ?_; rotate_left)
    · (intro w hSw; go_simp; try with_reducible rfl)
    (try simp only [Act.put, List.setIfInBounds_toArray])
    (refine wpAnyH_take (i := 2) (v := ?_) rfl (by kernel_rfl) (by kernel_rfl) (by kernel_rfl) (fun _ _ _ h => h) (Or.inl ⟨by rfl, ?_⟩) hHeld ?_; rotate_left)
    · (intro w hSw; go_simp; try with_reducible rfl)
    (try simp only [Act.put])
    (refine wpAnyH_take (i := 4) (v := ?_) rfl (by kernel_rfl) (by kernel_rfl) (by kernel_rfl) (fun _ _ _ h => h) (Or.inl ⟨by rfl, ?_⟩) hHeld ?_; rotate_left)
    · (intro w hSw; go_simp; try with_reducible rfl)
    (try simp only [Act.put])
    (refine wpAnyH_take (i := 3) (v := ?_) rfl (by kernel_rfl) (by kernel_rfl) (by kernel_rfl) (fun _ _ _ h => h) (Or.inl ⟨by rfl, ?_⟩) hHeld ?_; rotate_left)
    · (intro w hSw; have hc := (hSw.cell (p := ⟨g, 8, none⟩) lg).trans c8; go_simp; try with_reducible rfl)
    (try simp only [Act.put])
    (refine wpAnyH_take (i := 5) (v := ?_) rfl (by kernel_rfl) (by kernel_rfl) (by kernel_rfl) (fun _ _ _ h => h) (Or.inl ⟨by rfl, ?_⟩) hHeld ?_; rotate_left)
    · (intro w hSw; have hc := (hSw.cell (p := ⟨g, 9, none⟩) lg).trans c9; go_simp; try with_reducible rfl)
    (try simp only [Act.put])
    refine wpAnyH_take (i := 1) (v := _) rfl (by kernel_rfl) (by kernel_rfl) (by kernel_rfl) (fun _ _ _ h => h) (yieldsIf_load_mid (by rfl) 33 (.tmp 11) rfl g 0 rfl (wordsV s) (.array 8 30) (fun _ h => range_on hrg h lg) hu rfl hi) hHeld ?_
    (try simp only [Act.put])
    refine wpAnyH_ready (rs := [6, 12]) (by kernel_rfl) (by simp) (AllReadyH.cons (o := _) rfl (fun K hK => ?_) (AllReadyH.cons (o := _) rfl (fun K hK => ?_) AllReadyH.nil))
    · go_simp
      refine (padding_any n (by have := HNB.out; omega) _).mono ?_
      rintro e wa ⟨pv, rfl, hpo, hba⟩
      have hpr := Rd.of_own hpo
      obtain ⟨pa, pcap, rfl, _⟩ := id hpr
      refine hK.out _ _ (bch hHeld hba) (fun hHeld => ?_)
      (try simp only [Act.put, List.setIfInBounds_toArray, List.set_cons_zero, List.set_cons_succ])
      refine wpAnyH_ready (rs := [7, 12]) (by kernel_rfl) (by simp) (AllReadyH.cons (o := _) rfl (fun K hK => ?_) (AllReadyH.cons (o := _) rfl (fun K hK => ?_) AllReadyH.nil))
      · go_simp
        have hpair := pair_rd (HR1.out.on hHeld) hpr
        refine hK.out _ _ (bch hHeld (below_new _ _)) (fun hHeld => ?_)
        (try simp only [Act.put, List.setIfInBounds_toArray, List.set_cons_zero, List.set_cons_succ])
        refine wpAnyH_ready (rs := [8, 12]) (by kernel_rfl) (by simp) (AllReadyH.cons (o := _) rfl (fun K hK => ?_) (AllReadyH.cons (o := _) rfl (fun K hK => ?_) AllReadyH.nil))
        · go_simp
          refine (takeIn_any s [rest, padL n] (rest ++ padL n) (by simp) _ t fr _ (HP1.out.on hHeld) hpair HSZ.out).mono ?_
          rintro e wa ⟨v', rfl, _, hba⟩
          rw [← HS2.out]
          refine hK.out _ _ (bch hHeld hba) (fun hHeld => ?_)
          (try simp only [Act.put, List.setIfInBounds_toArray, List.set_cons_zero, List.set_cons_succ])
          (refine wpAnyH_take (i := 9) (v := ?_) rfl (by kernel_rfl) (by kernel_rfl) (by kernel_rfl) (fun _ _ _ h => h) (Or.inl ⟨by rfl, ?_⟩) hHeld ?_; rotate_left)
          · (intro w hSw; go_simp; try with_reducible rfl)
          (try simp only [Act.put, List.setIfInBounds_toArray])
          (refine wpAnyH_take (i := 10) (v := ?_) rfl (by kernel_rfl) (by kernel_rfl) (by kernel_rfl) (fun _ _ _ h => h) (Or.inl ⟨by rfl, ?_⟩) hHeld ?_; rotate_left)
          · (intro w hSw; go_simp; try with_reducible rfl)
          (try simp only [Act.put])
          (refine wpAnyH_take (i := 11) (v := ?_) rfl (by kernel_rfl) (by kernel_rfl) (by kernel_rfl) (fun _ _ _ h => h) (Or.inl ⟨by rfl, ?_⟩) hHeld ?_; rotate_left)
          · (intro w hSw; go_simp; try with_reducible rfl)
          (try simp only [Act.put])
          refine wpAnyH_ready (rs := [12]) (by kernel_rfl) (by simp) (AllReadyH.cons (o := _) rfl (fun K hK => ?_) AllReadyH.nil)
          · go_simp
            have hzl := hHeld.size
            obtain ⟨hzl, hz⟩ := boxz_new hHeld
            refine hK.out _ _ (bch hHeld (below_new _ _)) (fun hHeld => ?_)
            (try simp only [Act.put, List.setIfInBounds_toArray, List.set_cons_zero, List.set_cons_succ])
            refine wpAnyH_ready (rs := [13]) (by kernel_rfl) (by simp) (AllReadyH.cons (o := { dst := none, op := .store 33 (.tmp 4) (.tmp 20), type := 0, pos := "sha.go:48", after := #[{ on := 12, ground := .data }, { on := 10, ground := .data }, { on := 8, ground := .chain }, { on := 0, ground := .phase }, { on := 1, ground := .phase }, { on := 2, ground := .phase }, { on := 3, ground := .phase }, { on := 4, ground := .phase }, { on := 5, ground := .phase }, { on := 6, ground := .phase }, { on := 7, ground := .phase }, { on := 8, ground := .phase }, { on := 9, ground := .phase }, { on := 10, ground := .phase }, { on := 11, ground := .textOnly .lateStores }, { on := 12, ground := .phase }], guard := none }) rfl (fun K hK => ?_) AllReadyH.nil)
            refine wp_store_if (by rfl) 33 (.tmp 4) (.tmp 20) rfl _ 33 #[z32, z32, z32, z32, z32, z32, z32, z32] (stA S2) rfl rfl hz info33 rfl (stA_one S2) ?_
            have hz2 := hz.row (stA S2)
            have hb2 := below_row hHeld hzl (stA S2)
            refine hK.out _ _ hb2 (fun hHeld => ?_)
            (try simp only [Act.put])
            refine wpAnyH_take (i := 14) (oi := { dst := some 5, op := .assign (.tmp 21), type := 24, pos := "sha.go:48", after := #[{ on := 11, ground := .data }, { on := 13, ground := .chain }, { on := 0, ground := .phase }, { on := 1, ground := .phase }, { on := 2, ground := .phase }, { on := 3, ground := .phase }, { on := 4, ground := .phase }, { on := 5, ground := .phase }, { on := 6, ground := .phase }, { on := 7, ground := .phase }, { on := 8, ground := .phase }, { on := 9, ground := .phase }, { on := 10, ground := .phase }, { on := 11, ground := .phase }, { on := 12, ground := .phase }, { on := 13, ground := .phase }], guard := none }) (v := ?_) rfl (by kernel_rfl) (by kernel_rfl) (by kernel_rfl) (fun _ _ _ h => h) (Or.inl ⟨by rfl, ?_⟩) hHeld ?_
            rotate_left
            · (intro w hSw; go_simp; try with_reducible rfl)
            (try simp only [Act.put, List.setIfInBounds_toArray, List.set_cons_zero, List.set_cons_succ])
            refine wpAnyH_done (by kernel_rfl) ?_ _
            first | refine hK2 _ _ (Met.intro (hJ _ _ ?_)) | refine Met.intro (hJ _ _ ?_)
            exact ⟨_, _, _, _, _, _, _, _, _, _, _, _, _, _, _, _, _, _, _, _, ⟨_, rfl, Lib.hid ⟨hzl, hz2⟩, Lib.hid hHeld⟩, rfl⟩
        · go_simp
          have hzl := hHeld.size
          obtain ⟨hzl, hz⟩ := boxz_new hHeld
          refine hK.out _ _ (bch hHeld (below_new _ _)) (fun hHeld => ?_)
          (try simp only [Act.put, List.setIfInBounds_toArray, List.set_cons_zero, List.set_cons_succ])
          have hpair := hpair.on (below_new _ (.cells #[z32, z32, z32, z32, z32, z32, z32, z32] 33))
          simp only [World.size_alloc] at hzl hz
          refine wpAnyH_ready (rs := [8]) (by kernel_rfl) (by simp) (AllReadyH.cons (o := _) rfl (fun K hK => ?_) AllReadyH.nil)
          · go_simp
            refine (takeIn_any s [rest, padL n] (rest ++ padL n) (by simp) _ t fr _ (HP1.out.on hHeld) hpair HSZ.out).mono ?_
            rintro e wa ⟨v', rfl, _, hba⟩
            rw [← HS2.out]
            have hz := hz.below hba hz.lt
            refine hK.out _ _ (bch hHeld hba) (fun hHeld => ?_)
            (try simp only [Act.put, List.setIfInBounds_toArray, List.set_cons_zero, List.set_cons_succ])
            (refine wpAnyH_take (i := 9) (v := ?_) rfl (by kernel_rfl) (by kernel_rfl) (by kernel_rfl) (fun _ _ _ h => h) (Or.inl ⟨by rfl, ?_⟩) hHeld ?_; rotate_left)
            · (intro w hSw; go_simp; try with_reducible rfl)
            (try simp only [Act.put, List.setIfInBounds_toArray])
            (refine wpAnyH_take (i := 10) (v := ?_) rfl (by kernel_rfl) (by kernel_rfl) (by kernel_rfl) (fun _ _ _ h => h) (Or.inl ⟨by rfl, ?_⟩) hHeld ?_; rotate_left)
            · (intro w hSw; go_simp; try with_reducible rfl)
            (try simp only [Act.put])
            (refine wpAnyH_take (i := 11) (v := ?_) rfl (by kernel_rfl) (by kernel_rfl) (by kernel_rfl) (fun _ _ _ h => h) (Or.inl ⟨by rfl, ?_⟩) hHeld ?_; rotate_left)
            · (intro w hSw; go_simp; try with_reducible rfl)
            (try simp only [Act.put])
            refine wpAnyH_ready (rs := [13]) (by kernel_rfl) (by simp) (AllReadyH.cons (o := { dst := none, op := .store 33 (.tmp 4) (.tmp 20), type := 0, pos := "sha.go:48", after := #[{ on := 12, ground := .data }, { on := 10, ground := .data }, { on := 8, ground := .chain }, { on := 0, ground := .phase }, { on := 1, ground := .phase }, { on := 2, ground := .phase }, { on := 3, ground := .phase }, { on := 4, ground := .phase }, { on := 5, ground := .phase }, { on := 6, ground := .phase }, { on := 7, ground := .phase }, { on := 8, ground := .phase }, { on := 9, ground := .phase }, { on := 10, ground := .phase }, { on := 11, ground := .textOnly .lateStores }, { on := 12, ground := .phase }], guard := none }) rfl (fun K hK => ?_) AllReadyH.nil)
            refine wp_store_if (by rfl) 33 (.tmp 4) (.tmp 20) rfl _ 33 #[z32, z32, z32, z32, z32, z32, z32, z32] (stA S2) rfl rfl hz info33 rfl (stA_one S2) ?_
            have hz2 := hz.row (stA S2)
            have hb2 := below_row hHeld hzl (stA S2)
            refine hK.out _ _ hb2 (fun hHeld => ?_)
            (try simp only [Act.put])
            refine wpAnyH_take (i := 14) (oi := { dst := some 5, op := .assign (.tmp 21), type := 24, pos := "sha.go:48", after := #[{ on := 11, ground := .data }, { on := 13, ground := .chain }, { on := 0, ground := .phase }, { on := 1, ground := .phase }, { on := 2, ground := .phase }, { on := 3, ground := .phase }, { on := 4, ground := .phase }, { on := 5, ground := .phase }, { on := 6, ground := .phase }, { on := 7, ground := .phase }, { on := 8, ground := .phase }, { on := 9, ground := .phase }, { on := 10, ground := .phase }, { on := 11, ground := .phase }, { on := 12, ground := .phase }, { on := 13, ground := .phase }], guard := none }) (v := ?_) rfl (by kernel_rfl) (by kernel_rfl) (by kernel_rfl) (fun _ _ _ h => h) (Or.inl ⟨by rfl, ?_⟩) hHeld ?_
            rotate_left
            · (intro w hSw; go_simp; try with_reducible rfl)
            (try simp only [Act.put])
            refine wpAnyH_done (by kernel_rfl) ?_ _
            first | refine hK2 _ _ (Met.intro (hJ _ _ ?_)) | refine Met.intro (hJ _ _ ?_)
            exact ⟨_, _, _, _, _, _, _, _, _, _, _, _, _, _, _, _, _, _, _, _, ⟨_, rfl, Lib.hid ⟨hzl, hz2⟩, Lib.hid hHeld⟩, rfl⟩
      · go_simp
        have hzl := hHeld.size
        obtain ⟨hzl, hz⟩ := boxz_new hHeld
        refine hK.out _ _ (bch hHeld (below_new _ _)) (fun hHeld => ?_)
        (try simp only [Act.put, List.setIfInBounds_toArray, List.set_cons_zero, List.set_cons_succ])
        have hpr := hpr.on (below_new _ (.cells #[z32, z32, z32, z32, z32, z32, z32, z32] 33))
        obtain ⟨wz, hwz⟩ : ∃ x, x = World.alloc wa (.cells #[z32, z32, z32, z32, z32, z32, z32, z32] 33) := ⟨_, rfl⟩
        rw [← hwz] at hz hpr hHeld ⊢
        clear hwz
        refine wpAnyH_ready (rs := [7]) (by kernel_rfl) (by simp) (AllReadyH.cons (o := _) rfl (fun K hK => ?_) AllReadyH.nil)
        · go_simp
          have hpair := pair_rd (HR1.out.on hHeld) hpr
          have hz := hz.alloc (.cells #[.slice a k c, .slice pa (bytesV (padL n)).length pcap] 24)
          refine hK.out _ _ (bch hHeld (below_new _ _)) (fun hHeld => ?_)
          (try simp only [Act.put, List.setIfInBounds_toArray, List.set_cons_zero, List.set_cons_succ])
          refine wpAnyH_ready (rs := [8]) (by kernel_rfl) (by simp) (AllReadyH.cons (o := _) rfl (fun K hK => ?_) AllReadyH.nil)
          · go_simp
            refine (takeIn_any s [rest, padL n] (rest ++ padL n) (by simp) _ t fr _ (HP1.out.on hHeld) hpair HSZ.out).mono ?_
            rintro e wa ⟨v', rfl, _, hba⟩
            rw [← HS2.out]
            have hz := hz.below hba hz.lt
            refine hK.out _ _ (bch hHeld hba) (fun hHeld => ?_)
            (try simp only [Act.put, List.setIfInBounds_toArray, List.set_cons_zero, List.set_cons_succ])
            (refine wpAnyH_take (i := 9) (v := ?_) rfl (by kernel_rfl) (by kernel_rfl) (by kernel_rfl) (fun _ _ _ h => h) (Or.inl ⟨by rfl, ?_⟩) hHeld ?_; rotate_left)
            · (intro w hSw; go_simp; try with_reducible rfl)
            (try simp only [Act.put, List.setIfInBounds_toArray])
            (refine wpAnyH_take (i := 10) (v := ?_) rfl (by kernel_rfl) (by kernel_rfl) (by kernel_rfl) (fun _ _ _ h => h) (Or.inl ⟨by rfl, ?_⟩) hHeld ?_; rotate_left)
            · (intro w hSw; go_simp; try with_reducible rfl)
            (try simp only [Act.put])
            (refine wpAnyH_take (i := 11) (v := ?_) rfl (by kernel_rfl) (by kernel_rfl) (by kernel_rfl) (fun _ _ _ h => h) (Or.inl ⟨by rfl, ?_⟩) hHeld ?_; rotate_left)
            · (intro w hSw; go_simp; try with_reducible rfl)
            (try simp only [Act.put])
            refine wpAnyH_ready (rs := [13]) (by kernel_rfl) (by simp) (AllReadyH.cons (o := { dst := none, op := .store 33 (.tmp 4) (.tmp 20), type := 0, pos := "sha.go:48", after := #[{ on := 12, ground := .data }, { on := 10, ground := .data }, { on := 8, ground := .chain }, { on := 0, ground := .phase }, { on := 1, ground := .phase }, { on := 2, ground := .phase }, { on := 3, ground := .phase }, { on := 4, ground := .phase }, { on := 5, ground := .phase }, { on := 6, ground := .phase }, { on := 7, ground := .phase }, { on := 8, ground := .phase }, { on := 9, ground := .phase }, { on := 10, ground := .phase }, { on := 11, ground := .textOnly .lateStores }, { on := 12, ground := .phase }], guard := none }) rfl (fun K hK => ?_) AllReadyH.nil)
            refine wp_store_if (by rfl) 33 (.tmp 4) (.tmp 20) rfl _ 33 #[z32, z32, z32, z32, z32, z32, z32, z32] (stA S2) rfl rfl hz info33 rfl (stA_one S2) ?_
            have hz2 := hz.row (stA S2)
            have hb2 := below_row hHeld hzl (stA S2)
            refine hK.out _ _ hb2 (fun hHeld => ?_)
            (try simp only [Act.put])
            refine wpAnyH_take (i := 14) (oi := { dst := some 5, op := .assign (.tmp 21), type := 24, pos := "sha.go:48", after := #[{ on := 11, ground := .data }, { on := 13, ground := .chain }, { on := 0, ground := .phase }, { on := 1, ground := .phase }, { on := 2, ground := .phase }, { on := 3, ground := .phase }, { on := 4, ground := .phase }, { on := 5, ground := .phase }, { on := 6, ground := .phase }, { on := 7, ground := .phase }, { on := 8, ground := .phase }, { on := 9, ground := .phase }, { on := 10, ground := .phase }, { on := 11, ground := .phase }, { on := 12, ground := .phase }, { on := 13, ground := .phase }], guard := none }) (v := ?_) rfl (by kernel_rfl) (by kernel_rfl) (by kernel_rfl) (fun _ _ _ h => h) (Or.inl ⟨by rfl, ?_⟩) hHeld ?_
            rotate_left
            · (intro w hSw; go_simp; try with_reducible rfl)
            (try simp only [Act.put])
            refine wpAnyH_done (by kernel_rfl) ?_ _
            first | refine hK2 _ _ (Met.intro (hJ _ _ ?_)) | refine Met.intro (hJ _ _ ?_)
            exact ⟨_, _, _, _, _, _, _, _, _, _, _, _, _, _, _, _, _, _, _, _, ⟨_, rfl, Lib.hid ⟨hzl, hz2⟩, Lib.hid hHeld⟩, rfl⟩
    · go_simp
      have hzl := hHeld.size
      obtain ⟨hzl, hz⟩ := boxz_new hHeld
      refine hK.out _ _ (bch hHeld (below_new _ _)) (fun hHeld => ?_)
      (try simp only [Act.put, List.setIfInBounds_toArray, List.set_cons_zero, List.set_cons_succ])
      refine wpAnyH_ready (rs := [6]) (by kernel_rfl) (by simp) (AllReadyH.cons (o := _) rfl (fun K hK => ?_) AllReadyH.nil)
      · go_simp
        refine (padding_any n (by have := HNB.out; omega) _).mono ?_
        rintro e wa ⟨pv, rfl, hpo, hba⟩
        have hpr := Rd.of_own hpo
        obtain ⟨pa, pcap, rfl, _⟩ := id hpr
        have hz := hz.below hba hz.lt
        refine hK.out _ _ (bch hHeld hba) (fun hHeld => ?_)
        (try simp only [Act.put, List.setIfInBounds_toArray, List.set_cons_zero, List.set_cons_succ])
        refine wpAnyH_ready (rs := [7]) (by kernel_rfl) (by simp) (AllReadyH.cons (o := _) rfl (fun K hK => ?_) AllReadyH.nil)
        · go_simp
          have hpair := pair_rd (HR1.out.on hHeld) hpr
          have hz := hz.alloc (.cells #[.slice a k c, .slice pa (bytesV (padL n)).length pcap] 24)
          refine hK.out _ _ (bch hHeld (below_new _ _)) (fun hHeld => ?_)
          (try simp only [Act.put, List.setIfInBounds_toArray, List.set_cons_zero, List.set_cons_succ])
          refine wpAnyH_ready (rs := [8]) (by kernel_rfl) (by simp) (AllReadyH.cons (o := _) rfl (fun K hK => ?_) AllReadyH.nil)
          · go_simp
            refine (takeIn_any s [rest, padL n] (rest ++ padL n) (by simp) _ t fr _ (HP1.out.on hHeld) hpair HSZ.out).mono ?_
            rintro e wa ⟨v', rfl, _, hba⟩
            rw [← HS2.out]
            have hz := hz.below hba hz.lt
            refine hK.out _ _ (bch hHeld hba) (fun hHeld => ?_)
            (try simp only [Act.put, List.setIfInBounds_toArray, List.set_cons_zero, List.set_cons_succ])
            (refine wpAnyH_take (i := 9) (v := ?_) rfl (by kernel_rfl) (by kernel_rfl) (by kernel_rfl) (fun _ _ _ h => h) (Or.inl ⟨by rfl, ?_⟩) hHeld ?_; rotate_left)
            · (intro w hSw; go_simp; try with_reducible rfl)
            (try simp only [Act.put, List.setIfInBounds_toArray])
            (refine wpAnyH_take (i := 10) (v := ?_) rfl (by kernel_rfl) (by kernel_rfl) (by kernel_rfl) (fun _ _ _ h => h) (Or.inl ⟨by rfl, ?_⟩) hHeld ?_; rotate_left)
            · (intro w hSw; go_simp; try with_reducible rfl)
            (try simp only [Act.put])
            (refine wpAnyH_take (i := 11) (v := ?_) rfl (by kernel_rfl) (by kernel_rfl) (by kernel_rfl) (fun _ _ _ h => h) (Or.inl ⟨by rfl, ?_⟩) hHeld ?_; rotate_left)
            · (intro w hSw; go_simp; try with_reducible rfl)
            (try simp only [Act.put])
            refine wpAnyH_ready (rs := [13]) (by kernel_rfl) (by simp) (AllReadyH.cons (o := { dst := none, op := .store 33 (.tmp 4) (.tmp 20), type := 0, pos := "sha.go:48", after := #[{ on := 12, ground := .data }, { on := 10, ground := .data }, { on := 8, ground := .chain }, { on := 0, ground := .phase }, { on := 1, ground := .phase }, { on := 2, ground := .phase }, { on := 3, ground := .phase }, { on := 4, ground := .phase }, { on := 5, ground := .phase }, { on := 6, ground := .phase }, { on := 7, ground := .phase }, { on := 8, ground := .phase }, { on := 9, ground := .phase }, { on := 10, ground := .phase }, { on := 11, ground := .textOnly .lateStores }, { on := 12, ground := .phase }], guard := none }) rfl (fun K hK => ?_) AllReadyH.nil)
            refine wp_store_if (by rfl) 33 (.tmp 4) (.tmp 20) rfl _ 33 #[z32, z32, z32, z32, z32, z32, z32, z32] (stA S2) rfl rfl hz info33 rfl (stA_one S2) ?_
            have hz2 := hz.row (stA S2)
            have hb2 := below_row hHeld hzl (stA S2)
            refine hK.out _ _ hb2 (fun hHeld => ?_)
            (try simp only [Act.put])
            refine wpAnyH_take (i := 14) (oi := { dst := some 5, op := .assign (.tmp 21), type := 24, pos := "sha.go:48", after := #[{ on := 11, ground := .data }, { on := 13, ground := .chain }, { on := 0, ground := .phase }, { on := 1, ground := .phase }, { on := 2, ground := .phase }, { on := 3, ground := .phase }, { on := 4, ground := .phase }, { on := 5, ground := .phase }, { on := 6, ground := .phase }, { on := 7, ground := .phase }, { on := 8, ground := .phase }, { on := 9, ground := .phase }, { on := 10, ground := .phase }, { on := 11, ground := .phase }, { on := 12, ground := .phase }, { on := 13, ground := .phase }], guard := none }) (v := ?_) rfl (by kernel_rfl) (by kernel_rfl) (by kernel_rfl) (fun _ _ _ h => h) (Or.inl ⟨by rfl, ?_⟩) hHeld ?_
            rotate_left
            · (intro w hSw; go_simp; try with_reducible rfl)
            (try simp only [Act.put])
            refine wpAnyH_done (by kernel_rfl) ?_ _
            first | refine hK2 _ _ (Met.intro (hJ _ _ ?_)) | refine Met.intro (hJ _ _ ?_)
            exact ⟨_, _, _, _, _, _, _, _, _, _, _, _, _, _, _, _, _, _, _, _, ⟨_, rfl, Lib.hid ⟨hzl, hz2⟩, Lib.hid hHeld⟩, rfl⟩
  case rest =>
    obtain ⟨h, rfl, HH, HBW⟩ := hcut
    have hB2 : Below w.heap.size w wc := bch hB1H.out HBW.out
    have Zc : Hid (Box wc (g + 1) 27 (part z8 [] 32 0)) := Lib.hid (by rw [HG.out]; exact Z1H.out.below HBW.out Z1H.out.lt)
    clear hrg c8 c9
    go_wp2_with (refine wpList_load_row rfl 33 (.tmp 4) rfl h rfl 33 (stA S2) (0, 0) (.array 8 30) HH.out.2 Tryd.underlying33 rfl (info33s _) ?_)
    refine (digest_any S2 _).mono ?_
    rintro e w6 ⟨rfl, hb6⟩
    have HX9 : Hid (Box w6 (g + 1) 27 (part z8 [] 32 0)) := Lib.hid (Zc.out.below hb6 Zc.out.lt)
    have HB9 := Lib.hid (bch hB2 hb6)
    go_wp2_with (refine wpList_store_row rfl 27 (.tmp 2) (.tmp 23) rfl (g + 1) (bytesA (digestL S2)) rfl rfl 27 (part z8 [] 32 0) HX9.out (info27b _ (digestL_len _)) (zeros32 _ (digestL_len _)) (bytesA_one _) ?_)
    refine bodyPost_ret (results_two rfl _ _ (g + 1) rfl (bytesA (digestL S2)) (run_loadVar_row _ (g + 1) 27 27 (bytesA (digestL S2)) (0, 0) (.array 32 5) (setRow_heap _ _ _ _ _ _ HX9.out) Tryd.underlying27 rfl (info27b _ (digestL_len _)))) rfl ⟨?_, below_row HB9.out (by rw [HG.out]; omega) _⟩
    rw [← HS2.out]
    rfl
end Go.Proofs.YtkenbppoldfecaaDoor
