/- Proved here: ClaimParts of puncheonlaw16 answers true for all rows of numbers. -/
import Derived.Test.YtgmplpfbhcdofaaGreatGSet
import Derived.Deep.DeepCutAuto
namespace Go.Proofs.YtgmplpfbhcdofaaGreat
open Go.RowKit Go.Shelf Go.Lib
attribute [local go_sem] Oper.semAt_some

set_option maxRecDepth 100000 in
set_option maxHeartbeats 3000000 in
theorem parts_law (A0 B0 C0 : List Int) (v1 v2 v3 : Value) (w : World) (h1 : Rd w v1 (intsV A0)) (h2 : Rd w v2 (intsV B0)) (h3 : Rd w v3 (intsV C0)) : Calls Tryz.prog 5 #[v1, v2, v3] w fun e w' => e = .returned (.bool true) ∧ Below w.heap.size w w' := by
  have H1 := Lib.hid h1
  have H2 := Lib.hid h2
  have H3 := Lib.hid h3
  obtain ⟨a1, c1, rfl, hc1, hm1, _⟩ := h1
  rw [intsV_len] at H1 hc1 ⊢
  obtain ⟨a2, c2, rfl, hc2, hm2, _⟩ := h2
  rw [intsV_len] at H2 hc2 ⊢
  obtain ⟨a3, c3, rfl, hc3, hm3, _⟩ := h3
  rw [intsV_len] at H3 hc3 ⊢
  obtain ⟨n1, hn1⟩ : ∃ n, n = A0.length := ⟨_, rfl⟩
  rw [← hn1] at H1 hc1 ⊢
  obtain ⟨m1, hmm1⟩ : ∃ m, m = min n1 30 := ⟨_, rfl⟩
  have p1 : min (n1 : Int) 30 = (m1 : Int) := by omega
  have q1 : (0 : Int) ≤ (m1 : Int) := by omega
  have r1 : (m1 : Int) ≤ (c1 : Int) := by omega
  have s1 : m1 ≤ n1 := by omega
  have t1 : m1 ≤ 30 := by omega
  have HA := Lib.hid (H1.out.cut s1)
  have HLA : Hid ((A0.take m1).length = m1) := Lib.hid (by rw [List.length_take]; omega)
  obtain ⟨A, hA⟩ : ∃ z, z = A0.take m1 := ⟨_, rfl⟩
  rw [← hA] at HA HLA
  clear hn1 hmm1 hA hm1 hc1
  obtain ⟨n2, hn2⟩ : ∃ n, n = B0.length := ⟨_, rfl⟩
  rw [← hn2] at H2 hc2 ⊢
  obtain ⟨m2, hmm2⟩ : ∃ m, m = min n2 30 := ⟨_, rfl⟩
  have p2 : min (n2 : Int) 30 = (m2 : Int) := by omega
  have q2 : (0 : Int) ≤ (m2 : Int) := by omega
  have r2 : (m2 : Int) ≤ (c2 : Int) := by omega
  have s2 : m2 ≤ n2 := by omega
  have t2 : m2 ≤ 30 := by omega
  have HB_ := Lib.hid (H2.out.cut s2)
  have HLB : Hid ((B0.take m2).length = m2) := Lib.hid (by rw [List.length_take]; omega)
  obtain ⟨B, hB⟩ : ∃ z, z = B0.take m2 := ⟨_, rfl⟩
  rw [← hB] at HB_ HLB
  clear hn2 hmm2 hB hm2 hc2
  obtain ⟨n3, hn3⟩ : ∃ n, n = C0.length := ⟨_, rfl⟩
  rw [← hn3] at H3 hc3 ⊢
  obtain ⟨m3, hmm3⟩ : ∃ m, m = min n3 30 := ⟨_, rfl⟩
  have p3 : min (n3 : Int) 30 = (m3 : Int) := by omega
  have q3 : (0 : Int) ≤ (m3 : Int) := by omega
  have r3 : (m3 : Int) ≤ (c3 : Int) := by omega
  have s3 : m3 ≤ n3 := by omega
  have t3 : m3 ≤ 30 := by omega
  have HC := Lib.hid (H3.out.cut s3)
  have HLC : Hid ((C0.take m3).length = m3) := Lib.hid (by rw [List.length_take]; omega)
  obtain ⟨C, hC⟩ : ∃ z, z = C0.take m3 := ⟨_, rfl⟩
  rw [← hC] at HC HLC
  clear hn3 hmm3 hC hm3 hc3
  go_enter Tryz.func5, Tryz.ntmps5
  go_upto_region 3 with (go_at_call 6; refine (wakes_any _).mono ?_; rintro e w1 ⟨rfl, hb⟩; have HB1 := Lib.hid hb; clear hb)
  go_cut [0, 1, 2] (fun p0 p1 p2 wx => p0 = .slice a1 m1 c1 ∧ p1 = .slice a2 m2 c2 ∧ p2 = .slice a3 m3 c3 ∧ Hid (Below w1.heap.size w1 wx))
  case first =>
    rename_i J2 K2 hJ hK2
    obtain ⟨v0, hv0⟩ : ∃ q, q = World.drew w1 := ⟨_, rfl⟩
    refine wp_region_held_drew (S := fun w' => Below w1.heap.size w1 w') (by kernel_rfl) (below_drewN (Below.refl _ _) 1) (fun hHeld => ?_)
    rw [← hv0] at hHeld ⊢
    clear hv0
    refine wpAnyH_take (i := 0) (oi := { dst := some 16, op := Op.move (Operand.tmp 0), type := 22, pos := "outright.go:16", after := #[], guard := none }) (v := ?_) rfl (by kernel_rfl) (by kernel_rfl) (by kernel_rfl) (fun _ _ _ h => h) (Or.inl ⟨by rfl, ?_⟩) hHeld ?_
    rotate_left
    · (intro w hSw; go_simp; try with_reducible rfl)
    (try simp only [Act.put, List.setIfInBounds_toArray, List.set_cons_zero, List.set_cons_succ])
    refine wpAnyH_take (i := 1) (oi := { dst := some 17, op := Op.move (Operand.tmp 0), type := 22, pos := "outright.go:16", after := #[], guard := none }) (v := ?_) rfl (by kernel_rfl) (by kernel_rfl) (by kernel_rfl) (fun _ _ _ h => h) (Or.inl ⟨by rfl, ?_⟩) hHeld ?_
    rotate_left
    · (intro w hSw; go_simp; try with_reducible rfl)
    (try simp only [Act.put, List.setIfInBounds_toArray, List.set_cons_zero, List.set_cons_succ])
    refine wpAnyH_take (i := 2) (oi := { dst := some 18, op := Op.call { callee := Callee.builtin Builtin.len, args := #[Operand.tmp 17], argTypes := #[22] }, type := 3, pos := "outright.go:16", after := #[{ on := 1, ground := Ground.data }], guard := none }) (v := ?_) rfl (by kernel_rfl) (by kernel_rfl) (by kernel_rfl) (fun _ _ _ h => h) (Or.inl ⟨by rfl, ?_⟩) hHeld ?_
    rotate_left
    · (intro w hSw; go_simp; try with_reducible rfl)
    (try simp only [Act.put, List.setIfInBounds_toArray, List.set_cons_zero, List.set_cons_succ])
    refine wpAnyH_take (i := 3) (oi := { dst := some 19, op := Op.call { callee := Callee.builtin Builtin.min, args := #[Operand.tmp 18, Operand.const (Value.int IntKind.i64 30)], argTypes := #[3, 3] }, type := 3, pos := "outright.go:16", after := #[{ on := 2, ground := Ground.data }], guard := none }) (v := ?_) rfl (by kernel_rfl) (by kernel_rfl) (by kernel_rfl) (fun _ _ _ h => h) (Or.inl ⟨by rfl, ?_⟩) hHeld ?_
    rotate_left
    · (intro w hSw; go_simp; try with_reducible rfl)
    (try simp only [Act.put, List.setIfInBounds_toArray, List.set_cons_zero, List.set_cons_succ])
    refine wpAnyH_take (i := 4) (oi := { dst := some 20, op := Op.slice 22 (Operand.tmp 16) none (some (Operand.tmp 19)) none, type := 22, pos := "outright.go:16", after := #[{ on := 0, ground := Ground.data }, { on := 3, ground := Ground.data }], guard := none }) (v := ?_) rfl (by kernel_rfl) (by kernel_rfl) (by kernel_rfl) (fun _ _ _ h => h) (Or.inl ⟨by rfl, ?_⟩) hHeld ?_
    rotate_left
    · (intro w hSw; go_simp; try with_reducible rfl)
    (try simp only [Act.put, List.setIfInBounds_toArray, List.set_cons_zero, List.set_cons_succ])
    refine wpAnyH_take (i := 5) (oi := { dst := some 21, op := Op.move (Operand.tmp 1), type := 22, pos := "outright.go:16", after := #[], guard := none }) (v := ?_) rfl (by kernel_rfl) (by kernel_rfl) (by kernel_rfl) (fun _ _ _ h => h) (Or.inl ⟨by rfl, ?_⟩) hHeld ?_
    rotate_left
    · (intro w hSw; go_simp; try with_reducible rfl)
    (try simp only [Act.put, List.setIfInBounds_toArray, List.set_cons_zero, List.set_cons_succ])
    refine wpAnyH_take (i := 6) (oi := { dst := some 22, op := Op.move (Operand.tmp 1), type := 22, pos := "outright.go:16", after := #[], guard := none }) (v := ?_) rfl (by kernel_rfl) (by kernel_rfl) (by kernel_rfl) (fun _ _ _ h => h) (Or.inl ⟨by rfl, ?_⟩) hHeld ?_
    rotate_left
    · (intro w hSw; go_simp; try with_reducible rfl)
    (try simp only [Act.put, List.setIfInBounds_toArray, List.set_cons_zero, List.set_cons_succ])
    refine wpAnyH_take (i := 7) (oi := { dst := some 23, op := Op.call { callee := Callee.builtin Builtin.len, args := #[Operand.tmp 22], argTypes := #[22] }, type := 3, pos := "outright.go:16", after := #[{ on := 6, ground := Ground.data }], guard := none }) (v := ?_) rfl (by kernel_rfl) (by kernel_rfl) (by kernel_rfl) (fun _ _ _ h => h) (Or.inl ⟨by rfl, ?_⟩) hHeld ?_
    rotate_left
    · (intro w hSw; go_simp; try with_reducible rfl)
    (try simp only [Act.put, List.setIfInBounds_toArray, List.set_cons_zero, List.set_cons_succ])
    refine wpAnyH_take (i := 8) (oi := { dst := some 24, op := Op.call { callee := Callee.builtin Builtin.min, args := #[Operand.tmp 23, Operand.const (Value.int IntKind.i64 30)], argTypes := #[3, 3] }, type := 3, pos := "outright.go:16", after := #[{ on := 7, ground := Ground.data }], guard := none }) (v := ?_) rfl (by kernel_rfl) (by kernel_rfl) (by kernel_rfl) (fun _ _ _ h => h) (Or.inl ⟨by rfl, ?_⟩) hHeld ?_
    rotate_left
    · (intro w hSw; go_simp; try with_reducible rfl)
    (try simp only [Act.put, List.setIfInBounds_toArray, List.set_cons_zero, List.set_cons_succ])
    refine wpAnyH_take (i := 9) (oi := { dst := some 25, op := Op.slice 22 (Operand.tmp 21) none (some (Operand.tmp 24)) none, type := 22, pos := "outright.go:16", after := #[{ on := 5, ground := Ground.data }, { on := 8, ground := Ground.data }], guard := none }) (v := ?_) rfl (by kernel_rfl) (by kernel_rfl) (by kernel_rfl) (fun _ _ _ h => h) (Or.inl ⟨by rfl, ?_⟩) hHeld ?_
    rotate_left
    · (intro w hSw; go_simp; try with_reducible rfl)
    (try simp only [Act.put, List.setIfInBounds_toArray, List.set_cons_zero, List.set_cons_succ])
    refine wpAnyH_take (i := 10) (oi := { dst := some 26, op := Op.move (Operand.tmp 2), type := 22, pos := "outright.go:16", after := #[], guard := none }) (v := ?_) rfl (by kernel_rfl) (by kernel_rfl) (by kernel_rfl) (fun _ _ _ h => h) (Or.inl ⟨by rfl, ?_⟩) hHeld ?_
    rotate_left
    · (intro w hSw; go_simp; try with_reducible rfl)
    (try simp only [Act.put, List.setIfInBounds_toArray, List.set_cons_zero, List.set_cons_succ])
    refine wpAnyH_take (i := 11) (oi := { dst := some 27, op := Op.move (Operand.tmp 2), type := 22, pos := "outright.go:16", after := #[], guard := none }) (v := ?_) rfl (by kernel_rfl) (by kernel_rfl) (by kernel_rfl) (fun _ _ _ h => h) (Or.inl ⟨by rfl, ?_⟩) hHeld ?_
    rotate_left
    · (intro w hSw; go_simp; try with_reducible rfl)
    (try simp only [Act.put, List.setIfInBounds_toArray, List.set_cons_zero, List.set_cons_succ])
    refine wpAnyH_take (i := 12) (oi := { dst := some 28, op := Op.call { callee := Callee.builtin Builtin.len, args := #[Operand.tmp 27], argTypes := #[22] }, type := 3, pos := "outright.go:16", after := #[{ on := 11, ground := Ground.data }], guard := none }) (v := ?_) rfl (by kernel_rfl) (by kernel_rfl) (by kernel_rfl) (fun _ _ _ h => h) (Or.inl ⟨by rfl, ?_⟩) hHeld ?_
    rotate_left
    · (intro w hSw; go_simp; try with_reducible rfl)
    (try simp only [Act.put, List.setIfInBounds_toArray, List.set_cons_zero, List.set_cons_succ])
    refine wpAnyH_take (i := 13) (oi := { dst := some 29, op := Op.call { callee := Callee.builtin Builtin.min, args := #[Operand.tmp 28, Operand.const (Value.int IntKind.i64 30)], argTypes := #[3, 3] }, type := 3, pos := "outright.go:16", after := #[{ on := 12, ground := Ground.data }], guard := none }) (v := ?_) rfl (by kernel_rfl) (by kernel_rfl) (by kernel_rfl) (fun _ _ _ h => h) (Or.inl ⟨by rfl, ?_⟩) hHeld ?_
    rotate_left
    · (intro w hSw; go_simp; try with_reducible rfl)
    (try simp only [Act.put, List.setIfInBounds_toArray, List.set_cons_zero, List.set_cons_succ])
    refine wpAnyH_take (i := 14) (oi := { dst := some 30, op := Op.slice 22 (Operand.tmp 26) none (some (Operand.tmp 29)) none, type := 22, pos := "outright.go:16", after := #[{ on := 10, ground := Ground.data }, { on := 13, ground := Ground.data }], guard := none }) (v := ?_) rfl (by kernel_rfl) (by kernel_rfl) (by kernel_rfl) (fun _ _ _ h => h) (Or.inl ⟨by rfl, ?_⟩) hHeld ?_
    rotate_left
    · (intro w hSw; go_simp; try with_reducible rfl)
    (try simp only [Act.put, List.setIfInBounds_toArray, List.set_cons_zero, List.set_cons_succ])
    refine wpAnyH_take (i := 15) (oi := { dst := some 0, op := Op.assign (Operand.tmp 20), type := 22, pos := "outright.go:16", after := #[{ on := 4, ground := Ground.data }, { on := 0, ground := Ground.phase }, { on := 1, ground := Ground.phase }, { on := 2, ground := Ground.phase }, { on := 3, ground := Ground.phase }, { on := 4, ground := Ground.phase }, { on := 5, ground := Ground.textOnly Departure.lateStores }, { on := 6, ground := Ground.textOnly Departure.lateStores }, { on := 7, ground := Ground.textOnly Departure.lateStoresUnsure }, { on := 8, ground := Ground.textOnly Departure.lateStoresUnsure }, { on := 9, ground := Ground.textOnly Departure.lateStoresUnsure }, { on := 10, ground := Ground.textOnly Departure.lateStores }, { on := 11, ground := Ground.textOnly Departure.lateStores }, { on := 12, ground := Ground.textOnly Departure.lateStoresUnsure }, { on := 13, ground := Ground.textOnly Departure.lateStoresUnsure }, { on := 14, ground := Ground.textOnly Departure.lateStoresUnsure }], guard := none }) (v := ?_) rfl (by kernel_rfl) (by kernel_rfl) (by kernel_rfl) (fun _ _ _ h => h) (Or.inl ⟨by rfl, ?_⟩) hHeld ?_
    rotate_left
    · (intro w hSw; go_simp; try with_reducible rfl)
    (try simp only [Act.put, List.setIfInBounds_toArray, List.set_cons_zero, List.set_cons_succ])
    refine wpAnyH_take (i := 16) (oi := { dst := some 1, op := Op.assign (Operand.tmp 25), type := 22, pos := "outright.go:16", after := #[{ on := 9, ground := Ground.data }, { on := 15, ground := Ground.chain }, { on := 0, ground := Ground.phase }, { on := 1, ground := Ground.phase }, { on := 2, ground := Ground.phase }, { on := 3, ground := Ground.phase }, { on := 4, ground := Ground.phase }, { on := 5, ground := Ground.phase }, { on := 6, ground := Ground.phase }, { on := 7, ground := Ground.phase }, { on := 8, ground := Ground.phase }, { on := 9, ground := Ground.phase }, { on := 10, ground := Ground.textOnly Departure.lateStores }, { on := 11, ground := Ground.textOnly Departure.lateStores }, { on := 12, ground := Ground.textOnly Departure.lateStoresUnsure }, { on := 13, ground := Ground.textOnly Departure.lateStoresUnsure }, { on := 14, ground := Ground.textOnly Departure.lateStoresUnsure }, { on := 15, ground := Ground.phase }], guard := none }) (v := ?_) rfl (by kernel_rfl) (by kernel_rfl) (by kernel_rfl) (fun _ _ _ h => h) (Or.inl ⟨by rfl, ?_⟩) hHeld ?_
    rotate_left
    · (intro w hSw; go_simp; try with_reducible rfl)
    (try simp only [Act.put, List.setIfInBounds_toArray, List.set_cons_zero, List.set_cons_succ])
    refine wpAnyH_take (i := 17) (oi := { dst := some 2, op := Op.assign (Operand.tmp 30), type := 22, pos := "outright.go:16", after := #[{ on := 14, ground := Ground.data }, { on := 16, ground := Ground.chain }, { on := 0, ground := Ground.phase }, { on := 1, ground := Ground.phase }, { on := 2, ground := Ground.phase }, { on := 3, ground := Ground.phase }, { on := 4, ground := Ground.phase }, { on := 5, ground := Ground.phase }, { on := 6, ground := Ground.phase }, { on := 7, ground := Ground.phase }, { on := 8, ground := Ground.phase }, { on := 9, ground := Ground.phase }, { on := 10, ground := Ground.phase }, { on := 11, ground := Ground.phase }, { on := 12, ground := Ground.phase }, { on := 13, ground := Ground.phase }, { on := 14, ground := Ground.phase }, { on := 15, ground := Ground.phase }, { on := 16, ground := Ground.phase }], guard := none }) (v := ?_) rfl (by kernel_rfl) (by kernel_rfl) (by kernel_rfl) (fun _ _ _ h => h) (Or.inl ⟨by rfl, ?_⟩) hHeld ?_
    rotate_left
    · (intro w hSw; go_simp; try with_reducible rfl)
    (try simp only [Act.put, List.setIfInBounds_toArray, List.set_cons_zero, List.set_cons_succ])
    refine wpAnyH_done (by kernel_rfl) ?_ _
    first | refine hK2 _ _ (Met.intro (hJ _ _ ?_)) | refine Met.intro (hJ _ _ ?_)
    (repeat apply Exists.intro)
    refine ⟨?_, rfl⟩
    exact ⟨rfl, rfl, rfl, Lib.hid hHeld⟩

  case rest =>
  obtain ⟨rfl, rfl, rfl, HBW⟩ := hcut
  have HB := Lib.hid (bch HB1.out HBW.out)
  have RA := Lib.hid (HA.out.on HB.out)
  have RB := Lib.hid (HB_.out.on HB.out)
  have RC := Lib.hid (HC.out.on HB.out)
  have HLA' : Hid (A.length ≤ 30) := Lib.hid (by rw [HLA.out]; exact t1)
  have HLB' : Hid (B.length ≤ 30) := Lib.hid (by rw [HLB.out]; exact t2)
  have HLC' : Hid (C.length ≤ 30) := Lib.hid (by rw [HLC.out]; exact t3)
  clear H1 H2 H3 HA HB_ HC HB1 HBW p1 p2 p3 q1 q2 q3 r1 r2 r3 s1 s2 s3 t1 t2 t3 HLA HLB HLC
  have LA : Hid (A.length ≤ 1000000) := Lib.hid (by have := HLA'.out; omega)
  have LB : Hid (B.length ≤ 1000000) := Lib.hid (by have := HLB'.out; omega)
  have LC : Hid (C.length ≤ 1000000) := Lib.hid (by have := HLC'.out; omega)
  have LAB : Hid ([A, B].flatten.length ≤ 1000000) := Lib.hid (by simp; have := HLA'.out; have := HLB'.out; omega)
  have LBC : Hid ([B, C].flatten.length ≤ 1000000) := Lib.hid (by simp; have := HLB'.out; have := HLC'.out; omega)
  obtain ⟨ALL, hALL⟩ : ∃ z, z = uniI [A, B].flatten := ⟨_, rfl⟩
  have HALL := Lib.hid hALL
  obtain ⟨BOTH, hBOTH⟩ : ∃ z, z = meetI A B := ⟨_, rfl⟩
  have HBOTH := Lib.hid hBOTH
  obtain ⟨X, hX⟩ : ∃ z, z = lessI A B := ⟨_, rfl⟩
  have HX := Lib.hid hX
  obtain ⟨Y, hY⟩ : ∃ z, z = lessI B A := ⟨_, rfl⟩
  have HY := Lib.hid hY
  obtain ⟨BC, hBC⟩ : ∃ z, z = uniI [B, C].flatten := ⟨_, rfl⟩
  have HBC := Lib.hid hBC
  obtain ⟨AC, hAC⟩ : ∃ z, z = meetI A C := ⟨_, rfl⟩
  have HAC := Lib.hid hAC
  obtain ⟨M, hM⟩ : ∃ z, z = meetI A BC := ⟨_, rfl⟩
  have HM := Lib.hid hM
  obtain ⟨N, hN⟩ : ∃ z, z = lessI A BC := ⟨_, rfl⟩
  have HN := Lib.hid hN
  have HU : Hid (uniI [X, BOTH, Y].flatten = ALL) := Lib.hid (by rw [hX, hBOTH, hY, hALL]; exact parts_all A B)
  have HN1 : Hid (meetI X B = []) := Lib.hid (by rw [hX]; exact parts_no1 A B)
  have HN2 : Hid (meetI X Y = []) := Lib.hid (by rw [hX, hY]; exact parts_no2 A B)
  have HE1 : Hid (uniI [BOTH, AC].flatten = M) := Lib.hid (by rw [hBOTH, hAC, hM, hBC]; exact (meet_over A B C).symm)
  have HE2 : Hid (lessI X C = N) := Lib.hid (by rw [hX, hN, hBC]; exact (less_over A B C).symm)
  have HUPS : Hid (UpS leI ALL ∧ UpS leI BOTH ∧ UpS leI X ∧ UpS leI Y) := Lib.hid ⟨by rw [hALL]; exact uniI_up _, by rw [hBOTH]; exact meetI_up _ _, by rw [hX]; exact lessI_up _ _, by rw [hY]; exact lessI_up _ _⟩
  have lx : X.length ≤ 30 := by rw [hX]; exact Nat.le_trans (lessI_len A B) HLA'.out
  have ly : Y.length ≤ 30 := by rw [hY]; exact Nat.le_trans (lessI_len B A) HLB'.out
  have lb : BOTH.length ≤ 30 := by rw [hBOTH]; exact Nat.le_trans (meetI_len A B) HLA'.out
  have lac : AC.length ≤ 30 := by rw [hAC]; exact Nat.le_trans (meetI_len A C) HLA'.out
  have hsum : X.length + BOTH.length + Y.length = ALL.length := by rw [hX, hBOTH, hY, hALL]; exact parts_len A B
  have k1 : IntKind.i64.wrap ((X.length : Int) + (BOTH.length : Int)) = (X.length : Int) + (BOTH.length : Int) := IntWalk.i64_in _ (by omega)
  have k2 : IntKind.i64.wrap ((X.length : Int) + (BOTH.length : Int) + (Y.length : Int)) = (ALL.length : Int) := by rw [IntWalk.i64_in _ (by omega)]; omega
  have LX : Hid (X.length ≤ 1000000) := Lib.hid (by omega)
  have LY : Hid (Y.length ≤ 1000000) := Lib.hid (by omega)
  have LALL : Hid (ALL.length ≤ 90) := Lib.hid (by omega)
  have LBC2 : Hid (BC.length ≤ 1000000) := Lib.hid (by rw [hBC]; exact Nat.le_trans (uniI_len _) LBC.out)
  have HUS : Hid (X.length ≤ 30 ∧ Y.length ≤ 30 ∧ BOTH.length ≤ 30) := Lib.hid ⟨lx, ly, lb⟩
  have LU : Hid ([X, BOTH, Y].flatten.length ≤ 1000000) := Lib.hid (by simp; omega)
  have LM : Hid ([BOTH, AC].flatten.length ≤ 1000000) := Lib.hid (by simp; omega)
  clear hALL hBOTH hX hY hBC hAC hM hN hsum lx ly lb lac
  go_upto_region 5 with (first
    | (go_at_call 20; refine (union_any [A, B] _ _ (rdr_pair RA.out RB.out) LAB.out).mono ?_; rintro e w2 ⟨vw2, rfl, ho, hb⟩; rw [← HALL.out] at ho; have hx := (bch (below_new _ _) hb); replace RA := Lib.hid (RA.out.on hx); replace RB := Lib.hid (RB.out.on hx); replace RC := Lib.hid (RC.out.on hx); replace HB := Lib.hid (bch HB.out hx); have RALL := Lib.hid (Rd.of_own ho); obtain ⟨aw2, cw2, rfl⟩ := own_slice ho; clear ho hb hx)
    | (go_at_call 21; refine (meet_any A B _ _ _ RA.out RB.out LA.out LB.out).mono ?_; rintro e w3 ⟨vw3, rfl, ho, hb⟩; rw [← HBOTH.out] at ho; have hx := hb; replace RA := Lib.hid (RA.out.on hx); replace RB := Lib.hid (RB.out.on hx); replace RC := Lib.hid (RC.out.on hx); replace RALL := Lib.hid (RALL.out.on hx); replace HB := Lib.hid (bch HB.out hx); have RBOTH := Lib.hid (Rd.of_own ho); obtain ⟨aw3, cw3, rfl⟩ := own_slice ho; clear ho hb hx))
  go_upto_region 6 with (first
    | (go_at_call 22; have mk := RX; clear mk; refine (less_any B A _ _ _ RB.out RA.out LB.out LA.out).mono ?_; rintro e w5 ⟨vw5, rfl, ho, hb⟩; rw [← HY.out] at ho; have hx := hb; replace RA := Lib.hid (RA.out.on hx); replace RB := Lib.hid (RB.out.on hx); replace RC := Lib.hid (RC.out.on hx); replace RALL := Lib.hid (RALL.out.on hx); replace RBOTH := Lib.hid (RBOTH.out.on hx); replace RX := Lib.hid (RX.out.on hx); replace HB := Lib.hid (bch HB.out hx); have RY := Lib.hid (Rd.of_own ho); obtain ⟨aw5, cw5, rfl⟩ := own_slice ho; clear ho hb hx)
    | (go_at_call 22; refine (less_any A B _ _ _ RA.out RB.out LA.out LB.out).mono ?_; rintro e w4 ⟨vw4, rfl, ho, hb⟩; rw [← HX.out] at ho; have hx := hb; replace RA := Lib.hid (RA.out.on hx); replace RB := Lib.hid (RB.out.on hx); replace RC := Lib.hid (RC.out.on hx); replace RALL := Lib.hid (RALL.out.on hx); replace RBOTH := Lib.hid (RBOTH.out.on hx); replace HB := Lib.hid (bch HB.out hx); have RX := Lib.hid (Rd.of_own ho); obtain ⟨aw4, cw4, rfl⟩ := own_slice ho; clear ho hb hx))
  go_upto_region 8 with (first
    | (go_at_call 21; have mk := RN1; clear mk; refine (meet_any X Y _ _ _ RX.out RY.out LX.out LY.out).mono ?_; rintro e w9 ⟨vw9, rfl, ho, hb⟩; rw [HN2.out, List.length_nil] at ho; have hx := hb; replace RA := Lib.hid (RA.out.on hx); replace RB := Lib.hid (RB.out.on hx); replace RC := Lib.hid (RC.out.on hx); replace RALL := Lib.hid (RALL.out.on hx); replace RBOTH := Lib.hid (RBOTH.out.on hx); replace RX := Lib.hid (RX.out.on hx); replace RY := Lib.hid (RY.out.on hx); replace HB := Lib.hid (bch HB.out hx); have RN2 := Lib.hid (Rd.of_own ho); obtain ⟨aw9, cw9, rfl⟩ := own_slice ho; clear ho hb hx)
    | (go_at_call 21; refine (meet_any X B _ _ _ RX.out RB.out LX.out LB.out).mono ?_; rintro e w8 ⟨vw8, rfl, ho, hb⟩; rw [HN1.out, List.length_nil] at ho; have hx := hb; replace RA := Lib.hid (RA.out.on hx); replace RB := Lib.hid (RB.out.on hx); replace RC := Lib.hid (RC.out.on hx); replace RALL := Lib.hid (RALL.out.on hx); replace RBOTH := Lib.hid (RBOTH.out.on hx); replace RX := Lib.hid (RX.out.on hx); replace RY := Lib.hid (RY.out.on hx); replace HB := Lib.hid (bch HB.out hx); have RN1 := Lib.hid (Rd.of_own ho); obtain ⟨aw8, cw8, rfl⟩ := own_slice ho; clear ho hb hx)
    | (go_at_call 23; refine (eqi_all ALL ALL _ _ _ RU.out RALL.out).mono ?_; rintro e w7 ⟨rfl, hb⟩; rw [show decide (ALL = ALL) = true from decide_eq_true rfl]; replace RA := Lib.hid (RA.out.on hb); replace RB := Lib.hid (RB.out.on hb); replace RC := Lib.hid (RC.out.on hb); replace RALL := Lib.hid (RALL.out.on hb); replace RBOTH := Lib.hid (RBOTH.out.on hb); replace RX := Lib.hid (RX.out.on hb); replace RY := Lib.hid (RY.out.on hb); replace HB := Lib.hid (bch HB.out hb); clear hb)
    | (go_at_call 20; refine (union_any [X, BOTH, Y] _ _ (rdr_three RX.out RBOTH.out RY.out) LU.out).mono ?_; rintro e w6 ⟨vw6, rfl, ho, hb⟩; rw [HU.out] at ho; have hx := (bch (below_new _ _) hb); replace RA := Lib.hid (RA.out.on hx); replace RB := Lib.hid (RB.out.on hx); replace RC := Lib.hid (RC.out.on hx); replace RALL := Lib.hid (RALL.out.on hx); replace RBOTH := Lib.hid (RBOTH.out.on hx); replace RX := Lib.hid (RX.out.on hx); replace RY := Lib.hid (RY.out.on hx); replace HB := Lib.hid (bch HB.out hx); have RU := Lib.hid (Rd.of_own ho); obtain ⟨aw6, cw6, rfl⟩ := own_slice ho; clear ho hb hx))
  clear k1 k2
  go_upto_region 10 with (first
    | (go_at_call 23; have mk := RL2; clear mk; refine (eqi_all N N _ _ _ RL.out RL2.out).mono ?_; rintro e wk ⟨rfl, hb⟩; rw [show decide (N = N) = true from decide_eq_true rfl]; replace RA := Lib.hid (RA.out.on hb); replace RB := Lib.hid (RB.out.on hb); replace RC := Lib.hid (RC.out.on hb); replace RALL := Lib.hid (RALL.out.on hb); replace RBOTH := Lib.hid (RBOTH.out.on hb); replace RX := Lib.hid (RX.out.on hb); replace RY := Lib.hid (RY.out.on hb); replace HB := Lib.hid (bch HB.out hb); clear hb)
    | (go_at_call 22; have mk := RL1; clear mk; refine (less_any X C _ _ _ RL1.out RC.out LX.out LC.out).mono ?_; rintro e wj ⟨vwj, rfl, ho, hb⟩; rw [HE2.out] at ho; have hx := hb; replace RA := Lib.hid (RA.out.on hx); replace RB := Lib.hid (RB.out.on hx); replace RC := Lib.hid (RC.out.on hx); replace RALL := Lib.hid (RALL.out.on hx); replace RBOTH := Lib.hid (RBOTH.out.on hx); replace RX := Lib.hid (RX.out.on hx); replace RY := Lib.hid (RY.out.on hx); replace RL := Lib.hid (RL.out.on hx); replace HB := Lib.hid (bch HB.out hx); have RL2 := Lib.hid (Rd.of_own ho); obtain ⟨awj, cwj, rfl⟩ := own_slice ho; clear ho hb hx)
    | (go_at_call 22; have mk := RL; clear mk; refine (less_any A B _ _ _ RA.out RB.out LA.out LB.out).mono ?_; rintro e wi ⟨vwi, rfl, ho, hb⟩; rw [← HX.out] at ho; have hx := hb; replace RA := Lib.hid (RA.out.on hx); replace RB := Lib.hid (RB.out.on hx); replace RC := Lib.hid (RC.out.on hx); replace RALL := Lib.hid (RALL.out.on hx); replace RBOTH := Lib.hid (RBOTH.out.on hx); replace RX := Lib.hid (RX.out.on hx); replace RY := Lib.hid (RY.out.on hx); replace RL := Lib.hid (RL.out.on hx); replace HB := Lib.hid (bch HB.out hx); have RL1 := Lib.hid (Rd.of_own ho); obtain ⟨awi, cwi, rfl⟩ := own_slice ho; clear ho hb hx)
    | (go_at_call 22; refine (less_any A BC _ _ _ RA.out RBC.out LA.out LBC2.out).mono ?_; rintro e wh ⟨vwh, rfl, ho, hb⟩; rw [← HN.out] at ho; have hx := hb; replace RA := Lib.hid (RA.out.on hx); replace RB := Lib.hid (RB.out.on hx); replace RC := Lib.hid (RC.out.on hx); replace RALL := Lib.hid (RALL.out.on hx); replace RBOTH := Lib.hid (RBOTH.out.on hx); replace RX := Lib.hid (RX.out.on hx); replace RY := Lib.hid (RY.out.on hx); replace HB := Lib.hid (bch HB.out hx); have RL := Lib.hid (Rd.of_own ho); obtain ⟨awh, cwh, rfl⟩ := own_slice ho; clear ho hb hx)
    | (go_at_call 23; have mk := RM3; clear mk; refine (eqi_all M M _ _ _ RM.out RM3.out).mono ?_; rintro e wg ⟨rfl, hb⟩; rw [show decide (M = M) = true from decide_eq_true rfl]; replace RA := Lib.hid (RA.out.on hb); replace RB := Lib.hid (RB.out.on hb); replace RC := Lib.hid (RC.out.on hb); replace RALL := Lib.hid (RALL.out.on hb); replace RBOTH := Lib.hid (RBOTH.out.on hb); replace RX := Lib.hid (RX.out.on hb); replace RY := Lib.hid (RY.out.on hb); replace HB := Lib.hid (bch HB.out hb); clear hb; clear RM1 RM2)
    | (go_at_call 20; have mk := RM2; clear mk; refine (union_any [BOTH, AC] _ _ (rdr_pair RM1.out RM2.out) LM.out).mono ?_; rintro e wf ⟨vwf, rfl, ho, hb⟩; rw [HE1.out] at ho; have hx := (bch (below_new _ _) hb); replace RA := Lib.hid (RA.out.on hx); replace RB := Lib.hid (RB.out.on hx); replace RC := Lib.hid (RC.out.on hx); replace RALL := Lib.hid (RALL.out.on hx); replace RBOTH := Lib.hid (RBOTH.out.on hx); replace RX := Lib.hid (RX.out.on hx); replace RY := Lib.hid (RY.out.on hx); replace RM := Lib.hid (RM.out.on hx); replace HB := Lib.hid (bch HB.out hx); have RM3 := Lib.hid (Rd.of_own ho); obtain ⟨awf, cwf, rfl⟩ := own_slice ho; clear ho hb hx)
    | (go_at_call 21; have mk := RM1; clear mk; refine (meet_any A C _ _ _ RA.out RC.out LA.out LC.out).mono ?_; rintro e we ⟨vwe, rfl, ho, hb⟩; rw [← HAC.out] at ho; have hx := hb; replace RA := Lib.hid (RA.out.on hx); replace RB := Lib.hid (RB.out.on hx); replace RC := Lib.hid (RC.out.on hx); replace RALL := Lib.hid (RALL.out.on hx); replace RBOTH := Lib.hid (RBOTH.out.on hx); replace RX := Lib.hid (RX.out.on hx); replace RY := Lib.hid (RY.out.on hx); replace RM := Lib.hid (RM.out.on hx); replace RM1 := Lib.hid (RM1.out.on hx); replace HB := Lib.hid (bch HB.out hx); have RM2 := Lib.hid (Rd.of_own ho); obtain ⟨awe, cwe, rfl⟩ := own_slice ho; clear ho hb hx)
    | (go_at_call 21; have mk := RM; clear mk; refine (meet_any A B _ _ _ RA.out RB.out LA.out LB.out).mono ?_; rintro e wd ⟨vwd, rfl, ho, hb⟩; rw [← HBOTH.out] at ho; have hx := hb; replace RA := Lib.hid (RA.out.on hx); replace RB := Lib.hid (RB.out.on hx); replace RC := Lib.hid (RC.out.on hx); replace RALL := Lib.hid (RALL.out.on hx); replace RBOTH := Lib.hid (RBOTH.out.on hx); replace RX := Lib.hid (RX.out.on hx); replace RY := Lib.hid (RY.out.on hx); replace RM := Lib.hid (RM.out.on hx); replace HB := Lib.hid (bch HB.out hx); have RM1 := Lib.hid (Rd.of_own ho); obtain ⟨awd, cwd, rfl⟩ := own_slice ho; clear ho hb hx)
    | (go_at_call 21; have mk := RBC; clear mk; refine (meet_any A BC _ _ _ RA.out RBC.out LA.out LBC2.out).mono ?_; rintro e wb ⟨vwb, rfl, ho, hb⟩; rw [← HM.out] at ho; have hx := hb; replace RA := Lib.hid (RA.out.on hx); replace RB := Lib.hid (RB.out.on hx); replace RC := Lib.hid (RC.out.on hx); replace RALL := Lib.hid (RALL.out.on hx); replace RBOTH := Lib.hid (RBOTH.out.on hx); replace RX := Lib.hid (RX.out.on hx); replace RY := Lib.hid (RY.out.on hx); replace HB := Lib.hid (bch HB.out hx); have RM := Lib.hid (Rd.of_own ho); obtain ⟨awb, cwb, rfl⟩ := own_slice ho; clear ho hb hx)
    | (go_at_call 20; refine (union_any [B, C] _ _ (rdr_pair RB.out RC.out) LBC.out).mono ?_; rintro e wa ⟨vwa, rfl, ho, hb⟩; rw [← HBC.out] at ho; have hx := (bch (below_new _ _) hb); replace RA := Lib.hid (RA.out.on hx); replace RB := Lib.hid (RB.out.on hx); replace RC := Lib.hid (RC.out.on hx); replace RALL := Lib.hid (RALL.out.on hx); replace RBOTH := Lib.hid (RBOTH.out.on hx); replace RX := Lib.hid (RX.out.on hx); replace RY := Lib.hid (RY.out.on hx); replace HB := Lib.hid (bch HB.out hx); have RBC := Lib.hid (Rd.of_own ho); obtain ⟨awa, cwa, rfl⟩ := own_slice ho; clear ho hb hx))
  have HRR := Lib.hid (rdr_four RALL.out RBOTH.out RX.out RY.out)
  obtain ⟨wl, hwl⟩ : ∃ z, z = wk.alloc (.cells #[.slice aw2 ALL.length cw2, .slice aw3 BOTH.length cw3, .slice aw4 X.length cw4, .slice aw5 Y.length cw5] 22) := ⟨_, rfl⟩
  have HBL : Hid (Below w.heap.size w wl) := Lib.hid (by rw [hwl]; exact bch HB.out (below_new _ _))
  obtain ⟨g0, hg0⟩ : ∃ z, z = wk.heap.size := ⟨_, rfl⟩
  have lx : X.length ≤ 90 := by have := HUS.out; omega
  have ly : Y.length ≤ 90 := by have := HUS.out; omega
  have lb : BOTH.length ≤ 90 := by have := HUS.out; omega
  have HROW : Hid (∀ (i : Nat), i < 4 → ∃ a nR c R, nR = R.length ∧ UpS leI R ∧ nR ≤ 90 ∧ ∀ W, Below wl.heap.size wl W → W.cell? ⟨g0, i, none⟩ = some (.slice a nR c) ∧ Rd W (.slice a nR c) (intsV R)) := Lib.hid (fun i hi => by
    rw [← hwl, ← hg0] at HRR
    obtain ⟨vs, h1, h2, h3⟩ := HRR.out
    obtain ⟨a, cap, e, _, _, _, h4⟩ := h1
    obtain ⟨g, o, e2, hg, hc⟩ := h4 (by rw [h2]; simp)
    have key : ∀ (R : List Int), [ALL, BOTH, X, Y][i]? = some R → UpS leI R → R.length ≤ 90 → ∃ a nR c R, nR = R.length ∧ UpS leI R ∧ nR ≤ 90 ∧ ∀ W, Below wl.heap.size wl W → W.cell? ⟨g0, i, none⟩ = some (.slice a nR c) ∧ Rd W (.slice a nR c) (intsV R) := fun R hR hu hl => by
      obtain ⟨x, hx⟩ : ∃ x, vs[i]? = some x := ⟨_, List.getElem?_eq_getElem (by rw [h2]; simpa using hi)⟩
      have hrd := h3 i x (intsV R) hx (by rw [List.getElem?_map, hR]; rfl)
      obtain ⟨a', c', e', _⟩ := id hrd
      rw [intsV_len] at e'
      subst e'
      have hcc := hc i _ hx
      rw [e2] at e
      have ea := (Value.slice.inj e).1
      cases ea
      rw [Nat.zero_add] at hcc
      exact ⟨a', _, c', R, rfl, hu, hl, fun W hW => ⟨(hW.cell (p := ⟨g0, i, none⟩) hg).trans hcc, hrd.on hW⟩⟩
    obtain ⟨u1, u2, u3, u4⟩ := HUPS.out
    match i, hi with
    | 0, _ => exact key ALL rfl u1 LALL.out
    | 1, _ => exact key BOTH rfl u2 lb
    | 2, _ => exact key X rfl u3 lx
    | 3, _ => exact key Y rfl u4 ly)
  go_upto_region 11 with fail
  rw [← hwl, ← hg0]
  obtain ⟨n4, hn4⟩ : ∃ z : Nat, z = 4 := ⟨_, rfl⟩
  rw [← hn4] at HROW
  rw [show ((4 : Int)) = ((n4 : Nat) : Int) by rw [hn4]; rfl]
  have h4 : n4 ≤ 4 := by omega
  clear HRR hwl hg0 hn4 RA RB RC RALL RBOTH RX RY RM RL lx ly lb HUPS HALL HBOTH HX HY HBC HAC HM HN HU HN1 HN2 HE1 HE2 LX LY LALL LBC2 LU LM HUS LA LB LC LAB LBC HB HLA' HLB' HLC' RU RN1 RN2 RBC RM3 RL1 RL2
  go_loopw [116] (fun i W => ∃ k : Nat, k ≤ n4 ∧ i = .int .i64 (k : Int) ∧ Hid (Below wl.heap.size wl W)) (fun i _ => n4 - (Lib.intOf i).toNat)
  case atStart => exact ⟨0, Nat.zero_le _, rfl, Lib.hid (Below.refl _ _)⟩
  case round =>
    obtain ⟨k, hk, rfl, HBk⟩ := hrel
    obtain ⟨wq, hwq⟩ : ∃ q, q = wr := ⟨_, rfl⟩
    rw [← hwq] at HBk ⊢
    clear hwq
    by_cases hlt : k < n4
    · obtain ⟨aR, nR, cR, R, hnR, hup, hn90, hrow⟩ := HROW.out k hlt
      have HR := Lib.hid hrow
      have HNR := Lib.hid hnR
      have HUP := Lib.hid hup
      have q0 := (HR.out wq HBk.out).1
      have k1 : (k : Int) < (n4 : Int) := by omega
      have k2 : (0 : Int) ≤ (k : Int) := by omega
      have k4 : IntKind.i64.wrap ((k : Int) + 1) = (k : Int) + 1 := IntWalk.i64_in _ (by omega)
      clear hrow hnR hup
      go_wp2_with fail
      go_loopw [122] (fun i W => ∃ j : Nat, j ≤ nR ∧ i = .int .i64 (j : Int) ∧ Hid (Below wl.heap.size wl W)) (fun i _ => nR - (Lib.intOf i).toNat)
      case atStart => exact ⟨0, Nat.zero_le _, rfl, HBk⟩
      case round =>
        obtain ⟨j, hj, rfl, HBj⟩ := hrel
        obtain ⟨wp, hwp⟩ : ∃ q, q = wr := ⟨_, rfl⟩
        rw [← hwp] at HBj ⊢
        clear hwp q0
        by_cases hjlt : j < nR
        · have j1 : (j : Int) < (nR : Int) := by omega
          have j2 : (0 : Int) ≤ (j : Int) := by omega
          have j4 : IntKind.i64.wrap ((j : Int) + 1) = (j : Int) + 1 := IntWalk.i64_in _ (by omega)
          go_upto_region 16 with fail
          go_cut [138] (fun p wx => p = .bool false ∧ Hid (Below wl.heap.size wl wx))
          case first =>
            rename_i J2 K2 hJ hK2
            rcases Nat.eq_zero_or_pos j with hj0 | hj0
            · subst hj0
              have tk : decide (((0 : Nat) : Int) > 0) = false := by decide
              obtain ⟨v0, hv0⟩ : ∃ q, q = World.drew wp := ⟨_, rfl⟩
              refine wp_region_held_drew (S := fun w' => Below wp.heap.size wp w') (by kernel_rfl) (below_drewN (Below.refl _ _) 1) (fun hHeld => ?_)
              rw [← hv0] at hHeld ⊢
              clear hv0
              refine wpAnyH_take (i := 0) (oi := { dst := some 125, op := Op.move (Operand.tmp 13), type := 3, pos := "outright.go:27", after := #[], guard := none }) (v := ?_) rfl (by kernel_rfl) (by kernel_rfl) (by kernel_rfl) (fun _ _ _ h => h) (Or.inl ⟨by rfl, ?_⟩) hHeld ?_
              rotate_left
              · (intro w hSw; go_simp; try with_reducible rfl)
              (try simp only [Act.put, List.setIfInBounds_toArray, List.set_cons_zero, List.set_cons_succ])
              refine wpAnyH_take (i := 1) (oi := { dst := some 126, op := Op.binOp BinOp.gtr 3 (Operand.tmp 125) (Operand.const (Value.int IntKind.i64 0)) 3, type := 4, pos := "outright.go:27", after := #[{ on := 0, ground := Ground.data }], guard := none }) (v := ?_) rfl (by kernel_rfl) (by kernel_rfl) (by kernel_rfl) (fun _ _ _ h => h) (Or.inl ⟨by rfl, ?_⟩) hHeld ?_
              rotate_left
              · (intro w hSw; go_simp; try with_reducible rfl)
              (try simp only [Act.put, List.setIfInBounds_toArray, List.set_cons_zero, List.set_cons_succ])
              refine wpAnyH_take (i := 2) (oi := { dst := some 127, op := Op.move (Operand.tmp 126), type := 4, pos := "outright.go:27", after := #[{ on := 1, ground := Ground.data }], guard := none }) (v := ?_) rfl (by kernel_rfl) (by kernel_rfl) (by kernel_rfl) (fun _ _ _ h => h) (Or.inl ⟨by rfl, ?_⟩) hHeld ?_
              rotate_left
              · (intro w hSw; go_simp; try with_reducible rfl)
              (try simp only [Act.put, List.setIfInBounds_toArray, List.set_cons_zero, List.set_cons_succ])
              refine wpAnyH_take (i := 3) (oi := { dst := some 128, op := Op.move (Operand.tmp 12), type := 22, pos := "outright.go:27", after := #[{ on := 2, ground := Ground.guard }], guard := some (2, true) }) (v := undef) rfl (by kernel_rfl) (by kernel_rfl) (by kernel_rfl) (fun _ _ _ h => h) (Or.inr ⟨by rfl, rfl⟩) hHeld ?_
              (try simp only [Act.put, List.setIfInBounds_toArray, List.set_cons_zero, List.set_cons_succ])
              refine wpAnyH_take (i := 4) (oi := { dst := some 129, op := Op.move (Operand.tmp 13), type := 3, pos := "outright.go:27", after := #[{ on := 2, ground := Ground.guard }], guard := some (2, true) }) (v := undef) rfl (by kernel_rfl) (by kernel_rfl) (by kernel_rfl) (fun _ _ _ h => h) (Or.inr ⟨by rfl, rfl⟩) hHeld ?_
              (try simp only [Act.put, List.setIfInBounds_toArray, List.set_cons_zero, List.set_cons_succ])
              refine wpAnyH_take (i := 5) (oi := { dst := some 130, op := Op.binOp BinOp.sub 3 (Operand.tmp 129) (Operand.const (Value.int IntKind.i64 1)) 3, type := 3, pos := "outright.go:27", after := #[{ on := 4, ground := Ground.data }, { on := 2, ground := Ground.guard }], guard := some (2, true) }) (v := undef) rfl (by kernel_rfl) (by kernel_rfl) (by kernel_rfl) (fun _ _ _ h => h) (Or.inr ⟨by rfl, rfl⟩) hHeld ?_
              (try simp only [Act.put, List.setIfInBounds_toArray, List.set_cons_zero, List.set_cons_succ])
              refine wpAnyH_take (i := 6) (oi := { dst := some 131, op := Op.indexAddr 22 (Operand.tmp 128) (Operand.tmp 130), type := 0, pos := "outright.go:27", after := #[{ on := 3, ground := Ground.data }, { on := 5, ground := Ground.data }, { on := 2, ground := Ground.guard }], guard := some (2, true) }) (v := undef) rfl (by kernel_rfl) (by kernel_rfl) (by kernel_rfl) (fun _ _ _ h => h) (Or.inr ⟨by rfl, rfl⟩) hHeld ?_
              (try simp only [Act.put, List.setIfInBounds_toArray, List.set_cons_zero, List.set_cons_succ])
              refine wpAnyH_take (i := 7) (oi := { dst := some 132, op := Op.load 3 (Operand.tmp 131), type := 3, pos := "outright.go:27", after := #[{ on := 6, ground := Ground.data }, { on := 2, ground := Ground.guard }], guard := some (2, true) }) (v := undef) rfl (by kernel_rfl) (by kernel_rfl) (by kernel_rfl) (fun _ _ _ h => h) (Or.inr ⟨by rfl, rfl⟩) hHeld ?_
              (try simp only [Act.put, List.setIfInBounds_toArray, List.set_cons_zero, List.set_cons_succ])
              refine wpAnyH_take (i := 8) (oi := { dst := some 133, op := Op.move (Operand.tmp 12), type := 22, pos := "outright.go:27", after := #[{ on := 2, ground := Ground.guard }], guard := some (2, true) }) (v := undef) rfl (by kernel_rfl) (by kernel_rfl) (by kernel_rfl) (fun _ _ _ h => h) (Or.inr ⟨by rfl, rfl⟩) hHeld ?_
              (try simp only [Act.put, List.setIfInBounds_toArray, List.set_cons_zero, List.set_cons_succ])
              refine wpAnyH_take (i := 9) (oi := { dst := some 134, op := Op.move (Operand.tmp 13), type := 3, pos := "outright.go:27", after := #[{ on := 2, ground := Ground.guard }], guard := some (2, true) }) (v := undef) rfl (by kernel_rfl) (by kernel_rfl) (by kernel_rfl) (fun _ _ _ h => h) (Or.inr ⟨by rfl, rfl⟩) hHeld ?_
              (try simp only [Act.put, List.setIfInBounds_toArray, List.set_cons_zero, List.set_cons_succ])
              refine wpAnyH_take (i := 10) (oi := { dst := some 135, op := Op.indexAddr 22 (Operand.tmp 133) (Operand.tmp 134), type := 0, pos := "outright.go:27", after := #[{ on := 8, ground := Ground.data }, { on := 9, ground := Ground.data }, { on := 2, ground := Ground.guard }], guard := some (2, true) }) (v := undef) rfl (by kernel_rfl) (by kernel_rfl) (by kernel_rfl) (fun _ _ _ h => h) (Or.inr ⟨by rfl, rfl⟩) hHeld ?_
              (try simp only [Act.put, List.setIfInBounds_toArray, List.set_cons_zero, List.set_cons_succ])
              refine wpAnyH_take (i := 11) (oi := { dst := some 136, op := Op.load 3 (Operand.tmp 135), type := 3, pos := "outright.go:27", after := #[{ on := 10, ground := Ground.data }, { on := 2, ground := Ground.guard }], guard := some (2, true) }) (v := undef) rfl (by kernel_rfl) (by kernel_rfl) (by kernel_rfl) (fun _ _ _ h => h) (Or.inr ⟨by rfl, rfl⟩) hHeld ?_
              (try simp only [Act.put, List.setIfInBounds_toArray, List.set_cons_zero, List.set_cons_succ])
              refine wpAnyH_take (i := 12) (oi := { dst := some 137, op := Op.binOp BinOp.geq 3 (Operand.tmp 132) (Operand.tmp 136) 3, type := 4, pos := "outright.go:27", after := #[{ on := 7, ground := Ground.data }, { on := 11, ground := Ground.data }, { on := 2, ground := Ground.guard }], guard := some (2, true) }) (v := undef) rfl (by kernel_rfl) (by kernel_rfl) (by kernel_rfl) (fun _ _ _ h => h) (Or.inr ⟨by rfl, rfl⟩) hHeld ?_
              (try simp only [Act.put, List.setIfInBounds_toArray, List.set_cons_zero, List.set_cons_succ])
              refine wpAnyH_take (i := 13) (oi := { dst := some 138, op := Op.pick (Operand.tmp 127) (Operand.tmp 137) (Operand.const (Value.bool false)), type := 4, pos := "outright.go:27", after := #[{ on := 2, ground := Ground.data }, { on := 12, ground := Ground.data }], guard := none }) (v := ?_) rfl (by kernel_rfl) (by kernel_rfl) (by kernel_rfl) (fun _ _ _ h => h) (Or.inl ⟨by rfl, ?_⟩) hHeld ?_
              rotate_left
              · (intro w hSw; go_simp; try with_reducible rfl)
              (try simp only [Act.put, List.setIfInBounds_toArray, List.set_cons_zero, List.set_cons_succ])
              refine wpAnyH_done (by kernel_rfl) ?_ _
              first | refine hK2 _ _ (Met.intro (hJ _ _ ?_)) | refine Met.intro (hJ _ _ ?_)
              (repeat apply Exists.intro)
              refine ⟨?_, rfl⟩
              exact ⟨rfl, Lib.hid (bch HBj.out hHeld)⟩
            · obtain ⟨i, rfl⟩ : ∃ i, j = i + 1 := ⟨j - 1, by omega⟩
              have tk : decide (((i + 1 : Nat) : Int) > 0) = true := decide_eq_true (by omega)
              have hjl : i + 1 < R.length := by rw [← HNR.out]; exact hjlt
              obtain ⟨g, o, rfl, c1⟩ := int_at3 (HR.out wp HBj.out).2 (i + 1) hjl
              obtain ⟨g', o', e, c0⟩ := int_at3 (HR.out wp HBj.out).2 i (by omega)
              cases e
              obtain ⟨x1, hx1⟩ : ∃ z, z = R[i + 1] := ⟨_, rfl⟩
              obtain ⟨x0, hx0⟩ : ∃ z, z = R[i] := ⟨_, rfl⟩
              have hlt2 : x0 < x1 := by rw [hx0, hx1]; exact up_lt HUP.out (Nat.lt_succ_self i) hjl
              have tz : decide (x0 ≥ x1) = false := decide_eq_false (by omega)
              have HSP : Hid (∀ W, Below wp.heap.size wp W → W.cell? ⟨g, o + i, none⟩ = some (.int .i64 x0) ∧ W.cell? ⟨g, o + (i + 1), none⟩ = some (.int .i64 x1)) := Lib.hid (fun W hW => by
                obtain ⟨g1, o1, e1, d1⟩ := int_at3 (HR.out W (bch HBj.out hW)).2 (i + 1) hjl
                cases e1
                obtain ⟨g2, o2, e2, d0⟩ := int_at3 (HR.out W (bch HBj.out hW)).2 i (by omega)
                cases e2
                rw [hx0, hx1]
                exact ⟨d0, d1⟩)
              have i1 : IntKind.i64.wrap (((i + 1 : Nat) : Int) - 1) = (i : Int) := by rw [IntWalk.i64_in _ (by omega)]; omega
              have i1' : IntKind.i64.wrap (i : Int) = (i : Int) := IntWalk.i64_in _ (by omega)
              have i1'' : IntKind.i64.wrap ((i : Int) + 1 - 1) = (i : Int) := by rw [IntWalk.i64_in _ (by omega)]; omega
              have i2 : (0 : Int) ≤ (i : Int) := by omega
              have i3 : (i : Int) < (nR : Int) := by omega
              have i5 : (0 : Int) ≤ (i : Int) + 1 := by omega
              have i6 : (i : Int) + 1 < (nR : Int) := by omega
              have i7 : ((i : Int) + 1).toNat = i + 1 := by omega
              clear hx0 hx1 c0 c1 hlt2
              obtain ⟨v0, hv0⟩ : ∃ q, q = World.drew wp := ⟨_, rfl⟩
              refine wp_region_held_drew (S := fun w' => Below wp.heap.size wp w') (by kernel_rfl) (below_drewN (Below.refl _ _) 1) (fun hHeld => ?_)
              rw [← hv0] at hHeld ⊢
              clear hv0
              refine wpAnyH_take (i := 0) (oi := { dst := some 125, op := Op.move (Operand.tmp 13), type := 3, pos := "outright.go:27", after := #[], guard := none }) (v := ?_) rfl (by kernel_rfl) (by kernel_rfl) (by kernel_rfl) (fun _ _ _ h => h) (Or.inl ⟨by rfl, ?_⟩) hHeld ?_
              rotate_left
              · (intro w hSw; have p0 := (HSP.out w hSw).1; have p1 := (HSP.out w hSw).2; go_simp; try with_reducible rfl)
              (try simp only [Act.put, List.setIfInBounds_toArray, List.set_cons_zero, List.set_cons_succ])
              refine wpAnyH_take (i := 1) (oi := { dst := some 126, op := Op.binOp BinOp.gtr 3 (Operand.tmp 125) (Operand.const (Value.int IntKind.i64 0)) 3, type := 4, pos := "outright.go:27", after := #[{ on := 0, ground := Ground.data }], guard := none }) (v := ?_) rfl (by kernel_rfl) (by kernel_rfl) (by kernel_rfl) (fun _ _ _ h => h) (Or.inl ⟨by rfl, ?_⟩) hHeld ?_
              rotate_left
              · (intro w hSw; have p0 := (HSP.out w hSw).1; have p1 := (HSP.out w hSw).2; go_simp; try with_reducible rfl)
              (try simp only [Act.put, List.setIfInBounds_toArray, List.set_cons_zero, List.set_cons_succ])
              refine wpAnyH_take (i := 2) (oi := { dst := some 127, op := Op.move (Operand.tmp 126), type := 4, pos := "outright.go:27", after := #[{ on := 1, ground := Ground.data }], guard := none }) (v := ?_) rfl (by kernel_rfl) (by kernel_rfl) (by kernel_rfl) (fun _ _ _ h => h) (Or.inl ⟨by rfl, ?_⟩) hHeld ?_
              rotate_left
              · (intro w hSw; have p0 := (HSP.out w hSw).1; have p1 := (HSP.out w hSw).2; go_simp; try with_reducible rfl)
              (try simp only [Act.put, List.setIfInBounds_toArray, List.set_cons_zero, List.set_cons_succ])
              refine wpAnyH_take (i := 3) (oi := { dst := some 128, op := Op.move (Operand.tmp 12), type := 22, pos := "outright.go:27", after := #[{ on := 2, ground := Ground.guard }], guard := some (2, true) }) (v := ?_) rfl (by kernel_rfl) (by kernel_rfl) (by kernel_rfl) (fun _ _ _ h => h) (Or.inl ⟨by rfl, ?_⟩) hHeld ?_
              rotate_left
              · (intro w hSw; have p0 := (HSP.out w hSw).1; have p1 := (HSP.out w hSw).2; go_simp; try with_reducible rfl)
              (try simp only [Act.put, List.setIfInBounds_toArray, List.set_cons_zero, List.set_cons_succ])
              refine wpAnyH_take (i := 4) (oi := { dst := some 129, op := Op.move (Operand.tmp 13), type := 3, pos := "outright.go:27", after := #[{ on := 2, ground := Ground.guard }], guard := some (2, true) }) (v := ?_) rfl (by kernel_rfl) (by kernel_rfl) (by kernel_rfl) (fun _ _ _ h => h) (Or.inl ⟨by rfl, ?_⟩) hHeld ?_
              rotate_left
              · (intro w hSw; have p0 := (HSP.out w hSw).1; have p1 := (HSP.out w hSw).2; go_simp; try with_reducible rfl)
              (try simp only [Act.put, List.setIfInBounds_toArray, List.set_cons_zero, List.set_cons_succ])
              refine wpAnyH_take (i := 5) (oi := { dst := some 130, op := Op.binOp BinOp.sub 3 (Operand.tmp 129) (Operand.const (Value.int IntKind.i64 1)) 3, type := 3, pos := "outright.go:27", after := #[{ on := 4, ground := Ground.data }, { on := 2, ground := Ground.guard }], guard := some (2, true) }) (v := ?_) rfl (by kernel_rfl) (by kernel_rfl) (by kernel_rfl) (fun _ _ _ h => h) (Or.inl ⟨by rfl, ?_⟩) hHeld ?_
              rotate_left
              · (intro w hSw; have p0 := (HSP.out w hSw).1; have p1 := (HSP.out w hSw).2; go_simp; try with_reducible rfl)
              (try simp only [Act.put, List.setIfInBounds_toArray, List.set_cons_zero, List.set_cons_succ])
              refine wpAnyH_take (i := 6) (oi := { dst := some 131, op := Op.indexAddr 22 (Operand.tmp 128) (Operand.tmp 130), type := 0, pos := "outright.go:27", after := #[{ on := 3, ground := Ground.data }, { on := 5, ground := Ground.data }, { on := 2, ground := Ground.guard }], guard := some (2, true) }) (v := ?_) rfl (by kernel_rfl) (by kernel_rfl) (by kernel_rfl) (fun _ _ _ h => h) (Or.inl ⟨by rfl, ?_⟩) hHeld ?_
              rotate_left
              · (intro w hSw; have p0 := (HSP.out w hSw).1; have p1 := (HSP.out w hSw).2; go_simp; try with_reducible rfl)
              (try simp only [Act.put, List.setIfInBounds_toArray, List.set_cons_zero, List.set_cons_succ])
              refine wpAnyH_take (i := 7) (oi := { dst := some 132, op := Op.load 3 (Operand.tmp 131), type := 3, pos := "outright.go:27", after := #[{ on := 6, ground := Ground.data }, { on := 2, ground := Ground.guard }], guard := some (2, true) }) (v := ?_) rfl (by kernel_rfl) (by kernel_rfl) (by kernel_rfl) (fun _ _ _ h => h) (Or.inl ⟨by rfl, ?_⟩) hHeld ?_
              rotate_left
              · (intro w hSw; have p0 := (HSP.out w hSw).1; have p1 := (HSP.out w hSw).2; go_simp; try with_reducible rfl)
              (try simp only [Act.put, List.setIfInBounds_toArray, List.set_cons_zero, List.set_cons_succ])
              refine wpAnyH_take (i := 8) (oi := { dst := some 133, op := Op.move (Operand.tmp 12), type := 22, pos := "outright.go:27", after := #[{ on := 2, ground := Ground.guard }], guard := some (2, true) }) (v := ?_) rfl (by kernel_rfl) (by kernel_rfl) (by kernel_rfl) (fun _ _ _ h => h) (Or.inl ⟨by rfl, ?_⟩) hHeld ?_
              rotate_left
              · (intro w hSw; have p0 := (HSP.out w hSw).1; have p1 := (HSP.out w hSw).2; go_simp; try with_reducible rfl)
              (try simp only [Act.put, List.setIfInBounds_toArray, List.set_cons_zero, List.set_cons_succ])
              refine wpAnyH_take (i := 9) (oi := { dst := some 134, op := Op.move (Operand.tmp 13), type := 3, pos := "outright.go:27", after := #[{ on := 2, ground := Ground.guard }], guard := some (2, true) }) (v := ?_) rfl (by kernel_rfl) (by kernel_rfl) (by kernel_rfl) (fun _ _ _ h => h) (Or.inl ⟨by rfl, ?_⟩) hHeld ?_
              rotate_left
              · (intro w hSw; have p0 := (HSP.out w hSw).1; have p1 := (HSP.out w hSw).2; go_simp; try with_reducible rfl)
              (try simp only [Act.put, List.setIfInBounds_toArray, List.set_cons_zero, List.set_cons_succ])
              refine wpAnyH_take (i := 10) (oi := { dst := some 135, op := Op.indexAddr 22 (Operand.tmp 133) (Operand.tmp 134), type := 0, pos := "outright.go:27", after := #[{ on := 8, ground := Ground.data }, { on := 9, ground := Ground.data }, { on := 2, ground := Ground.guard }], guard := some (2, true) }) (v := ?_) rfl (by kernel_rfl) (by kernel_rfl) (by kernel_rfl) (fun _ _ _ h => h) (Or.inl ⟨by rfl, ?_⟩) hHeld ?_
              rotate_left
              · (intro w hSw; have p0 := (HSP.out w hSw).1; have p1 := (HSP.out w hSw).2; go_simp; try with_reducible rfl)
              (try simp only [Act.put, List.setIfInBounds_toArray, List.set_cons_zero, List.set_cons_succ])
              refine wpAnyH_take (i := 11) (oi := { dst := some 136, op := Op.load 3 (Operand.tmp 135), type := 3, pos := "outright.go:27", after := #[{ on := 10, ground := Ground.data }, { on := 2, ground := Ground.guard }], guard := some (2, true) }) (v := ?_) rfl (by kernel_rfl) (by kernel_rfl) (by kernel_rfl) (fun _ _ _ h => h) (Or.inl ⟨by rfl, ?_⟩) hHeld ?_
              rotate_left
              · (intro w hSw; have p0 := (HSP.out w hSw).1; have p1 := (HSP.out w hSw).2; go_simp; try with_reducible rfl)
              (try simp only [Act.put, List.setIfInBounds_toArray, List.set_cons_zero, List.set_cons_succ])
              refine wpAnyH_take (i := 12) (oi := { dst := some 137, op := Op.binOp BinOp.geq 3 (Operand.tmp 132) (Operand.tmp 136) 3, type := 4, pos := "outright.go:27", after := #[{ on := 7, ground := Ground.data }, { on := 11, ground := Ground.data }, { on := 2, ground := Ground.guard }], guard := some (2, true) }) (v := ?_) rfl (by kernel_rfl) (by kernel_rfl) (by kernel_rfl) (fun _ _ _ h => h) (Or.inl ⟨by rfl, ?_⟩) hHeld ?_
              rotate_left
              · (intro w hSw; have p0 := (HSP.out w hSw).1; have p1 := (HSP.out w hSw).2; go_simp; try with_reducible rfl)
              (try simp only [Act.put, List.setIfInBounds_toArray, List.set_cons_zero, List.set_cons_succ])
              refine wpAnyH_take (i := 13) (oi := { dst := some 138, op := Op.pick (Operand.tmp 127) (Operand.tmp 137) (Operand.const (Value.bool false)), type := 4, pos := "outright.go:27", after := #[{ on := 2, ground := Ground.data }, { on := 12, ground := Ground.data }], guard := none }) (v := ?_) rfl (by kernel_rfl) (by kernel_rfl) (by kernel_rfl) (fun _ _ _ h => h) (Or.inl ⟨by rfl, ?_⟩) hHeld ?_
              rotate_left
              · (intro w hSw; have p0 := (HSP.out w hSw).1; have p1 := (HSP.out w hSw).2; go_simp; try with_reducible rfl)
              (try simp only [Act.put, List.setIfInBounds_toArray, List.set_cons_zero, List.set_cons_succ])
              refine wpAnyH_done (by kernel_rfl) ?_ _
              first | refine hK2 _ _ (Met.intro (hJ _ _ ?_)) | refine Met.intro (hJ _ _ ?_)
              (repeat apply Exists.intro)
              refine ⟨?_, rfl⟩
              exact ⟨rfl, Lib.hid (bch HBj.out hHeld)⟩
          case rest =>
          obtain ⟨rfl, HBX⟩ := hcut
          go_wp2_with fail
          go_roundw
          case rel => exact ⟨j + 1, by omega, by go_num, HBX⟩
          case measure => simp [Lib.intOf]; omega
        · have j1 : ¬ ((j : Int) < (nR : Int)) := by omega
          go_wp2_with fail
          go_roundw
          case rel => exact ⟨k + 1, by omega, by go_num, HBj⟩
          case measure => simp [Lib.intOf]; omega
    · have k1 : ¬ ((k : Int) < (n4 : Int)) := by omega
      go_wp2_with fail
      go_ret
      exact ⟨rfl, bch HBL.out HBk.out⟩
end Go.Proofs.YtgmplpfbhcdofaaGreat
