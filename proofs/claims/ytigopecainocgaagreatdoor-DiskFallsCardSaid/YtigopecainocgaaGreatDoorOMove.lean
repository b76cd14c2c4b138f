/- Proved here: move of package tree. -/
import Derived.Test.YtigopecainocgaaGreatDoorOMoved
namespace Go.Proofs.YtigopecainocgaaGreatDoor
open Go.RowKit Go.Shelf

theorem under_root {p : Str} (h : validB p = true) : underB p [47] = true := by
  rw [underB_is p [47] h (by decide)]
  have : namesL [47] = [] := by decide
  rw [this]
  exact List.nil_prefix
theorem take_sub (l : List It) (p : Str) (k : Nat) : (takeL l p k).Sublist l := by
  unfold takeL
  conv => rhs; rw [← List.take_append_drop (idxL l p) l]
  exact (List.Sublist.refl _).append (by rw [← List.drop_drop]; exact List.drop_sublist _ _)
theorem has_bel {l : List It} {p : Str} (h : hasL l p = true) : idxL l p + ((belowL l p).length + 1) ≤ l.length := by
  have h1 : (belowL l p).length ≤ (l.drop (idxL l p + oneL l p)).length := (List.takeWhile_sublist _).length_le
  have h2 : oneL l p = 1 := by unfold oneL; rw [if_pos h]
  have h3 := has_lt h
  rw [List.length_drop, h2] at h1
  omega

set_option maxRecDepth 100000 in
set_option maxHeartbeats 4000000 in
theorem move_any (B b : Nat) (v : Value) (l : List It) (o : Opn) (w : World) (hG : Gr w B b v l) (h : TreeOk l) (hv : validB o.path = true) (hT : Tabs w) (hvt : validB o.to = true) :
    Calls Tryz.prog 67 #[.pointer (some ⟨b, 0, none⟩), .agg o.arr] w (GrR B b v l (moveM l o.path o.to) w) := by
  obtain ⟨w1, hw1⟩ : ∃ z, z = w.alloc (.cells o.arr 46) := ⟨_, rfl⟩
  have hpl : o.path.length ≤ 140737488355328 := Nat.le_trans (valid_len _ hv) (by decide)
  obtain ⟨bo, hbo⟩ : ∃ z, z = w.heap.size := ⟨_, rfl⟩
  have X1 : Hid (Box w1 bo 46 o.arr) := Lib.hid (by rw [hw1, hbo]; exact box_new)
  have HB1 : Hid (Below w.heap.size w w1) := Lib.hid (by rw [hw1]; exact below_new _ _)
  have HG1 : Hid (Gr w1 B b v l) := Lib.hid (hG.on HB1.out)
  have HT1 : Hid (Tabs w1) := Lib.hid (hT.on HB1.out)
  have HG := Lib.hid hG
  have HOK := Lib.hid h
  have HV := Lib.hid hv
  have HVT := Lib.hid hvt
  obtain ⟨r, hr⟩ : ∃ r, r = moveM l o.path o.to := ⟨_, rfl⟩
  rw [← hr]
  obtain ⟨q, hq⟩ : ∃ q, getI l o.path = q := ⟨_, rfl⟩
  obtain ⟨y, hy⟩ : ∃ y, y = q.getD .nil := ⟨_, rfl⟩
  obtain ⟨is, his⟩ : ∃ z, z = q.isSome := ⟨_, rfl⟩
  obtain ⟨v0, hv0⟩ : ∃ z, z = World.drew w1 := ⟨_, rfl⟩
  obtain ⟨vs, hvs⟩ : ∃ z, z = World.drew w1 := ⟨_, rfl⟩
  have HGV : Hid (Gr vs B b v l) := Lib.hid (by rw [hvs]; exact HG1.out.drew)
  have HTV : Hid (Tabs vs) := Lib.hid (by rw [hvs]; exact HT1.out.on ((Below.refl _ _).drew))
  have HV2 : Hid (Below w1.heap.size w1 vs) := Lib.hid (by rw [hvs]; exact (Below.refl _ _).drew)
  have XO : Hid (Box vs bo 46 o.arr) := Lib.hid (X1.out.on HV2.out)
  obtain ⟨a, n, c, rfl⟩ := own_any HGV.out.own
  have XG : Hid (Box vs b 78 #[.slice a n c]) := Lib.hid HGV.out.box
  have HGET : Hid (∀ W, Below vs.heap.size vs W → Calls Tryz.prog 49 #[.slice a n c, .string ⟨o.path.toArray⟩] W fun e w' => e = .returned (.tuple #[.agg y.arr, .bool is]) ∧ Below W.heap.size W w') := Lib.hid (fun W hW => by
    have := tget_gen l (.slice a n c) o.path W (srt_of HOK.out) HOK.out.many (HGV.out.on hW).rd (tree_sz HOK.out) (Nat.le_trans (valid_len _ HV.out) (by decide)) (HTV.out.on hW)
    rw [hq] at this
    rw [hy, his]
    exact this)
  have HQ := Lib.hid hq
  have HY := Lib.hid hy
  have HI := Lib.hid his
  have HR0 := Lib.hid hr
  clear hq hy his hpl hr hG h hv hT hvt
  go_enter Tryz.func67, Tryz.ntmps67
  go_upto_region 1 with fail
  rw [← hw1, ← hbo]
  clear hw1 hbo
  go_cut [5, 6] (CutG vs y is)
  case first =>
    rename_i J2 K2 hJ hK2
    refine wp_region_held_drew (S := fun w' => Below vs.heap.size vs w') (by kernel_rfl) (by rw [hvs]; exact Below.refl _ _) (fun hHeld => ?_)
    rw [← hv0] at hHeld ⊢
    clear hv0 hvs
    refine wpAnyH_take (i := 0) (oi := { dst := some 13, op := Op.move (Operand.tmp 0), type := 95, pos := "op.go:86", after := #[], guard := none }) (v := ?_) rfl (by kernel_rfl) (by kernel_rfl) (by kernel_rfl) (fun _ _ _ h => h) (Or.inl ⟨by rfl, ?_⟩) hHeld ?_
    rotate_left
    · (intro w hSw; go_simp; try with_reducible rfl)
    (try simp only [Act.put, List.setIfInBounds_toArray, List.set_cons_zero, List.set_cons_succ])
    refine wpAnyH_take (i := 1) (oi := { dst := some 14, op := Op.nilCheck (Operand.tmp 13), type := 0, pos := "op.go:86", after := #[{ on := 0, ground := Ground.data }], guard := none }) (v := ?_) rfl (by kernel_rfl) (by kernel_rfl) (by kernel_rfl) (fun _ _ _ h => h) (Or.inl ⟨by rfl, ?_⟩) hHeld ?_
    rotate_left
    · (intro w hSw; go_simp; try with_reducible rfl)
    (try simp only [Act.put, List.setIfInBounds_toArray, List.set_cons_zero, List.set_cons_succ])
    refine wpAnyH_take (i := 2) (oi := { dst := some 15, op := Op.fieldAddr 78 (Operand.tmp 14) 0, type := 0, pos := "op.go:86", after := #[{ on := 1, ground := Ground.data }], guard := none }) (v := ?_) rfl (by kernel_rfl) (by kernel_rfl) (by kernel_rfl) (fun _ _ _ h => h) (Or.inl ⟨by rfl, ?_⟩) hHeld ?_
    rotate_left
    · (intro w hSw; go_simp; try with_reducible rfl)
    (try simp only [Act.put, List.setIfInBounds_toArray, List.set_cons_zero, List.set_cons_succ])
    refine wpAnyH_take (i := 3) (oi := { dst := some 16, op := Op.load 22 (Operand.tmp 15), type := 22, pos := "op.go:86", after := #[{ on := 2, ground := Ground.data }], guard := none }) (v := ?_) rfl (by kernel_rfl) (by kernel_rfl) (by kernel_rfl) (fun _ _ _ h => h) (Or.inl ⟨by rfl, ?_⟩) hHeld ?_
    rotate_left
    · (intro w hSw; have p0 : w.cell? ⟨b, 0, none⟩ = some (.slice a n c) := (XG.out.on hSw).cell (k := 0) rfl; go_simp; try with_reducible rfl)
    (try simp only [Act.put, List.setIfInBounds_toArray, List.set_cons_zero, List.set_cons_succ])
    refine wpAnyH_take (i := 4) (oi := { dst := some 17, op := Op.fieldAddr 46 (Operand.tmp 3) 1, type := 0, pos := "op.go:86", after := #[], guard := none }) (v := ?_) rfl (by kernel_rfl) (by kernel_rfl) (by kernel_rfl) (fun _ _ _ h => h) (Or.inl ⟨by rfl, ?_⟩) hHeld ?_
    rotate_left
    · (intro w hSw; go_simp; try with_reducible rfl)
    (try simp only [Act.put, List.setIfInBounds_toArray, List.set_cons_zero, List.set_cons_succ])
    refine wpAnyH_take (i := 5) (oi := { dst := some 18, op := Op.load 9 (Operand.tmp 17), type := 9, pos := "op.go:86", after := #[{ on := 4, ground := Ground.data }], guard := none }) (v := ?_) rfl (by kernel_rfl) (by kernel_rfl) (by kernel_rfl) (fun _ _ _ h => h) (Or.inl ⟨by rfl, ?_⟩) hHeld ?_
    rotate_left
    · (intro w hSw; have p0 : w.cell? ⟨bo, 1, none⟩ = some (.string ⟨o.path.toArray⟩) := (XO.out.on hSw).cell (k := 1) rfl; go_simp; try with_reducible rfl)
    (try simp only [Act.put, List.setIfInBounds_toArray, List.set_cons_zero, List.set_cons_succ])
    refine wpAnyH_ready (rs := [6, 10]) (by kernel_rfl) (by simp) (AllReadyH.cons (o := { dst := some 19, op := Op.call { callee := Callee.value (Operand.func 49), args := #[Operand.tmp 16, Operand.tmp 18], argTypes := #[22, 9] }, type := 60, pos := "op.go:86", after := #[{ on := 3, ground := Ground.data }, { on := 5, ground := Ground.data }], guard := none }) rfl (fun K hK => ?_) (AllReadyH.cons (o := { dst := some 5, op := Op.alloc 59, type := 0, pos := "op.go:86", after := #[], guard := none }) rfl (fun K hK => ?_) AllReadyH.nil))
    · go_simp
      refine (HGET.out _ hHeld).mono ?_
      rintro e v106 ⟨rfl, hba⟩
      refine hK.out _ _ (bch hHeld hba) (fun hHeld => ?_)
      clear hba
      (try simp only [Act.put, List.setIfInBounds_toArray, List.set_cons_zero, List.set_cons_succ])
      refine wpAnyH_take (i := 7) (oi := { dst := some 12, op := Op.move (Operand.tmp 19), type := 60, pos := "op.go:86", after := #[{ on := 6, ground := Ground.data }], guard := none }) (v := ?_) rfl (by kernel_rfl) (by kernel_rfl) (by kernel_rfl) (fun _ _ _ h => h) (Or.inl ⟨by rfl, ?_⟩) hHeld ?_
      rotate_left
      · (intro w hSw; go_simp; try with_reducible rfl)
      (try simp only [Act.put, List.setIfInBounds_toArray, List.set_cons_zero, List.set_cons_succ])
      refine wpAnyH_take (i := 8) (oi := { dst := some 20, op := Op.extract (Operand.tmp 12) 0, type := 59, pos := "op.go:86", after := #[{ on := 7, ground := Ground.data }], guard := none }) (v := ?_) rfl (by kernel_rfl) (by kernel_rfl) (by kernel_rfl) (fun _ _ _ h => h) (Or.inl ⟨by rfl, ?_⟩) hHeld ?_
      rotate_left
      · (intro w hSw; go_simp; try with_reducible rfl)
      (try simp only [Act.put, List.setIfInBounds_toArray, List.set_cons_zero, List.set_cons_succ])
      refine wpAnyH_take (i := 9) (oi := { dst := some 21, op := Op.extract (Operand.tmp 12) 1, type := 4, pos := "op.go:86", after := #[{ on := 7, ground := Ground.data }, { on := 11, ground := Ground.gcOnly Departure.lateStores }], guard := none }) (v := ?_) rfl (by kernel_rfl) (by kernel_rfl) (by kernel_rfl) (fun _ _ _ h => h) (Or.inl ⟨by rfl, ?_⟩) hHeld ?_
      rotate_left
      · (intro w hSw; go_simp; try with_reducible rfl)
      (try simp only [Act.put, List.setIfInBounds_toArray, List.set_cons_zero, List.set_cons_succ])
      refine wpAnyH_ready (rs := [10]) (by kernel_rfl) (by simp) (AllReadyH.cons (o := { dst := some 5, op := Op.alloc 59, type := 0, pos := "op.go:86", after := #[], guard := none }) rfl (fun K hK => ?_) AllReadyH.nil)
      · go_simp
        have hba : Below v106.heap.size v106 (v106.alloc (.cells #[.string ⟨#[]⟩, .int .i64 0, .string ⟨#[]⟩] 59)) := below_new _ _
        have Z7 : Hid (Box (v106.alloc (.cells #[.string ⟨#[]⟩, .int .i64 0, .string ⟨#[]⟩] 59)) v106.heap.size 59 It.nil.arr) := Lib.hid box_new
        have HB7 : Hid (vs.heap.size ≤ v106.heap.size) := Lib.hid hHeld.size
        obtain ⟨v110, hv9⟩ : ∃ q, q = (v106.alloc (.cells #[.string ⟨#[]⟩, .int .i64 0, .string ⟨#[]⟩] 59)) := ⟨_, rfl⟩
        refine hK.out _ _ (bch hHeld hba) (fun hHeld => ?_)
        clear hba
        rw [← hv9] at Z7 hHeld ⊢
        clear hv9
        obtain ⟨b7, hg9⟩ : ∃ q, q = v106.heap.size := ⟨_, rfl⟩
        rw [← hg9] at Z7 HB7 ⊢
        clear hg9
        (try simp only [Act.put, List.setIfInBounds_toArray, List.set_cons_zero, List.set_cons_succ])
        refine wpAnyH_ready (rs := [11]) (by kernel_rfl) (by simp) (AllReadyH.cons (o := { dst := none, op := Op.store 59 (Operand.tmp 5) (Operand.tmp 20), type := 0, pos := "op.go:86", after := #[{ on := 10, ground := Ground.data }, { on := 8, ground := Ground.data }, { on := 6, ground := Ground.chain }, { on := 0, ground := Ground.phase }, { on := 1, ground := Ground.phase }, { on := 2, ground := Ground.phase }, { on := 3, ground := Ground.phase }, { on := 4, ground := Ground.phase }, { on := 5, ground := Ground.phase }, { on := 6, ground := Ground.phase }, { on := 7, ground := Ground.phase }, { on := 8, ground := Ground.phase }, { on := 9, ground := Ground.textOnly Departure.lateStores }, { on := 10, ground := Ground.phase }], guard := none }) rfl (fun K hK => ?_) AllReadyH.nil)
        · refine wp_store_if (by rfl) 59 (.tmp 5) (.tmp 20) rfl b7 59 It.nil.arr y.arr rfl rfl Z7.out (info35 _) rfl (iarr_one _) ?_
          have Z8 : Hid (Box (v110.setRow b7 y.arr) b7 59 y.arr) := Lib.hid (Z7.out.row _)
          refine hK.out _ _ (below_row hHeld HB7.out _) (fun hHeld => ?_)
          clear Z7
          (try simp only [Act.put])
          refine wpAnyH_take (i := 12) (oi := { dst := some 6, op := Op.assign (Operand.tmp 21), type := 4, pos := "op.go:86", after := #[{ on := 9, ground := Ground.data }, { on := 11, ground := Ground.chain }, { on := 0, ground := Ground.phase }, { on := 1, ground := Ground.phase }, { on := 2, ground := Ground.phase }, { on := 3, ground := Ground.phase }, { on := 4, ground := Ground.phase }, { on := 5, ground := Ground.phase }, { on := 6, ground := Ground.phase }, { on := 7, ground := Ground.phase }, { on := 8, ground := Ground.phase }, { on := 9, ground := Ground.phase }, { on := 10, ground := Ground.phase }, { on := 11, ground := Ground.phase }], guard := none }) (v := ?_) rfl (by kernel_rfl) (by kernel_rfl) (by kernel_rfl) (fun _ _ _ h => h) (Or.inl ⟨by rfl, ?_⟩) hHeld ?_
          rotate_left
          · (intro w hSw; go_simp; try with_reducible rfl)
          (try simp only [Act.put, List.setIfInBounds_toArray, List.set_cons_zero, List.set_cons_succ])
          refine wpAnyH_done (by kernel_rfl) ?_ _
          first | refine hK2 _ _ (Met.intro (hJ _ _ ?_)) | refine Met.intro (hJ _ _ ?_)
          (repeat apply Exists.intro)
          refine ⟨?_, rfl⟩
          exact ⟨_, rfl, rfl, Z8, Lib.hid hHeld, HB7⟩
    · go_simp
      have hba : Below v0.heap.size v0 (v0.alloc (.cells #[.string ⟨#[]⟩, .int .i64 0, .string ⟨#[]⟩] 59)) := below_new _ _
      have Z7 : Hid (Box (v0.alloc (.cells #[.string ⟨#[]⟩, .int .i64 0, .string ⟨#[]⟩] 59)) v0.heap.size 59 It.nil.arr) := Lib.hid box_new
      have HB7 : Hid (vs.heap.size ≤ v0.heap.size) := Lib.hid hHeld.size
      obtain ⟨v110, hv9⟩ : ∃ q, q = (v0.alloc (.cells #[.string ⟨#[]⟩, .int .i64 0, .string ⟨#[]⟩] 59)) := ⟨_, rfl⟩
      refine hK.out _ _ (bch hHeld hba) (fun hHeld => ?_)
      clear hba
      rw [← hv9] at Z7 hHeld ⊢
      clear hv9
      obtain ⟨b7, hg9⟩ : ∃ q, q = v0.heap.size := ⟨_, rfl⟩
      rw [← hg9] at Z7 HB7 ⊢
      clear hg9
      (try simp only [Act.put, List.setIfInBounds_toArray, List.set_cons_zero, List.set_cons_succ])
      refine wpAnyH_ready (rs := [6]) (by kernel_rfl) (by simp) (AllReadyH.cons (o := { dst := some 19, op := Op.call { callee := Callee.value (Operand.func 49), args := #[Operand.tmp 16, Operand.tmp 18], argTypes := #[22, 9] }, type := 60, pos := "op.go:86", after := #[{ on := 3, ground := Ground.data }, { on := 5, ground := Ground.data }], guard := none }) rfl (fun K hK => ?_) AllReadyH.nil)
      · go_simp
        refine (HGET.out _ hHeld).mono ?_
        rintro e v106 ⟨rfl, hba⟩
        have Z7 := Lib.hid (Z7.out.on hba)
        refine hK.out _ _ (bch hHeld hba) (fun hHeld => ?_)
        clear hba
        (try simp only [Act.put, List.setIfInBounds_toArray, List.set_cons_zero, List.set_cons_succ])
        refine wpAnyH_take (i := 7) (oi := { dst := some 12, op := Op.move (Operand.tmp 19), type := 60, pos := "op.go:86", after := #[{ on := 6, ground := Ground.data }], guard := none }) (v := ?_) rfl (by kernel_rfl) (by kernel_rfl) (by kernel_rfl) (fun _ _ _ h => h) (Or.inl ⟨by rfl, ?_⟩) hHeld ?_
        rotate_left
        · (intro w hSw; go_simp; try with_reducible rfl)
        (try simp only [Act.put, List.setIfInBounds_toArray, List.set_cons_zero, List.set_cons_succ])
        refine wpAnyH_take (i := 8) (oi := { dst := some 20, op := Op.extract (Operand.tmp 12) 0, type := 59, pos := "op.go:86", after := #[{ on := 7, ground := Ground.data }], guard := none }) (v := ?_) rfl (by kernel_rfl) (by kernel_rfl) (by kernel_rfl) (fun _ _ _ h => h) (Or.inl ⟨by rfl, ?_⟩) hHeld ?_
        rotate_left
        · (intro w hSw; go_simp; try with_reducible rfl)
        (try simp only [Act.put, List.setIfInBounds_toArray, List.set_cons_zero, List.set_cons_succ])
        refine wpAnyH_take (i := 9) (oi := { dst := some 21, op := Op.extract (Operand.tmp 12) 1, type := 4, pos := "op.go:86", after := #[{ on := 7, ground := Ground.data }, { on := 11, ground := Ground.gcOnly Departure.lateStores }], guard := none }) (v := ?_) rfl (by kernel_rfl) (by kernel_rfl) (by kernel_rfl) (fun _ _ _ h => h) (Or.inl ⟨by rfl, ?_⟩) hHeld ?_
        rotate_left
        · (intro w hSw; go_simp; try with_reducible rfl)
        (try simp only [Act.put, List.setIfInBounds_toArray, List.set_cons_zero, List.set_cons_succ])
        refine wpAnyH_ready (rs := [11]) (by kernel_rfl) (by simp) (AllReadyH.cons (o := { dst := none, op := Op.store 59 (Operand.tmp 5) (Operand.tmp 20), type := 0, pos := "op.go:86", after := #[{ on := 10, ground := Ground.data }, { on := 8, ground := Ground.data }, { on := 6, ground := Ground.chain }, { on := 0, ground := Ground.phase }, { on := 1, ground := Ground.phase }, { on := 2, ground := Ground.phase }, { on := 3, ground := Ground.phase }, { on := 4, ground := Ground.phase }, { on := 5, ground := Ground.phase }, { on := 6, ground := Ground.phase }, { on := 7, ground := Ground.phase }, { on := 8, ground := Ground.phase }, { on := 9, ground := Ground.textOnly Departure.lateStores }, { on := 10, ground := Ground.phase }], guard := none }) rfl (fun K hK => ?_) AllReadyH.nil)
        · refine wp_store_if (by rfl) 59 (.tmp 5) (.tmp 20) rfl b7 59 It.nil.arr y.arr rfl rfl Z7.out (info35 _) rfl (iarr_one _) ?_
          have Z8 : Hid (Box (v106.setRow b7 y.arr) b7 59 y.arr) := Lib.hid (Z7.out.row _)
          refine hK.out _ _ (below_row hHeld HB7.out _) (fun hHeld => ?_)
          clear Z7
          (try simp only [Act.put])
          refine wpAnyH_take (i := 12) (oi := { dst := some 6, op := Op.assign (Operand.tmp 21), type := 4, pos := "op.go:86", after := #[{ on := 9, ground := Ground.data }, { on := 11, ground := Ground.chain }, { on := 0, ground := Ground.phase }, { on := 1, ground := Ground.phase }, { on := 2, ground := Ground.phase }, { on := 3, ground := Ground.phase }, { on := 4, ground := Ground.phase }, { on := 5, ground := Ground.phase }, { on := 6, ground := Ground.phase }, { on := 7, ground := Ground.phase }, { on := 8, ground := Ground.phase }, { on := 9, ground := Ground.phase }, { on := 10, ground := Ground.phase }, { on := 11, ground := Ground.phase }], guard := none }) (v := ?_) rfl (by kernel_rfl) (by kernel_rfl) (by kernel_rfl) (fun _ _ _ h => h) (Or.inl ⟨by rfl, ?_⟩) hHeld ?_
          rotate_left
          · (intro w hSw; go_simp; try with_reducible rfl)
          (try simp only [Act.put, List.setIfInBounds_toArray, List.set_cons_zero, List.set_cons_succ])
          refine wpAnyH_done (by kernel_rfl) ?_ _
          first | refine hK2 _ _ (Met.intro (hJ _ _ ?_)) | refine Met.intro (hJ _ _ ?_)
          (repeat apply Exists.intro)
          refine ⟨?_, rfl⟩
          exact ⟨_, rfl, rfl, Z8, Lib.hid hHeld, HB7⟩
  case rest =>
    obtain ⟨b7, rfl, rfl, Z7, HB, HB7⟩ := hcut
    obtain ⟨w2, hw2⟩ : ∃ z, z = wc := ⟨_, rfl⟩
    rw [← hw2] at HB Z7 ⊢
    have HB2 := Lib.hid (bch HB1.out (bch HV2.out HB.out))
    have X2 := Lib.hid (XO.out.on HB.out)
    have HG2 := Lib.hid (HGV.out.on HB.out)
    have HT2 := Lib.hid (HTV.out.on HB.out)
    obtain ⟨c0, c1, c2⟩ := Z7.out.it
    have p1 : w2.cell? ⟨bo, 1, none⟩ = some (.string ⟨o.path.toArray⟩) := X2.out.cell (k := 1) rfl
    have p3 : w2.cell? ⟨bo, 3, none⟩ = some (.string ⟨o.data.toArray⟩) := X2.out.cell (k := 3) rfl
    clear hw2 XG HGET hvs hv0
    cases q with
    | none =>
      obtain rfl : is = false := HI.out
      have HR : Hid (r = .error 4) := Lib.hid (by rw [HR0.out]; unfold moveM; rw [HQ.out])
      go_wp2_with fail
      go_ret
      exact GrR.no HR.out HG.out HB2.out
    | some z =>
      obtain rfl : is = true := HI.out
      obtain rfl : y = z := HY.out
      have p2 : w2.cell? ⟨bo, 2, none⟩ = some (.string ⟨o.to.toArray⟩) := X2.out.cell (k := 2) rfl
      have htl : o.to.length ≤ 140737488355328 := Nat.le_trans (valid_len _ HVT.out) (by decide)
      have hpl2 : o.path.length ≤ 140737488355328 := Nat.le_trans (valid_len _ HV.out) (by decide)
      obtain ⟨u, hu⟩ : ∃ u, u = underB o.to o.path := ⟨_, rfl⟩
      have HUN : Hid (∀ W, Calls Tryz.prog 89 #[.string ⟨o.to.toArray⟩, .string ⟨o.path.toArray⟩] W fun e w' => e = .returned (.bool u) ∧ Below W.heap.size W w') := Lib.hid (under_is o.to o.path htl hpl2 u hu.symm)
      have HU := Lib.hid hu
      obtain ⟨z, hz⟩ : ∃ z, z = openM l o.to := ⟨_, rfl⟩
      have HZ := Lib.hid hz
      have HOP : Hid (∀ W, Below w2.heap.size w2 W → Calls Tryz.prog 86 #[.pointer (some ⟨b, 0, none⟩), .string ⟨o.to.toArray⟩] W fun e w' => e = .returned (.int .i64 z) ∧ Below W.heap.size W w') := Lib.hid (fun W hW => by
        rw [hz]
        exact open_any B b _ l o.to W (HG2.out.on hW) (srt_of HOK.out) HOK.out.many (tree_sz HOK.out) HVT.out (HT2.out.on hW))
      have HR1 : Hid (r = if underB o.to o.path = true then .error 2 else if openM l o.to ≠ 0 then .error (openM l o.to) else if (getI l o.to).isSome then .error 5 else if fitsM l o.path o.to = false then .error 110 else .ok (putL (takeL l o.path ((belowL l o.path).length + 1)) (movedM l o.path o.to y) o.to)) := Lib.hid (by rw [HR0.out]; unfold moveM; rw [HQ.out])
      clear hu hz c0 c1 c2 p3 htl hpl2
      cases u with
      | true =>
        have HR : Hid (r = .error 2) := Lib.hid (by rw [HR1.out, if_pos HU.out.symm])
        go_wp2_with fail
        refine (HUN.out _).mono ?_
        rintro e w3 ⟨rfl, hb⟩
        have HB3 := Lib.hid (bch HB2.out hb)
        clear hb
        go_wp2_with fail
        go_ret
        exact GrR.no HR.out HG.out HB3.out
      | false =>
        have HNU : Hid (¬ underB o.to o.path = true) := Lib.hid (by rw [← HU.out]; simp)
        go_wp2_with fail
        refine (HUN.out _).mono ?_
        rintro e w3 ⟨rfl, hb⟩
        have HB23 := Lib.hid hb
        have HB3 := Lib.hid (bch HB2.out hb)
        have X3 := Lib.hid (X2.out.on hb)
        have p2' : w3.cell? ⟨bo, 2, none⟩ = some (.string ⟨o.to.toArray⟩) := X3.out.cell (k := 2) rfl
        clear hb p2 p1
        go_wp2_with fail
        refine (HOP.out w3 HB23.out).mono ?_
        rintro e w4 ⟨rfl, hb⟩
        have HB24 := Lib.hid (bch HB23.out hb)
        have HB4 := Lib.hid (bch HB3.out hb)
        have X4 := Lib.hid (X3.out.on hb)
        clear hb p2'
        by_cases hz0 : z = 0
        · have HR2 : Hid (r = if (getI l o.to).isSome then .error 5 else if fitsM l o.path o.to = false then .error 110 else .ok (putL (takeL l o.path ((belowL l o.path).length + 1)) (movedM l o.path o.to y) o.to)) := Lib.hid (by rw [HR1.out, if_neg HNU.out, if_neg (by rw [← HZ.out]; simpa using hz0)])
          subst hz0
          go_upto_region 9 with fail
          obtain ⟨q2, hq2⟩ : ∃ q, getI l o.to = q := ⟨_, rfl⟩
          obtain ⟨y2, hy2⟩ : ∃ y, y = q2.getD .nil := ⟨_, rfl⟩
          obtain ⟨is2, his2⟩ : ∃ z, z = q2.isSome := ⟨_, rfl⟩
          have HG4 := Lib.hid (HG2.out.on HB24.out)
          have HT4 := Lib.hid (HT2.out.on HB24.out)
          clear HGV HTV HV2 XO HB HB7 Z7
          obtain ⟨v0, hv0⟩ : ∃ z, z = World.drew w4 := ⟨_, rfl⟩
          obtain ⟨vs, hvs⟩ : ∃ z, z = World.drew w4 := ⟨_, rfl⟩
          have HGV : Hid (Gr vs B b (.slice a n c) l) := Lib.hid (by rw [hvs]; exact HG4.out.drew)
          have HTV : Hid (Tabs vs) := Lib.hid (by rw [hvs]; exact HT4.out.on ((Below.refl _ _).drew))
          have HV2 : Hid (Below w4.heap.size w4 vs) := Lib.hid (by rw [hvs]; exact (Below.refl _ _).drew)
          have XO : Hid (Box vs bo 46 o.arr) := Lib.hid (X4.out.on HV2.out)
          have XG : Hid (Box vs b 78 #[.slice a n c]) := Lib.hid HGV.out.box
          have HGET2 : Hid (∀ W, Below vs.heap.size vs W → Calls Tryz.prog 49 #[.slice a n c, .string ⟨o.to.toArray⟩] W fun e w' => e = .returned (.tuple #[.agg y2.arr, .bool is2]) ∧ Below W.heap.size W w') := Lib.hid (fun W hW => by
            have := tget_gen l (.slice a n c) o.to W (srt_of HOK.out) HOK.out.many (HGV.out.on hW).rd (tree_sz HOK.out) (Nat.le_trans (valid_len _ HVT.out) (by decide)) (HTV.out.on hW)
            rw [hq2] at this
            rw [hy2, his2]
            exact this)
          have HQ2 := Lib.hid hq2
          have HI2 := Lib.hid his2
          clear hq2 hy2 his2
          go_cut [8, 9] (CutG vs y2 is2)
          case first =>
            rename_i J2 K2 hJ hK2
            refine wp_region_held_drew (S := fun w' => Below vs.heap.size vs w') (by kernel_rfl) (by rw [hvs]; exact Below.refl _ _) (fun hHeld => ?_)
            rw [← hv0] at hHeld ⊢
            clear hv0 hvs
            refine wpAnyH_take (i := 0) (oi := { dst := some 37, op := Op.move (Operand.tmp 0), type := 95, pos := "op.go:96", after := #[], guard := none }) (v := ?_) rfl (by kernel_rfl) (by kernel_rfl) (by kernel_rfl) (fun _ _ _ h => h) (Or.inl ⟨by rfl, ?_⟩) hHeld ?_
            rotate_left
            · (intro w hSw; go_simp; try with_reducible rfl)
            (try simp only [Act.put, List.setIfInBounds_toArray, List.set_cons_zero, List.set_cons_succ])
            refine wpAnyH_take (i := 1) (oi := { dst := some 38, op := Op.nilCheck (Operand.tmp 37), type := 0, pos := "op.go:96", after := #[{ on := 0, ground := Ground.data }], guard := none }) (v := ?_) rfl (by kernel_rfl) (by kernel_rfl) (by kernel_rfl) (fun _ _ _ h => h) (Or.inl ⟨by rfl, ?_⟩) hHeld ?_
            rotate_left
            · (intro w hSw; go_simp; try with_reducible rfl)
            (try simp only [Act.put, List.setIfInBounds_toArray, List.set_cons_zero, List.set_cons_succ])
            refine wpAnyH_take (i := 2) (oi := { dst := some 39, op := Op.fieldAddr 78 (Operand.tmp 38) 0, type := 0, pos := "op.go:96", after := #[{ on := 1, ground := Ground.data }], guard := none }) (v := ?_) rfl (by kernel_rfl) (by kernel_rfl) (by kernel_rfl) (fun _ _ _ h => h) (Or.inl ⟨by rfl, ?_⟩) hHeld ?_
            rotate_left
            · (intro w hSw; go_simp; try with_reducible rfl)
            (try simp only [Act.put, List.setIfInBounds_toArray, List.set_cons_zero, List.set_cons_succ])
            refine wpAnyH_take (i := 3) (oi := { dst := some 40, op := Op.load 22 (Operand.tmp 39), type := 22, pos := "op.go:96", after := #[{ on := 2, ground := Ground.data }], guard := none }) (v := ?_) rfl (by kernel_rfl) (by kernel_rfl) (by kernel_rfl) (fun _ _ _ h => h) (Or.inl ⟨by rfl, ?_⟩) hHeld ?_
            rotate_left
            · (intro w hSw; have p0 : w.cell? ⟨b, 0, none⟩ = some (.slice a n c) := (XG.out.on hSw).cell (k := 0) rfl; go_simp; try with_reducible rfl)
            (try simp only [Act.put, List.setIfInBounds_toArray, List.set_cons_zero, List.set_cons_succ])
            refine wpAnyH_take (i := 4) (oi := { dst := some 41, op := Op.fieldAddr 46 (Operand.tmp 3) 2, type := 0, pos := "op.go:96", after := #[], guard := none }) (v := ?_) rfl (by kernel_rfl) (by kernel_rfl) (by kernel_rfl) (fun _ _ _ h => h) (Or.inl ⟨by rfl, ?_⟩) hHeld ?_
            rotate_left
            · (intro w hSw; go_simp; try with_reducible rfl)
            (try simp only [Act.put, List.setIfInBounds_toArray, List.set_cons_zero, List.set_cons_succ])
            refine wpAnyH_take (i := 5) (oi := { dst := some 42, op := Op.load 9 (Operand.tmp 41), type := 9, pos := "op.go:96", after := #[{ on := 4, ground := Ground.data }], guard := none }) (v := ?_) rfl (by kernel_rfl) (by kernel_rfl) (by kernel_rfl) (fun _ _ _ h => h) (Or.inl ⟨by rfl, ?_⟩) hHeld ?_
            rotate_left
            · (intro w hSw; have p0 : w.cell? ⟨bo, 2, none⟩ = some (.string ⟨o.to.toArray⟩) := (XO.out.on hSw).cell (k := 2) rfl; go_simp; try with_reducible rfl)
            (try simp only [Act.put, List.setIfInBounds_toArray, List.set_cons_zero, List.set_cons_succ])
            refine wpAnyH_ready (rs := [6, 10]) (by kernel_rfl) (by simp) (AllReadyH.cons (o := { dst := some 43, op := Op.call { callee := Callee.value (Operand.func 49), args := #[Operand.tmp 40, Operand.tmp 42], argTypes := #[22, 9] }, type := 60, pos := "op.go:96", after := #[{ on := 3, ground := Ground.data }, { on := 5, ground := Ground.data }], guard := none }) rfl (fun K hK => ?_) (AllReadyH.cons (o := { dst := some 8, op := Op.alloc 59, type := 0, pos := "op.go:96", after := #[], guard := none }) rfl (fun K hK => ?_) AllReadyH.nil))
            · go_simp
              refine (HGET2.out _ hHeld).mono ?_
              rintro e v106 ⟨rfl, hba⟩
              refine hK.out _ _ (bch hHeld hba) (fun hHeld => ?_)
              clear hba
              (try simp only [Act.put, List.setIfInBounds_toArray, List.set_cons_zero, List.set_cons_succ])
              refine wpAnyH_take (i := 7) (oi := { dst := some 36, op := Op.move (Operand.tmp 43), type := 60, pos := "op.go:96", after := #[{ on := 6, ground := Ground.data }], guard := none }) (v := ?_) rfl (by kernel_rfl) (by kernel_rfl) (by kernel_rfl) (fun _ _ _ h => h) (Or.inl ⟨by rfl, ?_⟩) hHeld ?_
              rotate_left
              · (intro w hSw; go_simp; try with_reducible rfl)
              (try simp only [Act.put, List.setIfInBounds_toArray, List.set_cons_zero, List.set_cons_succ])
              refine wpAnyH_take (i := 8) (oi := { dst := some 44, op := Op.extract (Operand.tmp 36) 0, type := 59, pos := "op.go:96", after := #[{ on := 7, ground := Ground.data }], guard := none }) (v := ?_) rfl (by kernel_rfl) (by kernel_rfl) (by kernel_rfl) (fun _ _ _ h => h) (Or.inl ⟨by rfl, ?_⟩) hHeld ?_
              rotate_left
              · (intro w hSw; go_simp; try with_reducible rfl)
              (try simp only [Act.put, List.setIfInBounds_toArray, List.set_cons_zero, List.set_cons_succ])
              refine wpAnyH_take (i := 9) (oi := { dst := some 45, op := Op.extract (Operand.tmp 36) 1, type := 4, pos := "op.go:96", after := #[{ on := 7, ground := Ground.data }, { on := 11, ground := Ground.gcOnly Departure.lateStores }], guard := none }) (v := ?_) rfl (by kernel_rfl) (by kernel_rfl) (by kernel_rfl) (fun _ _ _ h => h) (Or.inl ⟨by rfl, ?_⟩) hHeld ?_
              rotate_left
              · (intro w hSw; go_simp; try with_reducible rfl)
              (try simp only [Act.put, List.setIfInBounds_toArray, List.set_cons_zero, List.set_cons_succ])
              refine wpAnyH_ready (rs := [10]) (by kernel_rfl) (by simp) (AllReadyH.cons (o := { dst := some 8, op := Op.alloc 59, type := 0, pos := "op.go:96", after := #[], guard := none }) rfl (fun K hK => ?_) AllReadyH.nil)
              · go_simp
                have hba : Below v106.heap.size v106 (v106.alloc (.cells #[.string ⟨#[]⟩, .int .i64 0, .string ⟨#[]⟩] 59)) := below_new _ _
                have Z7 : Hid (Box (v106.alloc (.cells #[.string ⟨#[]⟩, .int .i64 0, .string ⟨#[]⟩] 59)) v106.heap.size 59 It.nil.arr) := Lib.hid box_new
                have HB7 : Hid (vs.heap.size ≤ v106.heap.size) := Lib.hid hHeld.size
                obtain ⟨v110, hv9⟩ : ∃ q, q = (v106.alloc (.cells #[.string ⟨#[]⟩, .int .i64 0, .string ⟨#[]⟩] 59)) := ⟨_, rfl⟩
                refine hK.out _ _ (bch hHeld hba) (fun hHeld => ?_)
                clear hba
                rw [← hv9] at Z7 hHeld ⊢
                clear hv9
                obtain ⟨b7, hg9⟩ : ∃ q, q = v106.heap.size := ⟨_, rfl⟩
                rw [← hg9] at Z7 HB7 ⊢
                clear hg9
                (try simp only [Act.put, List.setIfInBounds_toArray, List.set_cons_zero, List.set_cons_succ])
                refine wpAnyH_ready (rs := [11]) (by kernel_rfl) (by simp) (AllReadyH.cons (o := { dst := none, op := Op.store 59 (Operand.tmp 8) (Operand.tmp 44), type := 0, pos := "op.go:96", after := #[{ on := 10, ground := Ground.data }, { on := 8, ground := Ground.data }, { on := 6, ground := Ground.chain }, { on := 0, ground := Ground.phase }, { on := 1, ground := Ground.phase }, { on := 2, ground := Ground.phase }, { on := 3, ground := Ground.phase }, { on := 4, ground := Ground.phase }, { on := 5, ground := Ground.phase }, { on := 6, ground := Ground.phase }, { on := 7, ground := Ground.phase }, { on := 8, ground := Ground.phase }, { on := 9, ground := Ground.textOnly Departure.lateStores }, { on := 10, ground := Ground.phase }], guard := none }) rfl (fun K hK => ?_) AllReadyH.nil)
                · refine wp_store_if (by rfl) 59 (.tmp 8) (.tmp 44) rfl b7 59 It.nil.arr y2.arr rfl rfl Z7.out (info35 _) rfl (iarr_one _) ?_
                  have Z8 : Hid (Box (v110.setRow b7 y2.arr) b7 59 y2.arr) := Lib.hid (Z7.out.row _)
                  refine hK.out _ _ (below_row hHeld HB7.out _) (fun hHeld => ?_)
                  clear Z7
                  (try simp only [Act.put])
                  refine wpAnyH_take (i := 12) (oi := { dst := some 9, op := Op.assign (Operand.tmp 45), type := 4, pos := "op.go:96", after := #[{ on := 9, ground := Ground.data }, { on := 11, ground := Ground.chain }, { on := 0, ground := Ground.phase }, { on := 1, ground := Ground.phase }, { on := 2, ground := Ground.phase }, { on := 3, ground := Ground.phase }, { on := 4, ground := Ground.phase }, { on := 5, ground := Ground.phase }, { on := 6, ground := Ground.phase }, { on := 7, ground := Ground.phase }, { on := 8, ground := Ground.phase }, { on := 9, ground := Ground.phase }, { on := 10, ground := Ground.phase }, { on := 11, ground := Ground.phase }], guard := none }) (v := ?_) rfl (by kernel_rfl) (by kernel_rfl) (by kernel_rfl) (fun _ _ _ h => h) (Or.inl ⟨by rfl, ?_⟩) hHeld ?_
                  rotate_left
                  · (intro w hSw; go_simp; try with_reducible rfl)
                  (try simp only [Act.put, List.setIfInBounds_toArray, List.set_cons_zero, List.set_cons_succ])
                  refine wpAnyH_done (by kernel_rfl) ?_ _
                  first | refine hK2 _ _ (Met.intro (hJ _ _ ?_)) | refine Met.intro (hJ _ _ ?_)
                  (repeat apply Exists.intro)
                  refine ⟨?_, rfl⟩
                  exact ⟨_, rfl, rfl, Z8, Lib.hid hHeld, HB7⟩
            · go_simp
              have hba : Below v0.heap.size v0 (v0.alloc (.cells #[.string ⟨#[]⟩, .int .i64 0, .string ⟨#[]⟩] 59)) := below_new _ _
              have Z7 : Hid (Box (v0.alloc (.cells #[.string ⟨#[]⟩, .int .i64 0, .string ⟨#[]⟩] 59)) v0.heap.size 59 It.nil.arr) := Lib.hid box_new
              have HB7 : Hid (vs.heap.size ≤ v0.heap.size) := Lib.hid hHeld.size
              obtain ⟨v110, hv9⟩ : ∃ q, q = (v0.alloc (.cells #[.string ⟨#[]⟩, .int .i64 0, .string ⟨#[]⟩] 59)) := ⟨_, rfl⟩
              refine hK.out _ _ (bch hHeld hba) (fun hHeld => ?_)
              clear hba
              rw [← hv9] at Z7 hHeld ⊢
              clear hv9
              obtain ⟨b7, hg9⟩ : ∃ q, q = v0.heap.size := ⟨_, rfl⟩
              rw [← hg9] at Z7 HB7 ⊢
              clear hg9
              (try simp only [Act.put, List.setIfInBounds_toArray, List.set_cons_zero, List.set_cons_succ])
              refine wpAnyH_ready (rs := [6]) (by kernel_rfl) (by simp) (AllReadyH.cons (o := { dst := some 43, op := Op.call { callee := Callee.value (Operand.func 49), args := #[Operand.tmp 40, Operand.tmp 42], argTypes := #[22, 9] }, type := 60, pos := "op.go:96", after := #[{ on := 3, ground := Ground.data }, { on := 5, ground := Ground.data }], guard := none }) rfl (fun K hK => ?_) AllReadyH.nil)
              · go_simp
                refine (HGET2.out _ hHeld).mono ?_
                rintro e v106 ⟨rfl, hba⟩
                have Z7 := Lib.hid (Z7.out.on hba)
                refine hK.out _ _ (bch hHeld hba) (fun hHeld => ?_)
                clear hba
                (try simp only [Act.put, List.setIfInBounds_toArray, List.set_cons_zero, List.set_cons_succ])
                refine wpAnyH_take (i := 7) (oi := { dst := some 36, op := Op.move (Operand.tmp 43), type := 60, pos := "op.go:96", after := #[{ on := 6, ground := Ground.data }], guard := none }) (v := ?_) rfl (by kernel_rfl) (by kernel_rfl) (by kernel_rfl) (fun _ _ _ h => h) (Or.inl ⟨by rfl, ?_⟩) hHeld ?_
                rotate_left
                · (intro w hSw; go_simp; try with_reducible rfl)
                (try simp only [Act.put, List.setIfInBounds_toArray, List.set_cons_zero, List.set_cons_succ])
                refine wpAnyH_take (i := 8) (oi := { dst := some 44, op := Op.extract (Operand.tmp 36) 0, type := 59, pos := "op.go:96", after := #[{ on := 7, ground := Ground.data }], guard := none }) (v := ?_) rfl (by kernel_rfl) (by kernel_rfl) (by kernel_rfl) (fun _ _ _ h => h) (Or.inl ⟨by rfl, ?_⟩) hHeld ?_
                rotate_left
                · (intro w hSw; go_simp; try with_reducible rfl)
                (try simp only [Act.put, List.setIfInBounds_toArray, List.set_cons_zero, List.set_cons_succ])
                refine wpAnyH_take (i := 9) (oi := { dst := some 45, op := Op.extract (Operand.tmp 36) 1, type := 4, pos := "op.go:96", after := #[{ on := 7, ground := Ground.data }, { on := 11, ground := Ground.gcOnly Departure.lateStores }], guard := none }) (v := ?_) rfl (by kernel_rfl) (by kernel_rfl) (by kernel_rfl) (fun _ _ _ h => h) (Or.inl ⟨by rfl, ?_⟩) hHeld ?_
                rotate_left
                · (intro w hSw; go_simp; try with_reducible rfl)
                (try simp only [Act.put, List.setIfInBounds_toArray, List.set_cons_zero, List.set_cons_succ])
                refine wpAnyH_ready (rs := [11]) (by kernel_rfl) (by simp) (AllReadyH.cons (o := { dst := none, op := Op.store 59 (Operand.tmp 8) (Operand.tmp 44), type := 0, pos := "op.go:96", after := #[{ on := 10, ground := Ground.data }, { on := 8, ground := Ground.data }, { on := 6, ground := Ground.chain }, { on := 0, ground := Ground.phase }, { on := 1, ground := Ground.phase }, { on := 2, ground := Ground.phase }, { on := 3, ground := Ground.phase }, { on := 4, ground := Ground.phase }, { on := 5, ground := Ground.phase }, { on := 6, ground := Ground.phase }, { on := 7, ground := Ground.phase }, { on := 8, ground := Ground.phase }, { on := 9, ground := Ground.textOnly Departure.lateStores }, { on := 10, ground := Ground.phase }], guard := none }) rfl (fun K hK => ?_) AllReadyH.nil)
                · refine wp_store_if (by rfl) 59 (.tmp 8) (.tmp 44) rfl b7 59 It.nil.arr y2.arr rfl rfl Z7.out (info35 _) rfl (iarr_one _) ?_
                  have Z8 : Hid (Box (v106.setRow b7 y2.arr) b7 59 y2.arr) := Lib.hid (Z7.out.row _)
                  refine hK.out _ _ (below_row hHeld HB7.out _) (fun hHeld => ?_)
                  clear Z7
                  (try simp only [Act.put])
                  refine wpAnyH_take (i := 12) (oi := { dst := some 9, op := Op.assign (Operand.tmp 45), type := 4, pos := "op.go:96", after := #[{ on := 9, ground := Ground.data }, { on := 11, ground := Ground.chain }, { on := 0, ground := Ground.phase }, { on := 1, ground := Ground.phase }, { on := 2, ground := Ground.phase }, { on := 3, ground := Ground.phase }, { on := 4, ground := Ground.phase }, { on := 5, ground := Ground.phase }, { on := 6, ground := Ground.phase }, { on := 7, ground := Ground.phase }, { on := 8, ground := Ground.phase }, { on := 9, ground := Ground.phase }, { on := 10, ground := Ground.phase }, { on := 11, ground := Ground.phase }], guard := none }) (v := ?_) rfl (by kernel_rfl) (by kernel_rfl) (by kernel_rfl) (fun _ _ _ h => h) (Or.inl ⟨by rfl, ?_⟩) hHeld ?_
                  rotate_left
                  · (intro w hSw; go_simp; try with_reducible rfl)
                  (try simp only [Act.put, List.setIfInBounds_toArray, List.set_cons_zero, List.set_cons_succ])
                  refine wpAnyH_done (by kernel_rfl) ?_ _
                  first | refine hK2 _ _ (Met.intro (hJ _ _ ?_)) | refine Met.intro (hJ _ _ ?_)
                  (repeat apply Exists.intro)
                  refine ⟨?_, rfl⟩
                  exact ⟨_, rfl, rfl, Z8, Lib.hid hHeld, HB7⟩
          case rest =>
            obtain ⟨b9, rfl, rfl, _, HB, _⟩ := hcut
            obtain ⟨w6, hw6⟩ : ∃ z, z = wc := ⟨_, rfl⟩
            rw [← hw6] at HB ⊢
            have HB6 := Lib.hid (bch HB4.out (bch HV2.out HB.out))
            have X6 := Lib.hid (XO.out.on HB.out)
            have HG6 := Lib.hid (HGV.out.on HB.out)
            have HT6 := Lib.hid (HTV.out.on HB.out)
            have p1 : w6.cell? ⟨bo, 1, none⟩ = some (.string ⟨o.path.toArray⟩) := X6.out.cell (k := 1) rfl
            have p2 : w6.cell? ⟨bo, 2, none⟩ = some (.string ⟨o.to.toArray⟩) := X6.out.cell (k := 2) rfl
            rw [HQ2.out] at HR2
            clear hw6 XG HGET2 HB hvs hv0
            cases q2 with
            | some q3 =>
              obtain rfl : is2 = true := HI2.out
              have HR : Hid (r = .error 5) := Lib.hid HR2.out
              go_wp2_with fail
              go_ret
              exact GrR.no HR.out HG.out HB6.out
            | none =>
              obtain rfl : is2 = false := HI2.out
              have HMV := Lib.hid (moved_any B b _ l o.path o.to y w6 HG6.out HOK.out HV.out HVT.out HQ.out HT6.out)
              go_wp2_with fail
              refine HMV.out.mono ?_
              rintro e w7 ⟨hb7, (⟨hfit, vm, rfl, hOm⟩ | ⟨hfit, rfl⟩)⟩
              · have HR : Hid (r = .ok (putL (takeL l o.path ((belowL l o.path).length + 1)) (movedM l o.path o.to y) o.to)) := Lib.hid (by rw [HR2.out]; simp only [Option.isSome_none, Bool.false_eq_true, if_false]; rw [if_neg (by rw [hfit]; simp)])
                have hlenm : (movedM l o.path o.to y).length = (belowL l o.path).length + 1 := by simp [movedM]
                obtain ⟨k, hk⟩ : ∃ k, k = (movedM l o.path o.to y).length := ⟨_, rfl⟩
                have hnr : o.path ≠ [47] := fun e => HNU.out (by rw [e]; exact under_root HVT.out)
                have hhas := has_some (srt_of HOK.out) HQ.out hnr
                have hblk := has_bel hhas
                have hmany := HOK.out.many
                rcases own_form hOm with ⟨e, _⟩ | ⟨gm, cm, rfl, hgm, hgm2, hgmo, hgmc⟩
                · rw [e] at hlenm; simp at hlenm
                have HG7 := Lib.hid (HG6.out.on hb7)
                have HTK := Lib.hid (take_any B b _ l o.path k w7 HG7.out (srt_of HOK.out) HOK.out.many (tree_sz HOK.out) (Nat.le_trans (valid_len _ HV.out) (by decide)) (by omega) (by rw [hk, hlenm]; omega))
                have HB7 := Lib.hid (bch HB6.out hb7)
                have X7 := Lib.hid (X6.out.on hb7)
                have HOM := Lib.hid hOm
                have hgb : gm ≠ b := by have := HG6.out.box.lt; omega
                have hvg : (Value.slice a n c).ownBlock ≠ some gm := fun e => by
                  rcases own_form HG6.out.own with ⟨_, q⟩ | ⟨r, cc, _, _, hlt, q, _⟩
                  · rw [q] at e; cases e
                  · rw [q] at e; cases e; omega
                have HPU : Hid (∀ v1 W, Gr W B b v1 (takeL l o.path k) → Nxt b (.slice a n c) v1 w7 W → Calls Tryz.prog 88 #[.pointer (some ⟨b, 0, none⟩), .slice (some ⟨gm, 0, none⟩) k cm] W (DoneR B b v1 (putL (takeL l o.path k) (movedM l o.path o.to y) o.to) W)) := Lib.hid (fun v1 W h1 h2 => by
                  have hh : W.heap[gm]? = w7.heap[gm]? := h2.block gm hgm2 hgb hvg
                  have hsub := take_sub l o.path k
                  rw [hk]
                  refine put_any B b v1 (takeL l o.path (movedM l o.path o.to y).length) (movedM l o.path o.to y) o.to ⟨o.to, y.kind, y.data⟩ gm 0 cm W (hk ▸ h1) ?_ ?_ ?_ (Nat.le_trans (valid_len _ HVT.out) (by decide)) rfl rfl (by rw [hlenm]; omega) ?_ hgb ?_ ?_ ?_
                  · rw [← hk]; exact (srt_of HOK.out).sublist hsub
                  · rw [← hk]; exact Nat.le_trans hsub.length_le hmany
                  · rw [← hk]; exact fun x hx => tree_sz HOK.out x (hsub.subset hx)
                  · intro e
                    rcases h2.row with q | q
                    · exact hvg (q ▸ e)
                    · have := q gm e; omega
                  · obtain ⟨cs, t, e⟩ := hgmc
                    exact ⟨cs, t, hh.trans e⟩
                  · intro j x hx
                    have := HOM.out.cells (g := gm) rfl j x hx
                    rw [add_to] at this
                    exact (World.cell?_of_block hh).trans this
                  · have := HG7.out.low; have := HG7.out.box.lt; have := h2.size; omega)
                have p17 : w7.cell? ⟨bo, 1, none⟩ = some (.string ⟨o.path.toArray⟩) := X7.out.cell (k := 1) rfl
                have HKL : Hid (k = (belowL l o.path).length + 1) := Lib.hid (hk.trans hlenm)
                rw [← hk]
                clear hb7 hfit hOm hlenm hk hnr hhas hblk hgm hgm2 hgmo hgmc hgb hvg p1 p2
                go_wp2_with fail
                refine HTK.out.mono ?_
                rintro e w8 ⟨v1, rfl, hG8, hN8⟩
                have HG8 := Lib.hid hG8
                have HN8 := Lib.hid hN8
                clear hG8 hN8
                go_wp2_with fail
                refine (HPU.out v1 w8 HG8.out HN8.out).mono ?_
                rintro e w9 ⟨v', rfl, hG9, hN9⟩
                rw [HKL.out] at hG9
                have HE := Lib.hid (GrR.yes (w := w) (v := .slice a n c) (l := l) HR.out hG9 ((Nxt.below HB7.out b _).trans (HN8.out.trans hN9)))
                clear hG9 hN9 p17
                go_wp2_with fail
                go_ret
                exact HE.out
              · have HR : Hid (r = .error 110) := Lib.hid (by rw [HR2.out]; simp only [Option.isSome_none, Bool.false_eq_true, if_false]; rw [if_pos hfit])
                have HB7 := Lib.hid (bch HB6.out hb7)
                clear hb7 hfit
                go_wp2_with fail
                go_ret
                exact GrR.no HR.out HG.out HB7.out
        · have HR : Hid (r = .error z) := Lib.hid (by rw [HR1.out, if_neg HNU.out, if_pos (by rw [← HZ.out]; exact hz0), ← HZ.out])
          have t1 : (z == 0) = false := by simpa using hz0
          have t2 : (z != 0) = true := by simpa using hz0
          clear hz0
          go_wp2_with fail
          go_ret
          exact GrR.no HR.out HG.out HB4.out
end Go.Proofs.YtigopecainocgaaGreatDoor
