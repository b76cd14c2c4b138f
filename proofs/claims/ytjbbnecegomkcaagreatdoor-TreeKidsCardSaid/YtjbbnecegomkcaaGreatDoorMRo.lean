/- Proved here: move of package tree. | Proved here: CheckOp of package tree. | Proved here: kinds of package tree: which method does what kind of operation. | Proved here: Run and Do of package tree: they do what the plain words say. -/
import Derived.Test.YtjbbnecegomkcaaGreatDoorOMoved
import Derived.Maps.OwnSet
import Derived.Maps.OwnOps
import Derived.Maps.Views
import Derived.Test.YtjbbnecegomkcaaGreatDoorOMath4
import Derived.WalkMore
namespace Go.Proofs.YtjbbnecegomkcaaGreatDoor
open Go.RowKit Go.Shelf

theorem under_root {p : Str} (h : validB p = true) : underB p [47] = true := by
  rw [underB_is p [47] h (by decide)]
  have : namesL [47] = [] := by decide
  rw [this]
  exact List.nil_prefix
theorem take_sub (l : List It) (p : Str) (k : Nat) : (takeL l p k).Sublist l := by
  unfold takeL
  conv => rhs; rw [← List.take_append_drop (idxL l p) l]
  exact (List.Sublist.refl _).append (by rw [← List.drop_drop]; exact List.drop_sublist _ _)
theorem has_bel {l : List It} {p : Str} (h : hasL l p = true) : idxL l p + ((belowL l p).length + 1) ≤ l.length := by
  have h1 : (belowL l p).length ≤ (l.drop (idxL l p + oneL l p)).length := (List.takeWhile_sublist _).length_le
  have h2 : oneL l p = 1 := by unfold oneL; rw [if_pos h]
  have h3 := has_lt h
  rw [List.length_drop, h2] at h1
  omega

set_option maxRecDepth 100000 in
set_option maxHeartbeats 4000000 in
theorem move_any (B b : Nat) (v : Value) (l : List It) (o : Opn) (w : World) (hG : Gr w B b v l) (h : TreeOk l) (hv : validB o.path = true) (hT : Tabs w) (hvt : validB o.to = true) :
    Calls Tryz.prog 76 #[.pointer (some ⟨b, 0, none⟩), .agg o.arr] w (GrR B b v l (moveM l o.path o.to) w) := by
  obtain ⟨w1, hw1⟩ : ∃ z, z = w.alloc (.cells o.arr 51) := ⟨_, rfl⟩
  have hpl : o.path.length ≤ 140737488355328 := Nat.le_trans (valid_len _ hv) (by decide)
  obtain ⟨bo, hbo⟩ : ∃ z, z = w.heap.size := ⟨_, rfl⟩
  have X1 : Hid (Box w1 bo 51 o.arr) := Lib.hid (by rw [hw1, hbo]; exact box_new)
  have HB1 : Hid (Below w.heap.size w w1) := Lib.hid (by rw [hw1]; exact below_new _ _)
  have HG1 : Hid (Gr w1 B b v l) := Lib.hid (hG.on HB1.out)
  have HT1 : Hid (Tabs w1) := Lib.hid (hT.on HB1.out)
  have HG := Lib.hid hG
  have HOK := Lib.hid h
  have HV := Lib.hid hv
  have HVT := Lib.hid hvt
  obtain ⟨r, hr⟩ : ∃ r, r = moveM l o.path o.to := ⟨_, rfl⟩
  rw [← hr]
  obtain ⟨q, hq⟩ : ∃ q, getI l o.path = q := ⟨_, rfl⟩
  obtain ⟨y, hy⟩ : ∃ y, y = q.getD .nil := ⟨_, rfl⟩
  obtain ⟨is, his⟩ : ∃ z, z = q.isSome := ⟨_, rfl⟩
  obtain ⟨v0, hv0⟩ : ∃ z, z = World.drew w1 := ⟨_, rfl⟩
  obtain ⟨vs, hvs⟩ : ∃ z, z = World.drew w1 := ⟨_, rfl⟩
  have HGV : Hid (Gr vs B b v l) := Lib.hid (by rw [hvs]; exact HG1.out.drew)
  have HTV : Hid (Tabs vs) := Lib.hid (by rw [hvs]; exact HT1.out.on ((Below.refl _ _).drew))
  have HV2 : Hid (Below w1.heap.size w1 vs) := Lib.hid (by rw [hvs]; exact (Below.refl _ _).drew)
  have XO : Hid (Box vs bo 51 o.arr) := Lib.hid (X1.out.on HV2.out)
  obtain ⟨a, n, c, rfl⟩ := own_any HGV.out.own
  have XG : Hid (Box vs b 82 #[.slice a n c]) := Lib.hid HGV.out.box
  have HGET : Hid (∀ W, Below vs.heap.size vs W → Calls Tryz.prog 48 #[.slice a n c, .string ⟨o.path.toArray⟩] W fun e w' => e = .returned (.tuple #[.agg y.arr, .bool is]) ∧ Below W.heap.size W w') := Lib.hid (fun W hW => by
    have := tget_gen l (.slice a n c) o.path W (srt_of HOK.out) HOK.out.many (HGV.out.on hW).rd (tree_sz HOK.out) (Nat.le_trans (valid_len _ HV.out) (by decide)) (HTV.out.on hW)
    rw [hq] at this
    rw [hy, his]
    exact this)
  have HQ := Lib.hid hq
  have HY := Lib.hid hy
  have HI := Lib.hid his
  have HR0 := Lib.hid hr
  clear hq hy his hpl hr hG h hv hT hvt
  go_enter Tryz.func76, Tryz.ntmps76
  go_upto_region 1 with fail
  rw [← hw1, ← hbo]
  clear hw1 hbo
  go_cut [5, 6] (CutG vs y is)
  case first =>
    rename_i J2 K2 hJ hK2
    refine wp_region_held_drew (S := fun w' => Below vs.heap.size vs w') (by kernel_rfl) (by rw [hvs]; exact Below.refl _ _) (fun hHeld => ?_)
    rw [← hv0] at hHeld ⊢
    clear hv0 hvs
    refine wpAnyH_take (i := 0) (oi := { dst := some 13, op := Op.move (Operand.tmp 0), type := 101, pos := "op.go:86", after := #[], guard := none }) (v := ?_) rfl (by kernel_rfl) (by kernel_rfl) (by kernel_rfl) (fun _ _ _ h => h) (Or.inl ⟨by rfl, ?_⟩) hHeld ?_
    rotate_left
    · (intro w hSw; go_simp; try with_reducible rfl)
    (try simp only [Act.put, List.setIfInBounds_toArray, List.set_cons_zero, List.set_cons_succ])
    refine wpAnyH_take (i := 1) (oi := { dst := some 14, op := Op.nilCheck (Operand.tmp 13), type := 0, pos := "op.go:86", after := #[{ on := 0, ground := Ground.data }], guard := none }) (v := ?_) rfl (by kernel_rfl) (by kernel_rfl) (by kernel_rfl) (fun _ _ _ h => h) (Or.inl ⟨by rfl, ?_⟩) hHeld ?_
    rotate_left
    · (intro w hSw; go_simp; try with_reducible rfl)
    (try simp only [Act.put, List.setIfInBounds_toArray, List.set_cons_zero, List.set_cons_succ])
    refine wpAnyH_take (i := 2) (oi := { dst := some 15, op := Op.fieldAddr 82 (Operand.tmp 14) 0, type := 0, pos := "op.go:86", after := #[{ on := 1, ground := Ground.data }], guard := none }) (v := ?_) rfl (by kernel_rfl) (by kernel_rfl) (by kernel_rfl) (fun _ _ _ h => h) (Or.inl ⟨by rfl, ?_⟩) hHeld ?_
    rotate_left
    · (intro w hSw; go_simp; try with_reducible rfl)
    (try simp only [Act.put, List.setIfInBounds_toArray, List.set_cons_zero, List.set_cons_succ])
    refine wpAnyH_take (i := 3) (oi := { dst := some 16, op := Op.load 22 (Operand.tmp 15), type := 22, pos := "op.go:86", after := #[{ on := 2, ground := Ground.data }], guard := none }) (v := ?_) rfl (by kernel_rfl) (by kernel_rfl) (by kernel_rfl) (fun _ _ _ h => h) (Or.inl ⟨by rfl, ?_⟩) hHeld ?_
    rotate_left
    · (intro w hSw; have p0 : w.cell? ⟨b, 0, none⟩ = some (.slice a n c) := (XG.out.on hSw).cell (k := 0) rfl; go_simp; try with_reducible rfl)
    (try simp only [Act.put, List.setIfInBounds_toArray, List.set_cons_zero, List.set_cons_succ])
    refine wpAnyH_take (i := 4) (oi := { dst := some 17, op := Op.fieldAddr 51 (Operand.tmp 3) 1, type := 0, pos := "op.go:86", after := #[], guard := none }) (v := ?_) rfl (by kernel_rfl) (by kernel_rfl) (by kernel_rfl) (fun _ _ _ h => h) (Or.inl ⟨by rfl, ?_⟩) hHeld ?_
    rotate_left
    · (intro w hSw; go_simp; try with_reducible rfl)
    (try simp only [Act.put, List.setIfInBounds_toArray, List.set_cons_zero, List.set_cons_succ])
    refine wpAnyH_take (i := 5) (oi := { dst := some 18, op := Op.load 9 (Operand.tmp 17), type := 9, pos := "op.go:86", after := #[{ on := 4, ground := Ground.data }], guard := none }) (v := ?_) rfl (by kernel_rfl) (by kernel_rfl) (by kernel_rfl) (fun _ _ _ h => h) (Or.inl ⟨by rfl, ?_⟩) hHeld ?_
    rotate_left
    · (intro w hSw; have p0 : w.cell? ⟨bo, 1, none⟩ = some (.string ⟨o.path.toArray⟩) := (XO.out.on hSw).cell (k := 1) rfl; go_simp; try with_reducible rfl)
    (try simp only [Act.put, List.setIfInBounds_toArray, List.set_cons_zero, List.set_cons_succ])
    refine wpAnyH_ready (rs := [6, 10]) (by kernel_rfl) (by simp) (AllReadyH.cons (o := { dst := some 19, op := Op.call { callee := Callee.value (Operand.func 48), args := #[Operand.tmp 16, Operand.tmp 18], argTypes := #[22, 9] }, type := 43, pos := "op.go:86", after := #[{ on := 3, ground := Ground.data }, { on := 5, ground := Ground.data }], guard := none }) rfl (fun K hK => ?_) (AllReadyH.cons (o := { dst := some 5, op := Op.alloc 33, type := 0, pos := "op.go:86", after := #[], guard := none }) rfl (fun K hK => ?_) AllReadyH.nil))
    · go_simp
      refine (HGET.out _ hHeld).mono ?_
      rintro e v106 ⟨rfl, hba⟩
      refine hK.out _ _ (bch hHeld hba) (fun hHeld => ?_)
      clear hba
      (try simp only [Act.put, List.setIfInBounds_toArray, List.set_cons_zero, List.set_cons_succ])
      refine wpAnyH_take (i := 7) (oi := { dst := some 12, op := Op.move (Operand.tmp 19), type := 43, pos := "op.go:86", after := #[{ on := 6, ground := Ground.data }], guard := none }) (v := ?_) rfl (by kernel_rfl) (by kernel_rfl) (by kernel_rfl) (fun _ _ _ h => h) (Or.inl ⟨by rfl, ?_⟩) hHeld ?_
      rotate_left
      · (intro w hSw; go_simp; try with_reducible rfl)
      (try simp only [Act.put, List.setIfInBounds_toArray, List.set_cons_zero, List.set_cons_succ])
      refine wpAnyH_take (i := 8) (oi := { dst := some 20, op := Op.extract (Operand.tmp 12) 0, type := 33, pos := "op.go:86", after := #[{ on := 7, ground := Ground.data }], guard := none }) (v := ?_) rfl (by kernel_rfl) (by kernel_rfl) (by kernel_rfl) (fun _ _ _ h => h) (Or.inl ⟨by rfl, ?_⟩) hHeld ?_
      rotate_left
      · (intro w hSw; go_simp; try with_reducible rfl)
      (try simp only [Act.put, List.setIfInBounds_toArray, List.set_cons_zero, List.set_cons_succ])
      refine wpAnyH_take (i := 9) (oi := { dst := some 21, op := Op.extract (Operand.tmp 12) 1, type := 4, pos := "op.go:86", after := #[{ on := 7, ground := Ground.data }, { on := 11, ground := Ground.gcOnly Departure.lateStores }], guard := none }) (v := ?_) rfl (by kernel_rfl) (by kernel_rfl) (by kernel_rfl) (fun _ _ _ h => h) (Or.inl ⟨by rfl, ?_⟩) hHeld ?_
      rotate_left
      · (intro w hSw; go_simp; try with_reducible rfl)
      (try simp only [Act.put, List.setIfInBounds_toArray, List.set_cons_zero, List.set_cons_succ])
      refine wpAnyH_ready (rs := [10]) (by kernel_rfl) (by simp) (AllReadyH.cons (o := { dst := some 5, op := Op.alloc 33, type := 0, pos := "op.go:86", after := #[], guard := none }) rfl (fun K hK => ?_) AllReadyH.nil)
      · go_simp
        have hba : Below v106.heap.size v106 (v106.alloc (.cells #[.string ⟨#[]⟩, .int .i64 0, .string ⟨#[]⟩] 33)) := below_new _ _
        have Z7 : Hid (Box (v106.alloc (.cells #[.string ⟨#[]⟩, .int .i64 0, .string ⟨#[]⟩] 33)) v106.heap.size 33 It.nil.arr) := Lib.hid box_new
        have HB7 : Hid (vs.heap.size ≤ v106.heap.size) := Lib.hid hHeld.size
        obtain ⟨v110, hv9⟩ : ∃ q, q = (v106.alloc (.cells #[.string ⟨#[]⟩, .int .i64 0, .string ⟨#[]⟩] 33)) := ⟨_, rfl⟩
        refine hK.out _ _ (bch hHeld hba) (fun hHeld => ?_)
        clear hba
        rw [← hv9] at Z7 hHeld ⊢
        clear hv9
        obtain ⟨b7, hg9⟩ : ∃ q, q = v106.heap.size := ⟨_, rfl⟩
        rw [← hg9] at Z7 HB7 ⊢
        clear hg9
        (try simp only [Act.put, List.setIfInBounds_toArray, List.set_cons_zero, List.set_cons_succ])
        refine wpAnyH_ready (rs := [11]) (by kernel_rfl) (by simp) (AllReadyH.cons (o := { dst := none, op := Op.store 33 (Operand.tmp 5) (Operand.tmp 20), type := 0, pos := "op.go:86", after := #[{ on := 10, ground := Ground.data }, { on := 8, ground := Ground.data }, { on := 6, ground := Ground.chain }, { on := 0, ground := Ground.phase }, { on := 1, ground := Ground.phase }, { on := 2, ground := Ground.phase }, { on := 3, ground := Ground.phase }, { on := 4, ground := Ground.phase }, { on := 5, ground := Ground.phase }, { on := 6, ground := Ground.phase }, { on := 7, ground := Ground.phase }, { on := 8, ground := Ground.phase }, { on := 9, ground := Ground.textOnly Departure.lateStores }, { on := 10, ground := Ground.phase }], guard := none }) rfl (fun K hK => ?_) AllReadyH.nil)
        · refine wp_store_if (by rfl) 33 (.tmp 5) (.tmp 20) rfl b7 33 It.nil.arr y.arr rfl rfl Z7.out (info35 _) rfl (iarr_one _) ?_
          have Z8 : Hid (Box (v110.setRow b7 y.arr) b7 33 y.arr) := Lib.hid (Z7.out.row _)
          refine hK.out _ _ (below_row hHeld HB7.out _) (fun hHeld => ?_)
          clear Z7
          (try simp only [Act.put])
          refine wpAnyH_take (i := 12) (oi := { dst := some 6, op := Op.assign (Operand.tmp 21), type := 4, pos := "op.go:86", after := #[{ on := 9, ground := Ground.data }, { on := 11, ground := Ground.chain }, { on := 0, ground := Ground.phase }, { on := 1, ground := Ground.phase }, { on := 2, ground := Ground.phase }, { on := 3, ground := Ground.phase }, { on := 4, ground := Ground.phase }, { on := 5, ground := Ground.phase }, { on := 6, ground := Ground.phase }, { on := 7, ground := Ground.phase }, { on := 8, ground := Ground.phase }, { on := 9, ground := Ground.phase }, { on := 10, ground := Ground.phase }, { on := 11, ground := Ground.phase }], guard := none }) (v := ?_) rfl (by kernel_rfl) (by kernel_rfl) (by kernel_rfl) (fun _ _ _ h => h) (Or.inl ⟨by rfl, ?_⟩) hHeld ?_
          rotate_left
          · (intro w hSw; go_simp; try with_reducible rfl)
          (try simp only [Act.put, List.setIfInBounds_toArray, List.set_cons_zero, List.set_cons_succ])
          refine wpAnyH_done (by kernel_rfl) ?_ _
          first | refine hK2 _ _ (Met.intro (hJ _ _ ?_)) | refine Met.intro (hJ _ _ ?_)
          (repeat apply Exists.intro)
          refine ⟨?_, rfl⟩
          exact ⟨_, rfl, rfl, Z8, Lib.hid hHeld, HB7⟩
    · go_simp
      have hba : Below v0.heap.size v0 (v0.alloc (.cells #[.string ⟨#[]⟩, .int .i64 0, .string ⟨#[]⟩] 33)) := below_new _ _
      have Z7 : Hid (Box (v0.alloc (.cells #[.string ⟨#[]⟩, .int .i64 0, .string ⟨#[]⟩] 33)) v0.heap.size 33 It.nil.arr) := Lib.hid box_new
      have HB7 : Hid (vs.heap.size ≤ v0.heap.size) := Lib.hid hHeld.size
      obtain ⟨v110, hv9⟩ : ∃ q, q = (v0.alloc (.cells #[.string ⟨#[]⟩, .int .i64 0, .string ⟨#[]⟩] 33)) := ⟨_, rfl⟩
      refine hK.out _ _ (bch hHeld hba) (fun hHeld => ?_)
      clear hba
      rw [← hv9] at Z7 hHeld ⊢
      clear hv9
      obtain ⟨b7, hg9⟩ : ∃ q, q = v0.heap.size := ⟨_, rfl⟩
      rw [← hg9] at Z7 HB7 ⊢
      clear hg9
      (try simp only [Act.put, List.setIfInBounds_toArray, List.set_cons_zero, List.set_cons_succ])
      refine wpAnyH_ready (rs := [6]) (by kernel_rfl) (by simp) (AllReadyH.cons (o := { dst := some 19, op := Op.call { callee := Callee.value (Operand.func 48), args := #[Operand.tmp 16, Operand.tmp 18], argTypes := #[22, 9] }, type := 43, pos := "op.go:86", after := #[{ on := 3, ground := Ground.data }, { on := 5, ground := Ground.data }], guard := none }) rfl (fun K hK => ?_) AllReadyH.nil)
      · go_simp
        refine (HGET.out _ hHeld).mono ?_
        rintro e v106 ⟨rfl, hba⟩
        have Z7 := Lib.hid (Z7.out.on hba)
        refine hK.out _ _ (bch hHeld hba) (fun hHeld => ?_)
        clear hba
        (try simp only [Act.put, List.setIfInBounds_toArray, List.set_cons_zero, List.set_cons_succ])
        refine wpAnyH_take (i := 7) (oi := { dst := some 12, op := Op.move (Operand.tmp 19), type := 43, pos := "op.go:86", after := #[{ on := 6, ground := Ground.data }], guard := none }) (v := ?_) rfl (by kernel_rfl) (by kernel_rfl) (by kernel_rfl) (fun _ _ _ h => h) (Or.inl ⟨by rfl, ?_⟩) hHeld ?_
        rotate_left
        · (intro w hSw; go_simp; try with_reducible rfl)
        (try simp only [Act.put, List.setIfInBounds_toArray, List.set_cons_zero, List.set_cons_succ])
        refine wpAnyH_take (i := 8) (oi := { dst := some 20, op := Op.extract (Operand.tmp 12) 0, type := 33, pos := "op.go:86", after := #[{ on := 7, ground := Ground.data }], guard := none }) (v := ?_) rfl (by kernel_rfl) (by kernel_rfl) (by kernel_rfl) (fun _ _ _ h => h) (Or.inl ⟨by rfl, ?_⟩) hHeld ?_
        rotate_left
        · (intro w hSw; go_simp; try with_reducible rfl)
        (try simp only [Act.put, List.setIfInBounds_toArray, List.set_cons_zero, List.set_cons_succ])
        refine wpAnyH_take (i := 9) (oi := { dst := some 21, op := Op.extract (Operand.tmp 12) 1, type := 4, pos := "op.go:86", after := #[{ on := 7, ground := Ground.data }, { on := 11, ground := Ground.gcOnly Departure.lateStores }], guard := none }) (v := ?_) rfl (by kernel_rfl) (by kernel_rfl) (by kernel_rfl) (fun _ _ _ h => h) (Or.inl ⟨by rfl, ?_⟩) hHeld ?_
        rotate_left
        · (intro w hSw; go_simp; try with_reducible rfl)
        (try simp only [Act.put, List.setIfInBounds_toArray, List.set_cons_zero, List.set_cons_succ])
        refine wpAnyH_ready (rs := [11]) (by kernel_rfl) (by simp) (AllReadyH.cons (o := { dst := none, op := Op.store 33 (Operand.tmp 5) (Operand.tmp 20), type := 0, pos := "op.go:86", after := #[{ on := 10, ground := Ground.data }, { on := 8, ground := Ground.data }, { on := 6, ground := Ground.chain }, { on := 0, ground := Ground.phase }, { on := 1, ground := Ground.phase }, { on := 2, ground := Ground.phase }, { on := 3, ground := Ground.phase }, { on := 4, ground := Ground.phase }, { on := 5, ground := Ground.phase }, { on := 6, ground := Ground.phase }, { on := 7, ground := Ground.phase }, { on := 8, ground := Ground.phase }, { on := 9, ground := Ground.textOnly Departure.lateStores }, { on := 10, ground := Ground.phase }], guard := none }) rfl (fun K hK => ?_) AllReadyH.nil)
        · refine wp_store_if (by rfl) 33 (.tmp 5) (.tmp 20) rfl b7 33 It.nil.arr y.arr rfl rfl Z7.out (info35 _) rfl (iarr_one _) ?_
          have Z8 : Hid (Box (v106.setRow b7 y.arr) b7 33 y.arr) := Lib.hid (Z7.out.row _)
          refine hK.out _ _ (below_row hHeld HB7.out _) (fun hHeld => ?_)
          clear Z7
          (try simp only [Act.put])
          refine wpAnyH_take (i := 12) (oi := { dst := some 6, op := Op.assign (Operand.tmp 21), type := 4, pos := "op.go:86", after := #[{ on := 9, ground := Ground.data }, { on := 11, ground := Ground.chain }, { on := 0, ground := Ground.phase }, { on := 1, ground := Ground.phase }, { on := 2, ground := Ground.phase }, { on := 3, ground := Ground.phase }, { on := 4, ground := Ground.phase }, { on := 5, ground := Ground.phase }, { on := 6, ground := Ground.phase }, { on := 7, ground := Ground.phase }, { on := 8, ground := Ground.phase }, { on := 9, ground := Ground.phase }, { on := 10, ground := Ground.phase }, { on := 11, ground := Ground.phase }], guard := none }) (v := ?_) rfl (by kernel_rfl) (by kernel_rfl) (by kernel_rfl) (fun _ _ _ h => h) (Or.inl ⟨by rfl, ?_⟩) hHeld ?_
          rotate_left
          · (intro w hSw; go_simp; try with_reducible rfl)
          (try simp only [Act.put, List.setIfInBounds_toArray, List.set_cons_zero, List.set_cons_succ])
          refine wpAnyH_done (by kernel_rfl) ?_ _
          first | refine hK2 _ _ (Met.intro (hJ _ _ ?_)) | refine Met.intro (hJ _ _ ?_)
          (repeat apply Exists.intro)
          refine ⟨?_, rfl⟩
          exact ⟨_, rfl, rfl, Z8, Lib.hid hHeld, HB7⟩
  case rest =>
    obtain ⟨b7, rfl, rfl, Z7, HB, HB7⟩ := hcut
    obtain ⟨w2, hw2⟩ : ∃ z, z = wc := ⟨_, rfl⟩
    rw [← hw2] at HB Z7 ⊢
    have HB2 := Lib.hid (bch HB1.out (bch HV2.out HB.out))
    have X2 := Lib.hid (XO.out.on HB.out)
    have HG2 := Lib.hid (HGV.out.on HB.out)
    have HT2 := Lib.hid (HTV.out.on HB.out)
    obtain ⟨c0, c1, c2⟩ := Z7.out.it
    have p1 : w2.cell? ⟨bo, 1, none⟩ = some (.string ⟨o.path.toArray⟩) := X2.out.cell (k := 1) rfl
    have p3 : w2.cell? ⟨bo, 3, none⟩ = some (.string ⟨o.data.toArray⟩) := X2.out.cell (k := 3) rfl
    clear hw2 XG HGET hvs hv0
    cases q with
    | none =>
      obtain rfl : is = false := HI.out
      have HR : Hid (r = .error 4) := Lib.hid (by rw [HR0.out]; unfold moveM; rw [HQ.out])
      go_wp2_with fail
      go_ret
      exact GrR.no HR.out HG.out HB2.out
    | some z =>
      obtain rfl : is = true := HI.out
      obtain rfl : y = z := HY.out
      have p2 : w2.cell? ⟨bo, 2, none⟩ = some (.string ⟨o.to.toArray⟩) := X2.out.cell (k := 2) rfl
      have htl : o.to.length ≤ 140737488355328 := Nat.le_trans (valid_len _ HVT.out) (by decide)
      have hpl2 : o.path.length ≤ 140737488355328 := Nat.le_trans (valid_len _ HV.out) (by decide)
      obtain ⟨u, hu⟩ : ∃ u, u = underB o.to o.path := ⟨_, rfl⟩
      have HUN : Hid (∀ W, Calls Tryz.prog 33 #[.string ⟨o.to.toArray⟩, .string ⟨o.path.toArray⟩] W fun e w' => e = .returned (.bool u) ∧ Below W.heap.size W w') := Lib.hid (under_is o.to o.path htl hpl2 u hu.symm)
      have HU := Lib.hid hu
      obtain ⟨z, hz⟩ : ∃ z, z = openM l o.to := ⟨_, rfl⟩
      have HZ := Lib.hid hz
      have HOP : Hid (∀ W, Below w2.heap.size w2 W → Calls Tryz.prog 101 #[.pointer (some ⟨b, 0, none⟩), .string ⟨o.to.toArray⟩] W fun e w' => e = .returned (.int .i64 z) ∧ Below W.heap.size W w') := Lib.hid (fun W hW => by
        rw [hz]
        exact open_any B b _ l o.to W (HG2.out.on hW) (srt_of HOK.out) HOK.out.many (tree_sz HOK.out) HVT.out (HT2.out.on hW))
      have HR1 : Hid (r = if underB o.to o.path = true then .error 2 else if openM l o.to ≠ 0 then .error (openM l o.to) else if (getI l o.to).isSome then .error 5 else if fitsM l o.path o.to = false then .error 110 else .ok (putL (takeL l o.path ((belowL l o.path).length + 1)) (movedM l o.path o.to y) o.to)) := Lib.hid (by rw [HR0.out]; unfold moveM; rw [HQ.out])
      clear hu hz c0 c1 c2 p3 htl hpl2
      cases u with
      | true =>
        have HR : Hid (r = .error 2) := Lib.hid (by rw [HR1.out, if_pos HU.out.symm])
        go_wp2_with fail
        refine (HUN.out _).mono ?_
        rintro e w3 ⟨rfl, hb⟩
        have HB3 := Lib.hid (bch HB2.out hb)
        clear hb
        go_wp2_with fail
        go_ret
        exact GrR.no HR.out HG.out HB3.out
      | false =>
        have HNU : Hid (¬ underB o.to o.path = true) := Lib.hid (by rw [← HU.out]; simp)
        go_wp2_with fail
        refine (HUN.out _).mono ?_
        rintro e w3 ⟨rfl, hb⟩
        have HB23 := Lib.hid hb
        have HB3 := Lib.hid (bch HB2.out hb)
        have X3 := Lib.hid (X2.out.on hb)
        have p2' : w3.cell? ⟨bo, 2, none⟩ = some (.string ⟨o.to.toArray⟩) := X3.out.cell (k := 2) rfl
        clear hb p2 p1
        go_wp2_with fail
        refine (HOP.out w3 HB23.out).mono ?_
        rintro e w4 ⟨rfl, hb⟩
        have HB24 := Lib.hid (bch HB23.out hb)
        have HB4 := Lib.hid (bch HB3.out hb)
        have X4 := Lib.hid (X3.out.on hb)
        clear hb p2'
        by_cases hz0 : z = 0
        · have HR2 : Hid (r = if (getI l o.to).isSome then .error 5 else if fitsM l o.path o.to = false then .error 110 else .ok (putL (takeL l o.path ((belowL l o.path).length + 1)) (movedM l o.path o.to y) o.to)) := Lib.hid (by rw [HR1.out, if_neg HNU.out, if_neg (by rw [← HZ.out]; simpa using hz0)])
          subst hz0
          go_upto_region 9 with fail
          obtain ⟨q2, hq2⟩ : ∃ q, getI l o.to = q := ⟨_, rfl⟩
          obtain ⟨y2, hy2⟩ : ∃ y, y = q2.getD .nil := ⟨_, rfl⟩
          obtain ⟨is2, his2⟩ : ∃ z, z = q2.isSome := ⟨_, rfl⟩
          have HG4 := Lib.hid (HG2.out.on HB24.out)
          have HT4 := Lib.hid (HT2.out.on HB24.out)
          clear HGV HTV HV2 XO HB HB7 Z7
          obtain ⟨v0, hv0⟩ : ∃ z, z = World.drew w4 := ⟨_, rfl⟩
          obtain ⟨vs, hvs⟩ : ∃ z, z = World.drew w4 := ⟨_, rfl⟩
          have HGV : Hid (Gr vs B b (.slice a n c) l) := Lib.hid (by rw [hvs]; exact HG4.out.drew)
          have HTV : Hid (Tabs vs) := Lib.hid (by rw [hvs]; exact HT4.out.on ((Below.refl _ _).drew))
          have HV2 : Hid (Below w4.heap.size w4 vs) := Lib.hid (by rw [hvs]; exact (Below.refl _ _).drew)
          have XO : Hid (Box vs bo 51 o.arr) := Lib.hid (X4.out.on HV2.out)
          have XG : Hid (Box vs b 82 #[.slice a n c]) := Lib.hid HGV.out.box
          have HGET2 : Hid (∀ W, Below vs.heap.size vs W → Calls Tryz.prog 48 #[.slice a n c, .string ⟨o.to.toArray⟩] W fun e w' => e = .returned (.tuple #[.agg y2.arr, .bool is2]) ∧ Below W.heap.size W w') := Lib.hid (fun W hW => by
            have := tget_gen l (.slice a n c) o.to W (srt_of HOK.out) HOK.out.many (HGV.out.on hW).rd (tree_sz HOK.out) (Nat.le_trans (valid_len _ HVT.out) (by decide)) (HTV.out.on hW)
            rw [hq2] at this
            rw [hy2, his2]
            exact this)
          have HQ2 := Lib.hid hq2
          have HI2 := Lib.hid his2
          clear hq2 hy2 his2
          go_cut [8, 9] (CutG vs y2 is2)
          case first =>
            rename_i J2 K2 hJ hK2
            refine wp_region_held_drew (S := fun w' => Below vs.heap.size vs w') (by kernel_rfl) (by rw [hvs]; exact Below.refl _ _) (fun hHeld => ?_)
            rw [← hv0] at hHeld ⊢
            clear hv0 hvs
            refine wpAnyH_take (i := 0) (oi := { dst := some 37, op := Op.move (Operand.tmp 0), type := 101, pos := "op.go:96", after := #[], guard := none }) (v := ?_) rfl (by kernel_rfl) (by kernel_rfl) (by kernel_rfl) (fun _ _ _ h => h) (Or.inl ⟨by rfl, ?_⟩) hHeld ?_
            rotate_left
            · (intro w hSw; go_simp; try with_reducible rfl)
            (try simp only [Act.put, List.setIfInBounds_toArray, List.set_cons_zero, List.set_cons_succ])
            refine wpAnyH_take (i := 1) (oi := { dst := some 38, op := Op.nilCheck (Operand.tmp 37), type := 0, pos := "op.go:96", after := #[{ on := 0, ground := Ground.data }], guard := none }) (v := ?_) rfl (by kernel_rfl) (by kernel_rfl) (by kernel_rfl) (fun _ _ _ h => h) (Or.inl ⟨by rfl, ?_⟩) hHeld ?_
            rotate_left
            · (intro w hSw; go_simp; try with_reducible rfl)
            (try simp only [Act.put, List.setIfInBounds_toArray, List.set_cons_zero, List.set_cons_succ])
            refine wpAnyH_take (i := 2) (oi := { dst := some 39, op := Op.fieldAddr 82 (Operand.tmp 38) 0, type := 0, pos := "op.go:96", after := #[{ on := 1, ground := Ground.data }], guard := none }) (v := ?_) rfl (by kernel_rfl) (by kernel_rfl) (by kernel_rfl) (fun _ _ _ h => h) (Or.inl ⟨by rfl, ?_⟩) hHeld ?_
            rotate_left
            · (intro w hSw; go_simp; try with_reducible rfl)
            (try simp only [Act.put, List.setIfInBounds_toArray, List.set_cons_zero, List.set_cons_succ])
            refine wpAnyH_take (i := 3) (oi := { dst := some 40, op := Op.load 22 (Operand.tmp 39), type := 22, pos := "op.go:96", after := #[{ on := 2, ground := Ground.data }], guard := none }) (v := ?_) rfl (by kernel_rfl) (by kernel_rfl) (by kernel_rfl) (fun _ _ _ h => h) (Or.inl ⟨by rfl, ?_⟩) hHeld ?_
            rotate_left
            · (intro w hSw; have p0 : w.cell? ⟨b, 0, none⟩ = some (.slice a n c) := (XG.out.on hSw).cell (k := 0) rfl; go_simp; try with_reducible rfl)
            (try simp only [Act.put, List.setIfInBounds_toArray, List.set_cons_zero, List.set_cons_succ])
            refine wpAnyH_take (i := 4) (oi := { dst := some 41, op := Op.fieldAddr 51 (Operand.tmp 3) 2, type := 0, pos := "op.go:96", after := #[], guard := none }) (v := ?_) rfl (by kernel_rfl) (by kernel_rfl) (by kernel_rfl) (fun _ _ _ h => h) (Or.inl ⟨by rfl, ?_⟩) hHeld ?_
            rotate_left
            · (intro w hSw; go_simp; try with_reducible rfl)
            (try simp only [Act.put, List.setIfInBounds_toArray, List.set_cons_zero, List.set_cons_succ])
            refine wpAnyH_take (i := 5) (oi := { dst := some 42, op := Op.load 9 (Operand.tmp 41), type := 9, pos := "op.go:96", after := #[{ on := 4, ground := Ground.data }], guard := none }) (v := ?_) rfl (by kernel_rfl) (by kernel_rfl) (by kernel_rfl) (fun _ _ _ h => h) (Or.inl ⟨by rfl, ?_⟩) hHeld ?_
            rotate_left
            · (intro w hSw; have p0 : w.cell? ⟨bo, 2, none⟩ = some (.string ⟨o.to.toArray⟩) := (XO.out.on hSw).cell (k := 2) rfl; go_simp; try with_reducible rfl)
            (try simp only [Act.put, List.setIfInBounds_toArray, List.set_cons_zero, List.set_cons_succ])
            refine wpAnyH_ready (rs := [6, 10]) (by kernel_rfl) (by simp) (AllReadyH.cons (o := { dst := some 43, op := Op.call { callee := Callee.value (Operand.func 48), args := #[Operand.tmp 40, Operand.tmp 42], argTypes := #[22, 9] }, type := 43, pos := "op.go:96", after := #[{ on := 3, ground := Ground.data }, { on := 5, ground := Ground.data }], guard := none }) rfl (fun K hK => ?_) (AllReadyH.cons (o := { dst := some 8, op := Op.alloc 33, type := 0, pos := "op.go:96", after := #[], guard := none }) rfl (fun K hK => ?_) AllReadyH.nil))
            · go_simp
              refine (HGET2.out _ hHeld).mono ?_
              rintro e v106 ⟨rfl, hba⟩
              refine hK.out _ _ (bch hHeld hba) (fun hHeld => ?_)
              clear hba
              (try simp only [Act.put, List.setIfInBounds_toArray, List.set_cons_zero, List.set_cons_succ])
              refine wpAnyH_take (i := 7) (oi := { dst := some 36, op := Op.move (Operand.tmp 43), type := 43, pos := "op.go:96", after := #[{ on := 6, ground := Ground.data }], guard := none }) (v := ?_) rfl (by kernel_rfl) (by kernel_rfl) (by kernel_rfl) (fun _ _ _ h => h) (Or.inl ⟨by rfl, ?_⟩) hHeld ?_
              rotate_left
              · (intro w hSw; go_simp; try with_reducible rfl)
              (try simp only [Act.put, List.setIfInBounds_toArray, List.set_cons_zero, List.set_cons_succ])
              refine wpAnyH_take (i := 8) (oi := { dst := some 44, op := Op.extract (Operand.tmp 36) 0, type := 33, pos := "op.go:96", after := #[{ on := 7, ground := Ground.data }], guard := none }) (v := ?_) rfl (by kernel_rfl) (by kernel_rfl) (by kernel_rfl) (fun _ _ _ h => h) (Or.inl ⟨by rfl, ?_⟩) hHeld ?_
              rotate_left
              · (intro w hSw; go_simp; try with_reducible rfl)
              (try simp only [Act.put, List.setIfInBounds_toArray, List.set_cons_zero, List.set_cons_succ])
              refine wpAnyH_take (i := 9) (oi := { dst := some 45, op := Op.extract (Operand.tmp 36) 1, type := 4, pos := "op.go:96", after := #[{ on := 7, ground := Ground.data }, { on := 11, ground := Ground.gcOnly Departure.lateStores }], guard := none }) (v := ?_) rfl (by kernel_rfl) (by kernel_rfl) (by kernel_rfl) (fun _ _ _ h => h) (Or.inl ⟨by rfl, ?_⟩) hHeld ?_
              rotate_left
              · (intro w hSw; go_simp; try with_reducible rfl)
              (try simp only [Act.put, List.setIfInBounds_toArray, List.set_cons_zero, List.set_cons_succ])
              refine wpAnyH_ready (rs := [10]) (by kernel_rfl) (by simp) (AllReadyH.cons (o := { dst := some 8, op := Op.alloc 33, type := 0, pos := "op.go:96", after := #[], guard := none }) rfl (fun K hK => ?_) AllReadyH.nil)
              · go_simp
                have hba : Below v106.heap.size v106 (v106.alloc (.cells #[.string ⟨#[]⟩, .int .i64 0, .string ⟨#[]⟩] 33)) := below_new _ _
                have Z7 : Hid (Box (v106.alloc (.cells #[.string ⟨#[]⟩, .int .i64 0, .string ⟨#[]⟩] 33)) v106.heap.size 33 It.nil.arr) := Lib.hid box_new
                have HB7 : Hid (vs.heap.size ≤ v106.heap.size) := Lib.hid hHeld.size
                obtain ⟨v110, hv9⟩ : ∃ q, q = (v106.alloc (.cells #[.string ⟨#[]⟩, .int .i64 0, .string ⟨#[]⟩] 33)) := ⟨_, rfl⟩
                refine hK.out _ _ (bch hHeld hba) (fun hHeld => ?_)
                clear hba
                rw [← hv9] at Z7 hHeld ⊢
                clear hv9
                obtain ⟨b7, hg9⟩ : ∃ q, q = v106.heap.size := ⟨_, rfl⟩
                rw [← hg9] at Z7 HB7 ⊢
                clear hg9
                (try simp only [Act.put, List.setIfInBounds_toArray, List.set_cons_zero, List.set_cons_succ])
                refine wpAnyH_ready (rs := [11]) (by kernel_rfl) (by simp) (AllReadyH.cons (o := { dst := none, op := Op.store 33 (Operand.tmp 8) (Operand.tmp 44), type := 0, pos := "op.go:96", after := #[{ on := 10, ground := Ground.data }, { on := 8, ground := Ground.data }, { on := 6, ground := Ground.chain }, { on := 0, ground := Ground.phase }, { on := 1, ground := Ground.phase }, { on := 2, ground := Ground.phase }, { on := 3, ground := Ground.phase }, { on := 4, ground := Ground.phase }, { on := 5, ground := Ground.phase }, { on := 6, ground := Ground.phase }, { on := 7, ground := Ground.phase }, { on := 8, ground := Ground.phase }, { on := 9, ground := Ground.textOnly Departure.lateStores }, { on := 10, ground := Ground.phase }], guard := none }) rfl (fun K hK => ?_) AllReadyH.nil)
                · refine wp_store_if (by rfl) 33 (.tmp 8) (.tmp 44) rfl b7 33 It.nil.arr y2.arr rfl rfl Z7.out (info35 _) rfl (iarr_one _) ?_
                  have Z8 : Hid (Box (v110.setRow b7 y2.arr) b7 33 y2.arr) := Lib.hid (Z7.out.row _)
                  refine hK.out _ _ (below_row hHeld HB7.out _) (fun hHeld => ?_)
                  clear Z7
                  (try simp only [Act.put])
                  refine wpAnyH_take (i := 12) (oi := { dst := some 9, op := Op.assign (Operand.tmp 45), type := 4, pos := "op.go:96", after := #[{ on := 9, ground := Ground.data }, { on := 11, ground := Ground.chain }, { on := 0, ground := Ground.phase }, { on := 1, ground := Ground.phase }, { on := 2, ground := Ground.phase }, { on := 3, ground := Ground.phase }, { on := 4, ground := Ground.phase }, { on := 5, ground := Ground.phase }, { on := 6, ground := Ground.phase }, { on := 7, ground := Ground.phase }, { on := 8, ground := Ground.phase }, { on := 9, ground := Ground.phase }, { on := 10, ground := Ground.phase }, { on := 11, ground := Ground.phase }], guard := none }) (v := ?_) rfl (by kernel_rfl) (by kernel_rfl) (by kernel_rfl) (fun _ _ _ h => h) (Or.inl ⟨by rfl, ?_⟩) hHeld ?_
                  rotate_left
                  · (intro w hSw; go_simp; try with_reducible rfl)
                  (try simp only [Act.put, List.setIfInBounds_toArray, List.set_cons_zero, List.set_cons_succ])
                  refine wpAnyH_done (by kernel_rfl) ?_ _
                  first | refine hK2 _ _ (Met.intro (hJ _ _ ?_)) | refine Met.intro (hJ _ _ ?_)
                  (repeat apply Exists.intro)
                  refine ⟨?_, rfl⟩
                  exact ⟨_, rfl, rfl, Z8, Lib.hid hHeld, HB7⟩
            · go_simp
              have hba : Below v0.heap.size v0 (v0.alloc (.cells #[.string ⟨#[]⟩, .int .i64 0, .string ⟨#[]⟩] 33)) := below_new _ _
              have Z7 : Hid (Box (v0.alloc (.cells #[.string ⟨#[]⟩, .int .i64 0, .string ⟨#[]⟩] 33)) v0.heap.size 33 It.nil.arr) := Lib.hid box_new
              have HB7 : Hid (vs.heap.size ≤ v0.heap.size) := Lib.hid hHeld.size
              obtain ⟨v110, hv9⟩ : ∃ q, q = (v0.alloc (.cells #[.string ⟨#[]⟩, .int .i64 0, .string ⟨#[]⟩] 33)) := ⟨_, rfl⟩
              refine hK.out _ _ (bch hHeld hba) (fun hHeld => ?_)
              clear hba
              rw [← hv9] at Z7 hHeld ⊢
              clear hv9
              obtain ⟨b7, hg9⟩ : ∃ q, q = v0.heap.size := ⟨_, rfl⟩
              rw [← hg9] at Z7 HB7 ⊢
              clear hg9
              (try simp only [Act.put, List.setIfInBounds_toArray, List.set_cons_zero, List.set_cons_succ])
              refine wpAnyH_ready (rs := [6]) (by kernel_rfl) (by simp) (AllReadyH.cons (o := { dst := some 43, op := Op.call { callee := Callee.value (Operand.func 48), args := #[Operand.tmp 40, Operand.tmp 42], argTypes := #[22, 9] }, type := 43, pos := "op.go:96", after := #[{ on := 3, ground := Ground.data }, { on := 5, ground := Ground.data }], guard := none }) rfl (fun K hK => ?_) AllReadyH.nil)
              · go_simp
                refine (HGET2.out _ hHeld).mono ?_
                rintro e v106 ⟨rfl, hba⟩
                have Z7 := Lib.hid (Z7.out.on hba)
                refine hK.out _ _ (bch hHeld hba) (fun hHeld => ?_)
                clear hba
                (try simp only [Act.put, List.setIfInBounds_toArray, List.set_cons_zero, List.set_cons_succ])
                refine wpAnyH_take (i := 7) (oi := { dst := some 36, op := Op.move (Operand.tmp 43), type := 43, pos := "op.go:96", after := #[{ on := 6, ground := Ground.data }], guard := none }) (v := ?_) rfl (by kernel_rfl) (by kernel_rfl) (by kernel_rfl) (fun _ _ _ h => h) (Or.inl ⟨by rfl, ?_⟩) hHeld ?_
                rotate_left
                · (intro w hSw; go_simp; try with_reducible rfl)
                (try simp only [Act.put, List.setIfInBounds_toArray, List.set_cons_zero, List.set_cons_succ])
                refine wpAnyH_take (i := 8) (oi := { dst := some 44, op := Op.extract (Operand.tmp 36) 0, type := 33, pos := "op.go:96", after := #[{ on := 7, ground := Ground.data }], guard := none }) (v := ?_) rfl (by kernel_rfl) (by kernel_rfl) (by kernel_rfl) (fun _ _ _ h => h) (Or.inl ⟨by rfl, ?_⟩) hHeld ?_
                rotate_left
                · (intro w hSw; go_simp; try with_reducible rfl)
                (try simp only [Act.put, List.setIfInBounds_toArray, List.set_cons_zero, List.set_cons_succ])
                refine wpAnyH_take (i := 9) (oi := { dst := some 45, op := Op.extract (Operand.tmp 36) 1, type := 4, pos := "op.go:96", after := #[{ on := 7, ground := Ground.data }, { on := 11, ground := Ground.gcOnly Departure.lateStores }], guard := none }) (v := ?_) rfl (by kernel_rfl) (by kernel_rfl) (by kernel_rfl) (fun _ _ _ h => h) (Or.inl ⟨by rfl, ?_⟩) hHeld ?_
                rotate_left
                · (intro w hSw; go_simp; try with_reducible rfl)
                (try simp only [Act.put, List.setIfInBounds_toArray, List.set_cons_zero, List.set_cons_succ])
                refine wpAnyH_ready (rs := [11]) (by kernel_rfl) (by simp) (AllReadyH.cons (o := { dst := none, op := Op.store 33 (Operand.tmp 8) (Operand.tmp 44), type := 0, pos := "op.go:96", after := #[{ on := 10, ground := Ground.data }, { on := 8, ground := Ground.data }, { on := 6, ground := Ground.chain }, { on := 0, ground := Ground.phase }, { on := 1, ground := Ground.phase }, { on := 2, ground := Ground.phase }, { on := 3, ground := Ground.phase }, { on := 4, ground := Ground.phase }, { on := 5, ground := Ground.phase }, { on := 6, ground := Ground.phase }, { on := 7, ground := Ground.phase }, { on := 8, ground := Ground.phase }, { on := 9, ground := Ground.textOnly Departure.lateStores }, { on := 10, ground := Ground.phase }], guard := none }) rfl (fun K hK => ?_) AllReadyH.nil)
                · refine wp_store_if (by rfl) 33 (.tmp 8) (.tmp 44) rfl b7 33 It.nil.arr y2.arr rfl rfl Z7.out (info35 _) rfl (iarr_one _) ?_
                  have Z8 : Hid (Box (v106.setRow b7 y2.arr) b7 33 y2.arr) := Lib.hid (Z7.out.row _)
                  refine hK.out _ _ (below_row hHeld HB7.out _) (fun hHeld => ?_)
                  clear Z7
                  (try simp only [Act.put])
                  refine wpAnyH_take (i := 12) (oi := { dst := some 9, op := Op.assign (Operand.tmp 45), type := 4, pos := "op.go:96", after := #[{ on := 9, ground := Ground.data }, { on := 11, ground := Ground.chain }, { on := 0, ground := Ground.phase }, { on := 1, ground := Ground.phase }, { on := 2, ground := Ground.phase }, { on := 3, ground := Ground.phase }, { on := 4, ground := Ground.phase }, { on := 5, ground := Ground.phase }, { on := 6, ground := Ground.phase }, { on := 7, ground := Ground.phase }, { on := 8, ground := Ground.phase }, { on := 9, ground := Ground.phase }, { on := 10, ground := Ground.phase }, { on := 11, ground := Ground.phase }], guard := none }) (v := ?_) rfl (by kernel_rfl) (by kernel_rfl) (by kernel_rfl) (fun _ _ _ h => h) (Or.inl ⟨by rfl, ?_⟩) hHeld ?_
                  rotate_left
                  · (intro w hSw; go_simp; try with_reducible rfl)
                  (try simp only [Act.put, List.setIfInBounds_toArray, List.set_cons_zero, List.set_cons_succ])
                  refine wpAnyH_done (by kernel_rfl) ?_ _
                  first | refine hK2 _ _ (Met.intro (hJ _ _ ?_)) | refine Met.intro (hJ _ _ ?_)
                  (repeat apply Exists.intro)
                  refine ⟨?_, rfl⟩
                  exact ⟨_, rfl, rfl, Z8, Lib.hid hHeld, HB7⟩
          case rest =>
            obtain ⟨b9, rfl, rfl, _, HB, _⟩ := hcut
            obtain ⟨w6, hw6⟩ : ∃ z, z = wc := ⟨_, rfl⟩
            rw [← hw6] at HB ⊢
            have HB6 := Lib.hid (bch HB4.out (bch HV2.out HB.out))
            have X6 := Lib.hid (XO.out.on HB.out)
            have HG6 := Lib.hid (HGV.out.on HB.out)
            have HT6 := Lib.hid (HTV.out.on HB.out)
            have p1 : w6.cell? ⟨bo, 1, none⟩ = some (.string ⟨o.path.toArray⟩) := X6.out.cell (k := 1) rfl
            have p2 : w6.cell? ⟨bo, 2, none⟩ = some (.string ⟨o.to.toArray⟩) := X6.out.cell (k := 2) rfl
            rw [HQ2.out] at HR2
            clear hw6 XG HGET2 HB hvs hv0
            cases q2 with
            | some q3 =>
              obtain rfl : is2 = true := HI2.out
              have HR : Hid (r = .error 5) := Lib.hid HR2.out
              go_wp2_with fail
              go_ret
              exact GrR.no HR.out HG.out HB6.out
            | none =>
              obtain rfl : is2 = false := HI2.out
              have HMV := Lib.hid (moved_any B b _ l o.path o.to y w6 HG6.out HOK.out HV.out HVT.out HQ.out HT6.out)
              go_wp2_with fail
              refine HMV.out.mono ?_
              rintro e w7 ⟨hb7, (⟨hfit, vm, rfl, hOm⟩ | ⟨hfit, rfl⟩)⟩
              · have HR : Hid (r = .ok (putL (takeL l o.path ((belowL l o.path).length + 1)) (movedM l o.path o.to y) o.to)) := Lib.hid (by rw [HR2.out]; simp only [Option.isSome_none, Bool.false_eq_true, if_false]; rw [if_neg (by rw [hfit]; simp)])
                have hlenm : (movedM l o.path o.to y).length = (belowL l o.path).length + 1 := by simp [movedM]
                obtain ⟨k, hk⟩ : ∃ k, k = (movedM l o.path o.to y).length := ⟨_, rfl⟩
                have hnr : o.path ≠ [47] := fun e => HNU.out (by rw [e]; exact under_root HVT.out)
                have hhas := has_some (srt_of HOK.out) HQ.out hnr
                have hblk := has_bel hhas
                have hmany := HOK.out.many
                rcases own_form hOm with ⟨e, _⟩ | ⟨gm, cm, rfl, hgm, hgm2, hgmo, hgmc⟩
                · rw [e] at hlenm; simp at hlenm
                have HG7 := Lib.hid (HG6.out.on hb7)
                have HTK := Lib.hid (take_any B b _ l o.path k w7 HG7.out (srt_of HOK.out) HOK.out.many (tree_sz HOK.out) (Nat.le_trans (valid_len _ HV.out) (by decide)) (by omega) (by rw [hk, hlenm]; omega))
                have HB7 := Lib.hid (bch HB6.out hb7)
                have X7 := Lib.hid (X6.out.on hb7)
                have HOM := Lib.hid hOm
                have hgb : gm ≠ b := by have := HG6.out.box.lt; omega
                have hvg : (Value.slice a n c).ownBlock ≠ some gm := fun e => by
                  rcases own_form HG6.out.own with ⟨_, q⟩ | ⟨r, cc, _, _, hlt, q, _⟩
                  · rw [q] at e; cases e
                  · rw [q] at e; cases e; omega
                have HPU : Hid (∀ v1 W, Gr W B b v1 (takeL l o.path k) → Nxt b (.slice a n c) v1 w7 W → Calls Tryz.prog 103 #[.pointer (some ⟨b, 0, none⟩), .slice (some ⟨gm, 0, none⟩) k cm] W (DoneR B b v1 (putL (takeL l o.path k) (movedM l o.path o.to y) o.to) W)) := Lib.hid (fun v1 W h1 h2 => by
                  have hh : W.heap[gm]? = w7.heap[gm]? := h2.block gm hgm2 hgb hvg
                  have hsub := take_sub l o.path k
                  rw [hk]
                  refine put_any B b v1 (takeL l o.path (movedM l o.path o.to y).length) (movedM l o.path o.to y) o.to ⟨o.to, y.kind, y.data⟩ gm 0 cm W (hk ▸ h1) ?_ ?_ ?_ (Nat.le_trans (valid_len _ HVT.out) (by decide)) rfl rfl (by rw [hlenm]; omega) ?_ hgb ?_ ?_ ?_
                  · rw [← hk]; exact (srt_of HOK.out).sublist hsub
                  · rw [← hk]; exact Nat.le_trans hsub.length_le hmany
                  · rw [← hk]; exact fun x hx => tree_sz HOK.out x (hsub.subset hx)
                  · intro e
                    rcases h2.row with q | q
                    · exact hvg (q ▸ e)
                    · have := q gm e; omega
                  · obtain ⟨cs, t, e⟩ := hgmc
                    exact ⟨cs, t, hh.trans e⟩
                  · intro j x hx
                    have := HOM.out.cells (g := gm) rfl j x hx
                    rw [add_to] at this
                    exact (World.cell?_of_block hh).trans this
                  · have := HG7.out.low; have := HG7.out.box.lt; have := h2.size; omega)
                have p17 : w7.cell? ⟨bo, 1, none⟩ = some (.string ⟨o.path.toArray⟩) := X7.out.cell (k := 1) rfl
                have HKL : Hid (k = (belowL l o.path).length + 1) := Lib.hid (hk.trans hlenm)
                rw [← hk]
                clear hb7 hfit hOm hlenm hk hnr hhas hblk hgm hgm2 hgmo hgmc hgb hvg p1 p2
                go_wp2_with fail
                refine HTK.out.mono ?_
                rintro e w8 ⟨v1, rfl, hG8, hN8⟩
                have HG8 := Lib.hid hG8
                have HN8 := Lib.hid hN8
                clear hG8 hN8
                go_wp2_with fail
                refine (HPU.out v1 w8 HG8.out HN8.out).mono ?_
                rintro e w9 ⟨v', rfl, hG9, hN9⟩
                rw [HKL.out] at hG9
                have HE := Lib.hid (GrR.yes (w := w) (v := .slice a n c) (l := l) HR.out hG9 ((Nxt.below HB7.out b _).trans (HN8.out.trans hN9)))
                clear hG9 hN9 p17
                go_wp2_with fail
                go_ret
                exact HE.out
              · have HR : Hid (r = .error 110) := Lib.hid (by rw [HR2.out]; simp only [Option.isSome_none, Bool.false_eq_true, if_false]; rw [if_pos hfit])
                have HB7 := Lib.hid (bch HB6.out hb7)
                clear hb7 hfit
                go_wp2_with fail
                go_ret
                exact GrR.no HR.out HG.out HB7.out
        · have HR : Hid (r = .error z) := Lib.hid (by rw [HR1.out, if_neg HNU.out, if_pos (by rw [← HZ.out]; exact hz0), ← HZ.out])
          have t1 : (z == 0) = false := by simpa using hz0
          have t2 : (z != 0) = true := by simpa using hz0
          clear hz0
          go_wp2_with fail
          go_ret
          exact GrR.no HR.out HG.out HB4.out
end Go.Proofs.YtjbbnecegomkcaaGreatDoor

namespace Go.Proofs.YtjbbnecegomkcaaGreatDoor
open Go.RowKit Go.Shelf

/-- The shapes of the kinds of operations, cell by cell. -/
def shapesL : List Value := [.bool false, .int .i64 0, .int .i64 0, .bool false, .int .i64 0, .int .i64 0, .bool false, .int .i64 0, .int .i64 524288, .bool false, .int .i64 0, .int .i64 524288, .bool false, .int .i64 1, .int .i64 2000, .bool true, .int .i64 0, .int .i64 0, .bool false, .int .i64 0, .int .i64 0, .bool false, .int .i64 0, .int .i64 0]
/-- What the package-level variables hold, the shapes among them. -/
structure TabS (w : World) : Prop where
  tab : Tabs w
  sh : ∀ (j : Nat) (v : Value), shapesL[j]? = some v → w.cell? ⟨0, j, none⟩ = some v
theorem TabS.on {w w' : World} (h : TabS w) (hb : Below w.heap.size w w') : TabS w' :=
  ⟨h.tab.on hb, fun j v hj => (hb.cell (p := ⟨0, j, none⟩) (by have := h.tab.one; show 0 < _; omega)).trans (h.sh j v hj)⟩
theorem TabS.nxt {b : Nat} {v v' : Value} {w w' : World} {B : Nat} {l : List It} (h : TabS w) (k : Nxt b v v' w w') (hG : Gr w B b v l) (hB : 3 ≤ B) : TabS w' :=
  ⟨h.tab.nxt k hG hB, fun j u hj => (World.cell?_of_block (k.kept hG (x := 0) (by omega))).trans (h.sh j u hj)⟩
def ChkR (c : Int) (w : World) (e : Ending) (w' : World) : Prop := e = .returned (.int .i64 c) ∧ Below w.heap.size w w'
theorem chk_is (p : Str) (hp : p.length ≤ 140737488355328) (b : Bool) (hb : validB p = b) (W : World) : Calls Tryz.prog 50 #[.string ⟨p.toArray⟩] W fun e w' => e = .returned (.int .i64 (if b = true then 0 else 110)) ∧ Below W.heap.size W w' := by
  have := check_any ⟨p.toArray⟩ (by show p.toArray.size ≤ _; rw [List.size_toArray]; exact hp) W
  rw [← hb]
  exact this
theorem keepO {W W' : World} {bo : Nat} {o : Opn} (X : Box W bo 51 o.arr) (hb : Below W.heap.size W W') : W'.cell? ⟨bo, 0, none⟩ = some (.int .i64 o.kind) ∧ W'.cell? ⟨bo, 1, none⟩ = some (.string ⟨o.path.toArray⟩) ∧ W'.cell? ⟨bo, 2, none⟩ = some (.string ⟨o.to.toArray⟩) ∧ W'.cell? ⟨bo, 3, none⟩ = some (.string ⟨o.data.toArray⟩) :=
  ⟨(X.on hb).cell (k := 0) rfl, (X.on hb).cell (k := 1) rfl, (X.on hb).cell (k := 2) rfl, (X.on hb).cell (k := 3) rfl⟩
set_option maxRecDepth 100000 in
set_option maxHeartbeats 4000000 in
theorem checkop_1 (o : Opn) (hk : o.kind = 1) (hpl : o.path.length ≤ 140737488355328) (_ : o.to.length ≤ 140737488355328) (w : World) (hT : TabS w) : Calls Tryz.prog 29 #[.agg o.arr] w (ChkR (checkM o) w) := by
  obtain ⟨w1, hw1⟩ : ∃ z, z = w.alloc (.cells o.arr 51) := ⟨_, rfl⟩
  obtain ⟨bo, hbo⟩ : ∃ z, z = w.heap.size := ⟨_, rfl⟩
  have X1 : Hid (Box w1 bo 51 o.arr) := Lib.hid (by rw [hw1, hbo]; exact box_new)
  have HB0 : Hid (Below w.heap.size w w1) := Lib.hid (by rw [hw1]; exact below_new _ _)
  have HT1 : Hid (TabS w1) := Lib.hid (hT.on HB0.out)
  have s0 := HT1.out.sh 3 _ rfl
  have s1 := HT1.out.sh 4 _ rfl
  have s2 := HT1.out.sh 5 _ rfl
  have m0 : w1.cell? ⟨bo, 0, none⟩ = some (.int .i64 1) := by rw [← hk]; exact X1.out.cell (k := 0) rfl
  obtain ⟨w2, hw2⟩ : ∃ z, z = w1.alloc (.cells #[.bool false, .int .i64 0, .int .i64 0] 75) := ⟨_, rfl⟩
  obtain ⟨bs, hbs⟩ : ∃ z, z = w1.heap.size := ⟨_, rfl⟩
  have hb12 : Below w1.heap.size w1 w2 := by rw [hw2]; exact below_new _ _
  have XO0 : Hid (Box w2 bo 51 o.arr) := Lib.hid (X1.out.on hb12)
  have XS0 : Hid (Box w2 bs 75 #[.bool false, .int .i64 0, .int .i64 0]) := Lib.hid (by rw [hw2, hbs]; exact box_new)
  have HB2 : Hid (Below w.heap.size w w2) := Lib.hid (bch HB0.out hb12)
  have M1 : Hid (w2.cell? ⟨bo, 1, none⟩ = some (.string ⟨o.path.toArray⟩)) := Lib.hid (XO0.out.cell (k := 1) rfl)
  have M2 : Hid (w2.cell? ⟨bo, 2, none⟩ = some (.string ⟨o.to.toArray⟩)) := Lib.hid (XO0.out.cell (k := 2) rfl)
  have M3 : Hid (w2.cell? ⟨bo, 3, none⟩ = some (.string ⟨o.data.toArray⟩)) := Lib.hid (XO0.out.cell (k := 3) rfl)
  clear hT hb12
  by_cases ht : o.to = []
  · skip
    by_cases hd : o.data = []
    · skip
      by_cases hv : validB o.path = true
      · skip
        have HC : Hid (checkM o = 0) := Lib.hid (by unfold checkM mostM leastM; simp [hk, ht, hd, hv])
        have e1 : (o.to == []) = true := by simp [ht]
        have e2 : (o.to != []) = false := by simp [ht]
        have d1 : (o.data == []) = true := by simp [hd]
        have d2 : (o.data != []) = false := by simp [hd]
        have d3 : o.data.length = 0 := by simp [hd]
        have HP : Hid (∀ W, Calls Tryz.prog 50 #[.string ⟨o.path.toArray⟩] W (ChkR 0 W)) := Lib.hid (chk_is o.path hpl true hv)
        rw [HC.out]
        clear hk ht hd hv
        go_enter Tryz.func29, Tryz.ntmps29
        go_upto_region 1 with fail
        rw [← hw1, ← hbo]
        clear hw1 hbo
        go_upto_region 4 with fail
        rw [← hw2, ← hbs]
        clear hw2 hbs m0 s0 s1 s2
        have m1 := M1.out
        have m2 := M2.out
        have m3 := M3.out
        have g0 := XS0.out.cell (k := 0) rfl
        have g1 := XS0.out.cell (k := 1) rfl
        have g2 := XS0.out.cell (k := 2) rfl
        go_wp2_with fail
        refine (HP.out _).mono ?_
        rintro e wc0 ⟨rfl, hb0⟩
        have HC1 := Lib.hid (bch HB2.out hb0)
        obtain ⟨_, n1, n2, n3⟩ := keepO XO0.out hb0
        have XO1 := Lib.hid (XO0.out.on hb0)
        have XS1 := Lib.hid (XS0.out.on hb0)
        have g0 := XS1.out.cell (k := 0) rfl
        have g1 := XS1.out.cell (k := 1) rfl
        have g2 := XS1.out.cell (k := 2) rfl
        clear hb0
        go_wp2_with fail
        go_ret
        exact ⟨rfl, HC1.out⟩
      · skip
        have HC : Hid (checkM o = 110) := Lib.hid (by unfold checkM mostM leastM; simp [hk, ht, hd, hv])
        have e1 : (o.to == []) = true := by simp [ht]
        have e2 : (o.to != []) = false := by simp [ht]
        have d1 : (o.data == []) = true := by simp [hd]
        have d2 : (o.data != []) = false := by simp [hd]
        have d3 : o.data.length = 0 := by simp [hd]
        have HP : Hid (∀ W, Calls Tryz.prog 50 #[.string ⟨o.path.toArray⟩] W (ChkR 110 W)) := Lib.hid (chk_is o.path hpl false (by simpa using hv))
        rw [HC.out]
        clear hk ht hd hv
        go_enter Tryz.func29, Tryz.ntmps29
        go_upto_region 1 with fail
        rw [← hw1, ← hbo]
        clear hw1 hbo
        go_upto_region 4 with fail
        rw [← hw2, ← hbs]
        clear hw2 hbs m0 s0 s1 s2
        have m1 := M1.out
        have m2 := M2.out
        have m3 := M3.out
        have g0 := XS0.out.cell (k := 0) rfl
        have g1 := XS0.out.cell (k := 1) rfl
        have g2 := XS0.out.cell (k := 2) rfl
        go_wp2_with fail
        refine (HP.out _).mono ?_
        rintro e wc0 ⟨rfl, hb0⟩
        have HC1 := Lib.hid (bch HB2.out hb0)
        obtain ⟨_, n1, n2, n3⟩ := keepO XO0.out hb0
        have XO1 := Lib.hid (XO0.out.on hb0)
        have XS1 := Lib.hid (XS0.out.on hb0)
        have g0 := XS1.out.cell (k := 0) rfl
        have g1 := XS1.out.cell (k := 1) rfl
        have g2 := XS1.out.cell (k := 2) rfl
        clear hb0
        go_wp2_with fail
        go_ret
        exact ⟨rfl, HC1.out⟩
    · skip
      have HC : Hid (checkM o = 2) := Lib.hid (by unfold checkM mostM leastM; simp [hk, ht, hd])
      have e1 : (o.to == []) = true := by simp [ht]
      have e2 : (o.to != []) = false := by simp [ht]
      have d1 : (o.data == []) = false := by simpa using hd
      have d2 : (o.data != []) = true := by simpa using hd
      rw [HC.out]
      clear hk ht hd
      go_enter Tryz.func29, Tryz.ntmps29
      go_upto_region 1 with fail
      rw [← hw1, ← hbo]
      clear hw1 hbo
      go_upto_region 4 with fail
      rw [← hw2, ← hbs]
      clear hw2 hbs m0 s0 s1 s2
      have m1 := M1.out
      have m2 := M2.out
      have m3 := M3.out
      have g0 := XS0.out.cell (k := 0) rfl
      have g1 := XS0.out.cell (k := 1) rfl
      have g2 := XS0.out.cell (k := 2) rfl
      go_wp2_with fail
      go_ret
      exact ⟨rfl, HB2.out⟩
  · skip
    have HC : Hid (checkM o = 2) := Lib.hid (by unfold checkM mostM leastM; simp [hk, ht])
    have e1 : (o.to == []) = false := by simpa using ht
    have e2 : (o.to != []) = true := by simpa using ht
    have e3 : ¬ (o.to = []) := ht
    rw [HC.out]
    clear hk ht
    go_enter Tryz.func29, Tryz.ntmps29
    go_upto_region 1 with fail
    rw [← hw1, ← hbo]
    clear hw1 hbo
    go_upto_region 4 with fail
    rw [← hw2, ← hbs]
    clear hw2 hbs m0 s0 s1 s2
    have m1 := M1.out
    have m2 := M2.out
    have m3 := M3.out
    have g0 := XS0.out.cell (k := 0) rfl
    have g1 := XS0.out.cell (k := 1) rfl
    have g2 := XS0.out.cell (k := 2) rfl
    go_wp2_with fail
    go_ret
    exact ⟨rfl, HB2.out⟩
set_option maxRecDepth 100000 in
set_option maxHeartbeats 4000000 in
theorem checkop_2 (o : Opn) (hk : o.kind = 2) (hpl : o.path.length ≤ 140737488355328) (_ : o.to.length ≤ 140737488355328) (w : World) (hT : TabS w) : Calls Tryz.prog 29 #[.agg o.arr] w (ChkR (checkM o) w) := by
  obtain ⟨w1, hw1⟩ : ∃ z, z = w.alloc (.cells o.arr 51) := ⟨_, rfl⟩
  obtain ⟨bo, hbo⟩ : ∃ z, z = w.heap.size := ⟨_, rfl⟩
  have X1 : Hid (Box w1 bo 51 o.arr) := Lib.hid (by rw [hw1, hbo]; exact box_new)
  have HB0 : Hid (Below w.heap.size w w1) := Lib.hid (by rw [hw1]; exact below_new _ _)
  have HT1 : Hid (TabS w1) := Lib.hid (hT.on HB0.out)
  have s0 := HT1.out.sh 6 _ rfl
  have s1 := HT1.out.sh 7 _ rfl
  have s2 := HT1.out.sh 8 _ rfl
  have m0 : w1.cell? ⟨bo, 0, none⟩ = some (.int .i64 2) := by rw [← hk]; exact X1.out.cell (k := 0) rfl
  obtain ⟨w2, hw2⟩ : ∃ z, z = w1.alloc (.cells #[.bool false, .int .i64 0, .int .i64 524288] 75) := ⟨_, rfl⟩
  obtain ⟨bs, hbs⟩ : ∃ z, z = w1.heap.size := ⟨_, rfl⟩
  have hb12 : Below w1.heap.size w1 w2 := by rw [hw2]; exact below_new _ _
  have XO0 : Hid (Box w2 bo 51 o.arr) := Lib.hid (X1.out.on hb12)
  have XS0 : Hid (Box w2 bs 75 #[.bool false, .int .i64 0, .int .i64 524288]) := Lib.hid (by rw [hw2, hbs]; exact box_new)
  have HB2 : Hid (Below w.heap.size w w2) := Lib.hid (bch HB0.out hb12)
  have M1 : Hid (w2.cell? ⟨bo, 1, none⟩ = some (.string ⟨o.path.toArray⟩)) := Lib.hid (XO0.out.cell (k := 1) rfl)
  have M2 : Hid (w2.cell? ⟨bo, 2, none⟩ = some (.string ⟨o.to.toArray⟩)) := Lib.hid (XO0.out.cell (k := 2) rfl)
  have M3 : Hid (w2.cell? ⟨bo, 3, none⟩ = some (.string ⟨o.data.toArray⟩)) := Lib.hid (XO0.out.cell (k := 3) rfl)
  clear hT hb12
  by_cases ht : o.to = []
  · skip
    by_cases hv : validB o.path = true
    · skip
      by_cases hl : 524288 < o.data.length
      · skip
        have HC : Hid (checkM o = 3) := Lib.hid (by unfold checkM mostM leastM; simp [hk, ht, hv, hl])
        have e1 : (o.to == []) = true := by simp [ht]
        have e2 : (o.to != []) = false := by simp [ht]
        have HP : Hid (∀ W, Calls Tryz.prog 50 #[.string ⟨o.path.toArray⟩] W (ChkR 0 W)) := Lib.hid (chk_is o.path hpl true hv)
        have l3 : (524288 : Int) < (o.data.length : Int) := by omega
        rw [HC.out]
        clear hk ht hv hl
        go_enter Tryz.func29, Tryz.ntmps29
        go_upto_region 1 with fail
        rw [← hw1, ← hbo]
        clear hw1 hbo
        go_upto_region 4 with fail
        rw [← hw2, ← hbs]
        clear hw2 hbs m0 s0 s1 s2
        have m1 := M1.out
        have m2 := M2.out
        have m3 := M3.out
        have g0 := XS0.out.cell (k := 0) rfl
        have g1 := XS0.out.cell (k := 1) rfl
        have g2 := XS0.out.cell (k := 2) rfl
        go_wp2_with fail
        refine (HP.out _).mono ?_
        rintro e wc0 ⟨rfl, hb0⟩
        have HC1 := Lib.hid (bch HB2.out hb0)
        obtain ⟨_, n1, n2, n3⟩ := keepO XO0.out hb0
        have XO1 := Lib.hid (XO0.out.on hb0)
        have XS1 := Lib.hid (XS0.out.on hb0)
        have g0 := XS1.out.cell (k := 0) rfl
        have g1 := XS1.out.cell (k := 1) rfl
        have g2 := XS1.out.cell (k := 2) rfl
        clear hb0
        go_wp2_with fail
        go_ret
        exact ⟨rfl, HC1.out⟩
      · skip
        have HC : Hid (checkM o = 0) := Lib.hid (by unfold checkM mostM leastM; simp [hk, ht, hv, hl])
        have e1 : (o.to == []) = true := by simp [ht]
        have e2 : (o.to != []) = false := by simp [ht]
        have HP : Hid (∀ W, Calls Tryz.prog 50 #[.string ⟨o.path.toArray⟩] W (ChkR 0 W)) := Lib.hid (chk_is o.path hpl true hv)
        have l3 : ¬ (524288 : Int) < (o.data.length : Int) := by omega
        rw [HC.out]
        clear hk ht hv hl
        go_enter Tryz.func29, Tryz.ntmps29
        go_upto_region 1 with fail
        rw [← hw1, ← hbo]
        clear hw1 hbo
        go_upto_region 4 with fail
        rw [← hw2, ← hbs]
        clear hw2 hbs m0 s0 s1 s2
        have m1 := M1.out
        have m2 := M2.out
        have m3 := M3.out
        have g0 := XS0.out.cell (k := 0) rfl
        have g1 := XS0.out.cell (k := 1) rfl
        have g2 := XS0.out.cell (k := 2) rfl
        go_wp2_with fail
        refine (HP.out _).mono ?_
        rintro e wc0 ⟨rfl, hb0⟩
        have HC1 := Lib.hid (bch HB2.out hb0)
        obtain ⟨_, n1, n2, n3⟩ := keepO XO0.out hb0
        have XO1 := Lib.hid (XO0.out.on hb0)
        have XS1 := Lib.hid (XS0.out.on hb0)
        have g0 := XS1.out.cell (k := 0) rfl
        have g1 := XS1.out.cell (k := 1) rfl
        have g2 := XS1.out.cell (k := 2) rfl
        clear hb0
        go_wp2_with fail
        go_ret
        exact ⟨rfl, HC1.out⟩
    · skip
      have HC : Hid (checkM o = 110) := Lib.hid (by unfold checkM mostM leastM; simp [hk, ht, hv])
      have e1 : (o.to == []) = true := by simp [ht]
      have e2 : (o.to != []) = false := by simp [ht]
      have HP : Hid (∀ W, Calls Tryz.prog 50 #[.string ⟨o.path.toArray⟩] W (ChkR 110 W)) := Lib.hid (chk_is o.path hpl false (by simpa using hv))
      rw [HC.out]
      clear hk ht hv
      go_enter Tryz.func29, Tryz.ntmps29
      go_upto_region 1 with fail
      rw [← hw1, ← hbo]
      clear hw1 hbo
      go_upto_region 4 with fail
      rw [← hw2, ← hbs]
      clear hw2 hbs m0 s0 s1 s2
      have m1 := M1.out
      have m2 := M2.out
      have m3 := M3.out
      have g0 := XS0.out.cell (k := 0) rfl
      have g1 := XS0.out.cell (k := 1) rfl
      have g2 := XS0.out.cell (k := 2) rfl
      go_wp2_with fail
      refine (HP.out _).mono ?_
      rintro e wc0 ⟨rfl, hb0⟩
      have HC1 := Lib.hid (bch HB2.out hb0)
      obtain ⟨_, n1, n2, n3⟩ := keepO XO0.out hb0
      have XO1 := Lib.hid (XO0.out.on hb0)
      have XS1 := Lib.hid (XS0.out.on hb0)
      have g0 := XS1.out.cell (k := 0) rfl
      have g1 := XS1.out.cell (k := 1) rfl
      have g2 := XS1.out.cell (k := 2) rfl
      clear hb0
      go_wp2_with fail
      go_ret
      exact ⟨rfl, HC1.out⟩
  · skip
    have HC : Hid (checkM o = 2) := Lib.hid (by unfold checkM mostM leastM; simp [hk, ht])
    have e1 : (o.to == []) = false := by simpa using ht
    have e2 : (o.to != []) = true := by simpa using ht
    have e3 : ¬ (o.to = []) := ht
    rw [HC.out]
    clear hk ht
    go_enter Tryz.func29, Tryz.ntmps29
    go_upto_region 1 with fail
    rw [← hw1, ← hbo]
    clear hw1 hbo
    go_upto_region 4 with fail
    rw [← hw2, ← hbs]
    clear hw2 hbs m0 s0 s1 s2
    have m1 := M1.out
    have m2 := M2.out
    have m3 := M3.out
    have g0 := XS0.out.cell (k := 0) rfl
    have g1 := XS0.out.cell (k := 1) rfl
    have g2 := XS0.out.cell (k := 2) rfl
    go_wp2_with fail
    go_ret
    exact ⟨rfl, HB2.out⟩
set_option maxRecDepth 100000 in
set_option maxHeartbeats 4000000 in
theorem checkop_3 (o : Opn) (hk : o.kind = 3) (hpl : o.path.length ≤ 140737488355328) (_ : o.to.length ≤ 140737488355328) (w : World) (hT : TabS w) : Calls Tryz.prog 29 #[.agg o.arr] w (ChkR (checkM o) w) := by
  obtain ⟨w1, hw1⟩ : ∃ z, z = w.alloc (.cells o.arr 51) := ⟨_, rfl⟩
  obtain ⟨bo, hbo⟩ : ∃ z, z = w.heap.size := ⟨_, rfl⟩
  have X1 : Hid (Box w1 bo 51 o.arr) := Lib.hid (by rw [hw1, hbo]; exact box_new)
  have HB0 : Hid (Below w.heap.size w w1) := Lib.hid (by rw [hw1]; exact below_new _ _)
  have HT1 : Hid (TabS w1) := Lib.hid (hT.on HB0.out)
  have s0 := HT1.out.sh 9 _ rfl
  have s1 := HT1.out.sh 10 _ rfl
  have s2 := HT1.out.sh 11 _ rfl
  have m0 : w1.cell? ⟨bo, 0, none⟩ = some (.int .i64 3) := by rw [← hk]; exact X1.out.cell (k := 0) rfl
  obtain ⟨w2, hw2⟩ : ∃ z, z = w1.alloc (.cells #[.bool false, .int .i64 0, .int .i64 524288] 75) := ⟨_, rfl⟩
  obtain ⟨bs, hbs⟩ : ∃ z, z = w1.heap.size := ⟨_, rfl⟩
  have hb12 : Below w1.heap.size w1 w2 := by rw [hw2]; exact below_new _ _
  have XO0 : Hid (Box w2 bo 51 o.arr) := Lib.hid (X1.out.on hb12)
  have XS0 : Hid (Box w2 bs 75 #[.bool false, .int .i64 0, .int .i64 524288]) := Lib.hid (by rw [hw2, hbs]; exact box_new)
  have HB2 : Hid (Below w.heap.size w w2) := Lib.hid (bch HB0.out hb12)
  have M1 : Hid (w2.cell? ⟨bo, 1, none⟩ = some (.string ⟨o.path.toArray⟩)) := Lib.hid (XO0.out.cell (k := 1) rfl)
  have M2 : Hid (w2.cell? ⟨bo, 2, none⟩ = some (.string ⟨o.to.toArray⟩)) := Lib.hid (XO0.out.cell (k := 2) rfl)
  have M3 : Hid (w2.cell? ⟨bo, 3, none⟩ = some (.string ⟨o.data.toArray⟩)) := Lib.hid (XO0.out.cell (k := 3) rfl)
  clear hT hb12
  by_cases ht : o.to = []
  · skip
    by_cases hv : validB o.path = true
    · skip
      by_cases hl : 524288 < o.data.length
      · skip
        have HC : Hid (checkM o = 3) := Lib.hid (by unfold checkM mostM leastM; simp [hk, ht, hv, hl])
        have e1 : (o.to == []) = true := by simp [ht]
        have e2 : (o.to != []) = false := by simp [ht]
        have HP : Hid (∀ W, Calls Tryz.prog 50 #[.string ⟨o.path.toArray⟩] W (ChkR 0 W)) := Lib.hid (chk_is o.path hpl true hv)
        have l3 : (524288 : Int) < (o.data.length : Int) := by omega
        rw [HC.out]
        clear hk ht hv hl
        go_enter Tryz.func29, Tryz.ntmps29
        go_upto_region 1 with fail
        rw [← hw1, ← hbo]
        clear hw1 hbo
        go_upto_region 4 with fail
        rw [← hw2, ← hbs]
        clear hw2 hbs m0 s0 s1 s2
        have m1 := M1.out
        have m2 := M2.out
        have m3 := M3.out
        have g0 := XS0.out.cell (k := 0) rfl
        have g1 := XS0.out.cell (k := 1) rfl
        have g2 := XS0.out.cell (k := 2) rfl
        go_wp2_with fail
        refine (HP.out _).mono ?_
        rintro e wc0 ⟨rfl, hb0⟩
        have HC1 := Lib.hid (bch HB2.out hb0)
        obtain ⟨_, n1, n2, n3⟩ := keepO XO0.out hb0
        have XO1 := Lib.hid (XO0.out.on hb0)
        have XS1 := Lib.hid (XS0.out.on hb0)
        have g0 := XS1.out.cell (k := 0) rfl
        have g1 := XS1.out.cell (k := 1) rfl
        have g2 := XS1.out.cell (k := 2) rfl
        clear hb0
        go_wp2_with fail
        go_ret
        exact ⟨rfl, HC1.out⟩
      · skip
        have HC : Hid (checkM o = 0) := Lib.hid (by unfold checkM mostM leastM; simp [hk, ht, hv, hl])
        have e1 : (o.to == []) = true := by simp [ht]
        have e2 : (o.to != []) = false := by simp [ht]
        have HP : Hid (∀ W, Calls Tryz.prog 50 #[.string ⟨o.path.toArray⟩] W (ChkR 0 W)) := Lib.hid (chk_is o.path hpl true hv)
        have l3 : ¬ (524288 : Int) < (o.data.length : Int) := by omega
        rw [HC.out]
        clear hk ht hv hl
        go_enter Tryz.func29, Tryz.ntmps29
        go_upto_region 1 with fail
        rw [← hw1, ← hbo]
        clear hw1 hbo
        go_upto_region 4 with fail
        rw [← hw2, ← hbs]
        clear hw2 hbs m0 s0 s1 s2
        have m1 := M1.out
        have m2 := M2.out
        have m3 := M3.out
        have g0 := XS0.out.cell (k := 0) rfl
        have g1 := XS0.out.cell (k := 1) rfl
        have g2 := XS0.out.cell (k := 2) rfl
        go_wp2_with fail
        refine (HP.out _).mono ?_
        rintro e wc0 ⟨rfl, hb0⟩
        have HC1 := Lib.hid (bch HB2.out hb0)
        obtain ⟨_, n1, n2, n3⟩ := keepO XO0.out hb0
        have XO1 := Lib.hid (XO0.out.on hb0)
        have XS1 := Lib.hid (XS0.out.on hb0)
        have g0 := XS1.out.cell (k := 0) rfl
        have g1 := XS1.out.cell (k := 1) rfl
        have g2 := XS1.out.cell (k := 2) rfl
        clear hb0
        go_wp2_with fail
        go_ret
        exact ⟨rfl, HC1.out⟩
    · skip
      have HC : Hid (checkM o = 110) := Lib.hid (by unfold checkM mostM leastM; simp [hk, ht, hv])
      have e1 : (o.to == []) = true := by simp [ht]
      have e2 : (o.to != []) = false := by simp [ht]
      have HP : Hid (∀ W, Calls Tryz.prog 50 #[.string ⟨o.path.toArray⟩] W (ChkR 110 W)) := Lib.hid (chk_is o.path hpl false (by simpa using hv))
      rw [HC.out]
      clear hk ht hv
      go_enter Tryz.func29, Tryz.ntmps29
      go_upto_region 1 with fail
      rw [← hw1, ← hbo]
      clear hw1 hbo
      go_upto_region 4 with fail
      rw [← hw2, ← hbs]
      clear hw2 hbs m0 s0 s1 s2
      have m1 := M1.out
      have m2 := M2.out
      have m3 := M3.out
      have g0 := XS0.out.cell (k := 0) rfl
      have g1 := XS0.out.cell (k := 1) rfl
      have g2 := XS0.out.cell (k := 2) rfl
      go_wp2_with fail
      refine (HP.out _).mono ?_
      rintro e wc0 ⟨rfl, hb0⟩
      have HC1 := Lib.hid (bch HB2.out hb0)
      obtain ⟨_, n1, n2, n3⟩ := keepO XO0.out hb0
      have XO1 := Lib.hid (XO0.out.on hb0)
      have XS1 := Lib.hid (XS0.out.on hb0)
      have g0 := XS1.out.cell (k := 0) rfl
      have g1 := XS1.out.cell (k := 1) rfl
      have g2 := XS1.out.cell (k := 2) rfl
      clear hb0
      go_wp2_with fail
      go_ret
      exact ⟨rfl, HC1.out⟩
  · skip
    have HC : Hid (checkM o = 2) := Lib.hid (by unfold checkM mostM leastM; simp [hk, ht])
    have e1 : (o.to == []) = false := by simpa using ht
    have e2 : (o.to != []) = true := by simpa using ht
    have e3 : ¬ (o.to = []) := ht
    rw [HC.out]
    clear hk ht
    go_enter Tryz.func29, Tryz.ntmps29
    go_upto_region 1 with fail
    rw [← hw1, ← hbo]
    clear hw1 hbo
    go_upto_region 4 with fail
    rw [← hw2, ← hbs]
    clear hw2 hbs m0 s0 s1 s2
    have m1 := M1.out
    have m2 := M2.out
    have m3 := M3.out
    have g0 := XS0.out.cell (k := 0) rfl
    have g1 := XS0.out.cell (k := 1) rfl
    have g2 := XS0.out.cell (k := 2) rfl
    go_wp2_with fail
    go_ret
    exact ⟨rfl, HB2.out⟩
set_option maxRecDepth 100000 in
set_option maxHeartbeats 4000000 in
theorem checkop_4 (o : Opn) (hk : o.kind = 4) (hpl : o.path.length ≤ 140737488355328) (_ : o.to.length ≤ 140737488355328) (w : World) (hT : TabS w) : Calls Tryz.prog 29 #[.agg o.arr] w (ChkR (checkM o) w) := by
  obtain ⟨w1, hw1⟩ : ∃ z, z = w.alloc (.cells o.arr 51) := ⟨_, rfl⟩
  obtain ⟨bo, hbo⟩ : ∃ z, z = w.heap.size := ⟨_, rfl⟩
  have X1 : Hid (Box w1 bo 51 o.arr) := Lib.hid (by rw [hw1, hbo]; exact box_new)
  have HB0 : Hid (Below w.heap.size w w1) := Lib.hid (by rw [hw1]; exact below_new _ _)
  have HT1 : Hid (TabS w1) := Lib.hid (hT.on HB0.out)
  have s0 := HT1.out.sh 12 _ rfl
  have s1 := HT1.out.sh 13 _ rfl
  have s2 := HT1.out.sh 14 _ rfl
  have m0 : w1.cell? ⟨bo, 0, none⟩ = some (.int .i64 4) := by rw [← hk]; exact X1.out.cell (k := 0) rfl
  obtain ⟨w2, hw2⟩ : ∃ z, z = w1.alloc (.cells #[.bool false, .int .i64 1, .int .i64 2000] 75) := ⟨_, rfl⟩
  obtain ⟨bs, hbs⟩ : ∃ z, z = w1.heap.size := ⟨_, rfl⟩
  have hb12 : Below w1.heap.size w1 w2 := by rw [hw2]; exact below_new _ _
  have XO0 : Hid (Box w2 bo 51 o.arr) := Lib.hid (X1.out.on hb12)
  have XS0 : Hid (Box w2 bs 75 #[.bool false, .int .i64 1, .int .i64 2000]) := Lib.hid (by rw [hw2, hbs]; exact box_new)
  have HB2 : Hid (Below w.heap.size w w2) := Lib.hid (bch HB0.out hb12)
  have M1 : Hid (w2.cell? ⟨bo, 1, none⟩ = some (.string ⟨o.path.toArray⟩)) := Lib.hid (XO0.out.cell (k := 1) rfl)
  have M2 : Hid (w2.cell? ⟨bo, 2, none⟩ = some (.string ⟨o.to.toArray⟩)) := Lib.hid (XO0.out.cell (k := 2) rfl)
  have M3 : Hid (w2.cell? ⟨bo, 3, none⟩ = some (.string ⟨o.data.toArray⟩)) := Lib.hid (XO0.out.cell (k := 3) rfl)
  clear hT hb12
  by_cases ht : o.to = []
  · skip
    by_cases hd : o.data.length < 1
    · skip
      have HC : Hid (checkM o = 2) := Lib.hid (by unfold checkM mostM leastM; simp [hk, ht, hd])
      have e1 : (o.to == []) = true := by simp [ht]
      have e2 : (o.to != []) = false := by simp [ht]
      have d3 : (o.data.length : Int) < 1 := by omega
      rw [HC.out]
      clear hk ht hd
      go_enter Tryz.func29, Tryz.ntmps29
      go_upto_region 1 with fail
      rw [← hw1, ← hbo]
      clear hw1 hbo
      go_upto_region 4 with fail
      rw [← hw2, ← hbs]
      clear hw2 hbs m0 s0 s1 s2
      have m1 := M1.out
      have m2 := M2.out
      have m3 := M3.out
      have g0 := XS0.out.cell (k := 0) rfl
      have g1 := XS0.out.cell (k := 1) rfl
      have g2 := XS0.out.cell (k := 2) rfl
      go_wp2_with fail
      go_ret
      exact ⟨rfl, HB2.out⟩
    · skip
      by_cases hv : validB o.path = true
      · skip
        by_cases hl : 2000 < o.data.length
        · skip
          have HC : Hid (checkM o = 3) := Lib.hid (by unfold checkM mostM leastM; simp [hk, ht, hd, hv, hl])
          have e1 : (o.to == []) = true := by simp [ht]
          have e2 : (o.to != []) = false := by simp [ht]
          have d3 : ¬ (o.data.length : Int) < 1 := by omega
          have HP : Hid (∀ W, Calls Tryz.prog 50 #[.string ⟨o.path.toArray⟩] W (ChkR 0 W)) := Lib.hid (chk_is o.path hpl true hv)
          have l3 : (2000 : Int) < (o.data.length : Int) := by omega
          rw [HC.out]
          clear hk ht hd hv hl
          go_enter Tryz.func29, Tryz.ntmps29
          go_upto_region 1 with fail
          rw [← hw1, ← hbo]
          clear hw1 hbo
          go_upto_region 4 with fail
          rw [← hw2, ← hbs]
          clear hw2 hbs m0 s0 s1 s2
          have m1 := M1.out
          have m2 := M2.out
          have m3 := M3.out
          have g0 := XS0.out.cell (k := 0) rfl
          have g1 := XS0.out.cell (k := 1) rfl
          have g2 := XS0.out.cell (k := 2) rfl
          go_wp2_with fail
          refine (HP.out _).mono ?_
          rintro e wc0 ⟨rfl, hb0⟩
          have HC1 := Lib.hid (bch HB2.out hb0)
          obtain ⟨_, n1, n2, n3⟩ := keepO XO0.out hb0
          have XO1 := Lib.hid (XO0.out.on hb0)
          have XS1 := Lib.hid (XS0.out.on hb0)
          have g0 := XS1.out.cell (k := 0) rfl
          have g1 := XS1.out.cell (k := 1) rfl
          have g2 := XS1.out.cell (k := 2) rfl
          clear hb0
          go_wp2_with fail
          go_ret
          exact ⟨rfl, HC1.out⟩
        · skip
          have HC : Hid (checkM o = 0) := Lib.hid (by unfold checkM mostM leastM; simp [hk, ht, hd, hv, hl])
          have e1 : (o.to == []) = true := by simp [ht]
          have e2 : (o.to != []) = false := by simp [ht]
          have d3 : ¬ (o.data.length : Int) < 1 := by omega
          have HP : Hid (∀ W, Calls Tryz.prog 50 #[.string ⟨o.path.toArray⟩] W (ChkR 0 W)) := Lib.hid (chk_is o.path hpl true hv)
          have l3 : ¬ (2000 : Int) < (o.data.length : Int) := by omega
          rw [HC.out]
          clear hk ht hd hv hl
          go_enter Tryz.func29, Tryz.ntmps29
          go_upto_region 1 with fail
          rw [← hw1, ← hbo]
          clear hw1 hbo
          go_upto_region 4 with fail
          rw [← hw2, ← hbs]
          clear hw2 hbs m0 s0 s1 s2
          have m1 := M1.out
          have m2 := M2.out
          have m3 := M3.out
          have g0 := XS0.out.cell (k := 0) rfl
          have g1 := XS0.out.cell (k := 1) rfl
          have g2 := XS0.out.cell (k := 2) rfl
          go_wp2_with fail
          refine (HP.out _).mono ?_
          rintro e wc0 ⟨rfl, hb0⟩
          have HC1 := Lib.hid (bch HB2.out hb0)
          obtain ⟨_, n1, n2, n3⟩ := keepO XO0.out hb0
          have XO1 := Lib.hid (XO0.out.on hb0)
          have XS1 := Lib.hid (XS0.out.on hb0)
          have g0 := XS1.out.cell (k := 0) rfl
          have g1 := XS1.out.cell (k := 1) rfl
          have g2 := XS1.out.cell (k := 2) rfl
          clear hb0
          go_wp2_with fail
          go_ret
          exact ⟨rfl, HC1.out⟩
      · skip
        have HC : Hid (checkM o = 110) := Lib.hid (by unfold checkM mostM leastM; simp [hk, ht, hd, hv])
        have e1 : (o.to == []) = true := by simp [ht]
        have e2 : (o.to != []) = false := by simp [ht]
        have d3 : ¬ (o.data.length : Int) < 1 := by omega
        have HP : Hid (∀ W, Calls Tryz.prog 50 #[.string ⟨o.path.toArray⟩] W (ChkR 110 W)) := Lib.hid (chk_is o.path hpl false (by simpa using hv))
        rw [HC.out]
        clear hk ht hd hv
        go_enter Tryz.func29, Tryz.ntmps29
        go_upto_region 1 with fail
        rw [← hw1, ← hbo]
        clear hw1 hbo
        go_upto_region 4 with fail
        rw [← hw2, ← hbs]
        clear hw2 hbs m0 s0 s1 s2
        have m1 := M1.out
        have m2 := M2.out
        have m3 := M3.out
        have g0 := XS0.out.cell (k := 0) rfl
        have g1 := XS0.out.cell (k := 1) rfl
        have g2 := XS0.out.cell (k := 2) rfl
        go_wp2_with fail
        refine (HP.out _).mono ?_
        rintro e wc0 ⟨rfl, hb0⟩
        have HC1 := Lib.hid (bch HB2.out hb0)
        obtain ⟨_, n1, n2, n3⟩ := keepO XO0.out hb0
        have XO1 := Lib.hid (XO0.out.on hb0)
        have XS1 := Lib.hid (XS0.out.on hb0)
        have g0 := XS1.out.cell (k := 0) rfl
        have g1 := XS1.out.cell (k := 1) rfl
        have g2 := XS1.out.cell (k := 2) rfl
        clear hb0
        go_wp2_with fail
        go_ret
        exact ⟨rfl, HC1.out⟩
  · skip
    have HC : Hid (checkM o = 2) := Lib.hid (by unfold checkM mostM leastM; simp [hk, ht])
    have e1 : (o.to == []) = false := by simpa using ht
    have e2 : (o.to != []) = true := by simpa using ht
    have e3 : ¬ (o.to = []) := ht
    rw [HC.out]
    clear hk ht
    go_enter Tryz.func29, Tryz.ntmps29
    go_upto_region 1 with fail
    rw [← hw1, ← hbo]
    clear hw1 hbo
    go_upto_region 4 with fail
    rw [← hw2, ← hbs]
    clear hw2 hbs m0 s0 s1 s2
    have m1 := M1.out
    have m2 := M2.out
    have m3 := M3.out
    have g0 := XS0.out.cell (k := 0) rfl
    have g1 := XS0.out.cell (k := 1) rfl
    have g2 := XS0.out.cell (k := 2) rfl
    go_wp2_with fail
    go_ret
    exact ⟨rfl, HB2.out⟩
set_option maxRecDepth 100000 in
set_option maxHeartbeats 4000000 in
theorem checkop_5 (o : Opn) (hk : o.kind = 5) (hpl : o.path.length ≤ 140737488355328) (htl : o.to.length ≤ 140737488355328) (w : World) (hT : TabS w) : Calls Tryz.prog 29 #[.agg o.arr] w (ChkR (checkM o) w) := by
  obtain ⟨w1, hw1⟩ : ∃ z, z = w.alloc (.cells o.arr 51) := ⟨_, rfl⟩
  obtain ⟨bo, hbo⟩ : ∃ z, z = w.heap.size := ⟨_, rfl⟩
  have X1 : Hid (Box w1 bo 51 o.arr) := Lib.hid (by rw [hw1, hbo]; exact box_new)
  have HB0 : Hid (Below w.heap.size w w1) := Lib.hid (by rw [hw1]; exact below_new _ _)
  have HT1 : Hid (TabS w1) := Lib.hid (hT.on HB0.out)
  have s0 := HT1.out.sh 15 _ rfl
  have s1 := HT1.out.sh 16 _ rfl
  have s2 := HT1.out.sh 17 _ rfl
  have m0 : w1.cell? ⟨bo, 0, none⟩ = some (.int .i64 5) := by rw [← hk]; exact X1.out.cell (k := 0) rfl
  obtain ⟨w2, hw2⟩ : ∃ z, z = w1.alloc (.cells #[.bool true, .int .i64 0, .int .i64 0] 75) := ⟨_, rfl⟩
  obtain ⟨bs, hbs⟩ : ∃ z, z = w1.heap.size := ⟨_, rfl⟩
  have hb12 : Below w1.heap.size w1 w2 := by rw [hw2]; exact below_new _ _
  have XO0 : Hid (Box w2 bo 51 o.arr) := Lib.hid (X1.out.on hb12)
  have XS0 : Hid (Box w2 bs 75 #[.bool true, .int .i64 0, .int .i64 0]) := Lib.hid (by rw [hw2, hbs]; exact box_new)
  have HB2 : Hid (Below w.heap.size w w2) := Lib.hid (bch HB0.out hb12)
  have M1 : Hid (w2.cell? ⟨bo, 1, none⟩ = some (.string ⟨o.path.toArray⟩)) := Lib.hid (XO0.out.cell (k := 1) rfl)
  have M2 : Hid (w2.cell? ⟨bo, 2, none⟩ = some (.string ⟨o.to.toArray⟩)) := Lib.hid (XO0.out.cell (k := 2) rfl)
  have M3 : Hid (w2.cell? ⟨bo, 3, none⟩ = some (.string ⟨o.data.toArray⟩)) := Lib.hid (XO0.out.cell (k := 3) rfl)
  clear hT hb12
  by_cases hd : o.data = []
  · skip
    by_cases hv : validB o.path = true
    · skip
      by_cases hu : validB o.to = true
      · skip
        have HC : Hid (checkM o = 0) := Lib.hid (by unfold checkM mostM leastM; simp [hk, hd, hv, hu])
        have d1 : (o.data == []) = true := by simp [hd]
        have d2 : (o.data != []) = false := by simp [hd]
        have d3 : o.data.length = 0 := by simp [hd]
        have HP : Hid (∀ W, Calls Tryz.prog 50 #[.string ⟨o.path.toArray⟩] W (ChkR 0 W)) := Lib.hid (chk_is o.path hpl true hv)
        have HT : Hid (∀ W, Calls Tryz.prog 50 #[.string ⟨o.to.toArray⟩] W (ChkR 0 W)) := Lib.hid (chk_is o.to htl true hu)
        rw [HC.out]
        clear hk hd hv hu
        go_enter Tryz.func29, Tryz.ntmps29
        go_upto_region 1 with fail
        rw [← hw1, ← hbo]
        clear hw1 hbo
        go_upto_region 4 with fail
        rw [← hw2, ← hbs]
        clear hw2 hbs m0 s0 s1 s2
        have m1 := M1.out
        have m2 := M2.out
        have m3 := M3.out
        have g0 := XS0.out.cell (k := 0) rfl
        have g1 := XS0.out.cell (k := 1) rfl
        have g2 := XS0.out.cell (k := 2) rfl
        go_wp2_with fail
        refine (HP.out _).mono ?_
        rintro e wc0 ⟨rfl, hb0⟩
        have HC1 := Lib.hid (bch HB2.out hb0)
        obtain ⟨_, n1, n2, n3⟩ := keepO XO0.out hb0
        have XO1 := Lib.hid (XO0.out.on hb0)
        have XS1 := Lib.hid (XS0.out.on hb0)
        have g0 := XS1.out.cell (k := 0) rfl
        have g1 := XS1.out.cell (k := 1) rfl
        have g2 := XS1.out.cell (k := 2) rfl
        clear hb0
        go_wp2_with fail
        refine (HT.out _).mono ?_
        rintro e wc1 ⟨rfl, hb1⟩
        have HC2 := Lib.hid (bch HC1.out hb1)
        obtain ⟨_, n1, n2, n3⟩ := keepO XO1.out hb1
        have XO2 := Lib.hid (XO1.out.on hb1)
        have XS2 := Lib.hid (XS1.out.on hb1)
        have g0 := XS2.out.cell (k := 0) rfl
        have g1 := XS2.out.cell (k := 1) rfl
        have g2 := XS2.out.cell (k := 2) rfl
        clear hb1
        go_wp2_with fail
        go_ret
        exact ⟨rfl, HC2.out⟩
      · skip
        have HC : Hid (checkM o = 110) := Lib.hid (by unfold checkM mostM leastM; simp [hk, hd, hv, hu])
        have d1 : (o.data == []) = true := by simp [hd]
        have d2 : (o.data != []) = false := by simp [hd]
        have d3 : o.data.length = 0 := by simp [hd]
        have HP : Hid (∀ W, Calls Tryz.prog 50 #[.string ⟨o.path.toArray⟩] W (ChkR 0 W)) := Lib.hid (chk_is o.path hpl true hv)
        have HT : Hid (∀ W, Calls Tryz.prog 50 #[.string ⟨o.to.toArray⟩] W (ChkR 110 W)) := Lib.hid (chk_is o.to htl false (by simpa using hu))
        rw [HC.out]
        clear hk hd hv hu
        go_enter Tryz.func29, Tryz.ntmps29
        go_upto_region 1 with fail
        rw [← hw1, ← hbo]
        clear hw1 hbo
        go_upto_region 4 with fail
        rw [← hw2, ← hbs]
        clear hw2 hbs m0 s0 s1 s2
        have m1 := M1.out
        have m2 := M2.out
        have m3 := M3.out
        have g0 := XS0.out.cell (k := 0) rfl
        have g1 := XS0.out.cell (k := 1) rfl
        have g2 := XS0.out.cell (k := 2) rfl
        go_wp2_with fail
        refine (HP.out _).mono ?_
        rintro e wc0 ⟨rfl, hb0⟩
        have HC1 := Lib.hid (bch HB2.out hb0)
        obtain ⟨_, n1, n2, n3⟩ := keepO XO0.out hb0
        have XO1 := Lib.hid (XO0.out.on hb0)
        have XS1 := Lib.hid (XS0.out.on hb0)
        have g0 := XS1.out.cell (k := 0) rfl
        have g1 := XS1.out.cell (k := 1) rfl
        have g2 := XS1.out.cell (k := 2) rfl
        clear hb0
        go_wp2_with fail
        refine (HT.out _).mono ?_
        rintro e wc1 ⟨rfl, hb1⟩
        have HC2 := Lib.hid (bch HC1.out hb1)
        obtain ⟨_, n1, n2, n3⟩ := keepO XO1.out hb1
        have XO2 := Lib.hid (XO1.out.on hb1)
        have XS2 := Lib.hid (XS1.out.on hb1)
        have g0 := XS2.out.cell (k := 0) rfl
        have g1 := XS2.out.cell (k := 1) rfl
        have g2 := XS2.out.cell (k := 2) rfl
        clear hb1
        go_wp2_with fail
        go_ret
        exact ⟨rfl, HC2.out⟩
    · skip
      have HC : Hid (checkM o = 110) := Lib.hid (by unfold checkM mostM leastM; simp [hk, hd, hv])
      have d1 : (o.data == []) = true := by simp [hd]
      have d2 : (o.data != []) = false := by simp [hd]
      have d3 : o.data.length = 0 := by simp [hd]
      have HP : Hid (∀ W, Calls Tryz.prog 50 #[.string ⟨o.path.toArray⟩] W (ChkR 110 W)) := Lib.hid (chk_is o.path hpl false (by simpa using hv))
      rw [HC.out]
      clear hk hd hv
      go_enter Tryz.func29, Tryz.ntmps29
      go_upto_region 1 with fail
      rw [← hw1, ← hbo]
      clear hw1 hbo
      go_upto_region 4 with fail
      rw [← hw2, ← hbs]
      clear hw2 hbs m0 s0 s1 s2
      have m1 := M1.out
      have m2 := M2.out
      have m3 := M3.out
      have g0 := XS0.out.cell (k := 0) rfl
      have g1 := XS0.out.cell (k := 1) rfl
      have g2 := XS0.out.cell (k := 2) rfl
      go_wp2_with fail
      refine (HP.out _).mono ?_
      rintro e wc0 ⟨rfl, hb0⟩
      have HC1 := Lib.hid (bch HB2.out hb0)
      obtain ⟨_, n1, n2, n3⟩ := keepO XO0.out hb0
      have XO1 := Lib.hid (XO0.out.on hb0)
      have XS1 := Lib.hid (XS0.out.on hb0)
      have g0 := XS1.out.cell (k := 0) rfl
      have g1 := XS1.out.cell (k := 1) rfl
      have g2 := XS1.out.cell (k := 2) rfl
      clear hb0
      go_wp2_with fail
      go_ret
      exact ⟨rfl, HC1.out⟩
  · skip
    have HC : Hid (checkM o = 2) := Lib.hid (by unfold checkM mostM leastM; simp [hk, hd])
    have d1 : (o.data == []) = false := by simpa using hd
    have d2 : (o.data != []) = true := by simpa using hd
    rw [HC.out]
    clear hk hd
    go_enter Tryz.func29, Tryz.ntmps29
    go_upto_region 1 with fail
    rw [← hw1, ← hbo]
    clear hw1 hbo
    go_upto_region 4 with fail
    rw [← hw2, ← hbs]
    clear hw2 hbs m0 s0 s1 s2
    have m1 := M1.out
    have m2 := M2.out
    have m3 := M3.out
    have g0 := XS0.out.cell (k := 0) rfl
    have g1 := XS0.out.cell (k := 1) rfl
    have g2 := XS0.out.cell (k := 2) rfl
    go_wp2_with fail
    go_ret
    exact ⟨rfl, HB2.out⟩
set_option maxRecDepth 100000 in
set_option maxHeartbeats 4000000 in
theorem checkop_6 (o : Opn) (hk : o.kind = 6) (hpl : o.path.length ≤ 140737488355328) (_ : o.to.length ≤ 140737488355328) (w : World) (hT : TabS w) : Calls Tryz.prog 29 #[.agg o.arr] w (ChkR (checkM o) w) := by
  obtain ⟨w1, hw1⟩ : ∃ z, z = w.alloc (.cells o.arr 51) := ⟨_, rfl⟩
  obtain ⟨bo, hbo⟩ : ∃ z, z = w.heap.size := ⟨_, rfl⟩
  have X1 : Hid (Box w1 bo 51 o.arr) := Lib.hid (by rw [hw1, hbo]; exact box_new)
  have HB0 : Hid (Below w.heap.size w w1) := Lib.hid (by rw [hw1]; exact below_new _ _)
  have HT1 : Hid (TabS w1) := Lib.hid (hT.on HB0.out)
  have s0 := HT1.out.sh 18 _ rfl
  have s1 := HT1.out.sh 19 _ rfl
  have s2 := HT1.out.sh 20 _ rfl
  have m0 : w1.cell? ⟨bo, 0, none⟩ = some (.int .i64 6) := by rw [← hk]; exact X1.out.cell (k := 0) rfl
  obtain ⟨w2, hw2⟩ : ∃ z, z = w1.alloc (.cells #[.bool false, .int .i64 0, .int .i64 0] 75) := ⟨_, rfl⟩
  obtain ⟨bs, hbs⟩ : ∃ z, z = w1.heap.size := ⟨_, rfl⟩
  have hb12 : Below w1.heap.size w1 w2 := by rw [hw2]; exact below_new _ _
  have XO0 : Hid (Box w2 bo 51 o.arr) := Lib.hid (X1.out.on hb12)
  have XS0 : Hid (Box w2 bs 75 #[.bool false, .int .i64 0, .int .i64 0]) := Lib.hid (by rw [hw2, hbs]; exact box_new)
  have HB2 : Hid (Below w.heap.size w w2) := Lib.hid (bch HB0.out hb12)
  have M1 : Hid (w2.cell? ⟨bo, 1, none⟩ = some (.string ⟨o.path.toArray⟩)) := Lib.hid (XO0.out.cell (k := 1) rfl)
  have M2 : Hid (w2.cell? ⟨bo, 2, none⟩ = some (.string ⟨o.to.toArray⟩)) := Lib.hid (XO0.out.cell (k := 2) rfl)
  have M3 : Hid (w2.cell? ⟨bo, 3, none⟩ = some (.string ⟨o.data.toArray⟩)) := Lib.hid (XO0.out.cell (k := 3) rfl)
  clear hT hb12
  by_cases ht : o.to = []
  · skip
    by_cases hd : o.data = []
    · skip
      by_cases hv : validB o.path = true
      · skip
        have HC : Hid (checkM o = 0) := Lib.hid (by unfold checkM mostM leastM; simp [hk, ht, hd, hv])
        have e1 : (o.to == []) = true := by simp [ht]
        have e2 : (o.to != []) = false := by simp [ht]
        have d1 : (o.data == []) = true := by simp [hd]
        have d2 : (o.data != []) = false := by simp [hd]
        have d3 : o.data.length = 0 := by simp [hd]
        have HP : Hid (∀ W, Calls Tryz.prog 50 #[.string ⟨o.path.toArray⟩] W (ChkR 0 W)) := Lib.hid (chk_is o.path hpl true hv)
        rw [HC.out]
        clear hk ht hd hv
        go_enter Tryz.func29, Tryz.ntmps29
        go_upto_region 1 with fail
        rw [← hw1, ← hbo]
        clear hw1 hbo
        go_upto_region 4 with fail
        rw [← hw2, ← hbs]
        clear hw2 hbs m0 s0 s1 s2
        have m1 := M1.out
        have m2 := M2.out
        have m3 := M3.out
        have g0 := XS0.out.cell (k := 0) rfl
        have g1 := XS0.out.cell (k := 1) rfl
        have g2 := XS0.out.cell (k := 2) rfl
        go_wp2_with fail
        refine (HP.out _).mono ?_
        rintro e wc0 ⟨rfl, hb0⟩
        have HC1 := Lib.hid (bch HB2.out hb0)
        obtain ⟨_, n1, n2, n3⟩ := keepO XO0.out hb0
        have XO1 := Lib.hid (XO0.out.on hb0)
        have XS1 := Lib.hid (XS0.out.on hb0)
        have g0 := XS1.out.cell (k := 0) rfl
        have g1 := XS1.out.cell (k := 1) rfl
        have g2 := XS1.out.cell (k := 2) rfl
        clear hb0
        go_wp2_with fail
        go_ret
        exact ⟨rfl, HC1.out⟩
      · skip
        have HC : Hid (checkM o = 110) := Lib.hid (by unfold checkM mostM leastM; simp [hk, ht, hd, hv])
        have e1 : (o.to == []) = true := by simp [ht]
        have e2 : (o.to != []) = false := by simp [ht]
        have d1 : (o.data == []) = true := by simp [hd]
        have d2 : (o.data != []) = false := by simp [hd]
        have d3 : o.data.length = 0 := by simp [hd]
        have HP : Hid (∀ W, Calls Tryz.prog 50 #[.string ⟨o.path.toArray⟩] W (ChkR 110 W)) := Lib.hid (chk_is o.path hpl false (by simpa using hv))
        rw [HC.out]
        clear hk ht hd hv
        go_enter Tryz.func29, Tryz.ntmps29
        go_upto_region 1 with fail
        rw [← hw1, ← hbo]
        clear hw1 hbo
        go_upto_region 4 with fail
        rw [← hw2, ← hbs]
        clear hw2 hbs m0 s0 s1 s2
        have m1 := M1.out
        have m2 := M2.out
        have m3 := M3.out
        have g0 := XS0.out.cell (k := 0) rfl
        have g1 := XS0.out.cell (k := 1) rfl
        have g2 := XS0.out.cell (k := 2) rfl
        go_wp2_with fail
        refine (HP.out _).mono ?_
        rintro e wc0 ⟨rfl, hb0⟩
        have HC1 := Lib.hid (bch HB2.out hb0)
        obtain ⟨_, n1, n2, n3⟩ := keepO XO0.out hb0
        have XO1 := Lib.hid (XO0.out.on hb0)
        have XS1 := Lib.hid (XS0.out.on hb0)
        have g0 := XS1.out.cell (k := 0) rfl
        have g1 := XS1.out.cell (k := 1) rfl
        have g2 := XS1.out.cell (k := 2) rfl
        clear hb0
        go_wp2_with fail
        go_ret
        exact ⟨rfl, HC1.out⟩
    · skip
      have HC : Hid (checkM o = 2) := Lib.hid (by unfold checkM mostM leastM; simp [hk, ht, hd])
      have e1 : (o.to == []) = true := by simp [ht]
      have e2 : (o.to != []) = false := by simp [ht]
      have d1 : (o.data == []) = false := by simpa using hd
      have d2 : (o.data != []) = true := by simpa using hd
      rw [HC.out]
      clear hk ht hd
      go_enter Tryz.func29, Tryz.ntmps29
      go_upto_region 1 with fail
      rw [← hw1, ← hbo]
      clear hw1 hbo
      go_upto_region 4 with fail
      rw [← hw2, ← hbs]
      clear hw2 hbs m0 s0 s1 s2
      have m1 := M1.out
      have m2 := M2.out
      have m3 := M3.out
      have g0 := XS0.out.cell (k := 0) rfl
      have g1 := XS0.out.cell (k := 1) rfl
      have g2 := XS0.out.cell (k := 2) rfl
      go_wp2_with fail
      go_ret
      exact ⟨rfl, HB2.out⟩
  · skip
    have HC : Hid (checkM o = 2) := Lib.hid (by unfold checkM mostM leastM; simp [hk, ht])
    have e1 : (o.to == []) = false := by simpa using ht
    have e2 : (o.to != []) = true := by simpa using ht
    have e3 : ¬ (o.to = []) := ht
    rw [HC.out]
    clear hk ht
    go_enter Tryz.func29, Tryz.ntmps29
    go_upto_region 1 with fail
    rw [← hw1, ← hbo]
    clear hw1 hbo
    go_upto_region 4 with fail
    rw [← hw2, ← hbs]
    clear hw2 hbs m0 s0 s1 s2
    have m1 := M1.out
    have m2 := M2.out
    have m3 := M3.out
    have g0 := XS0.out.cell (k := 0) rfl
    have g1 := XS0.out.cell (k := 1) rfl
    have g2 := XS0.out.cell (k := 2) rfl
    go_wp2_with fail
    go_ret
    exact ⟨rfl, HB2.out⟩
set_option maxRecDepth 100000 in
set_option maxHeartbeats 4000000 in
theorem checkop_7 (o : Opn) (hk : o.kind = 7) (hpl : o.path.length ≤ 140737488355328) (_ : o.to.length ≤ 140737488355328) (w : World) (hT : TabS w) : Calls Tryz.prog 29 #[.agg o.arr] w (ChkR (checkM o) w) := by
  obtain ⟨w1, hw1⟩ : ∃ z, z = w.alloc (.cells o.arr 51) := ⟨_, rfl⟩
  obtain ⟨bo, hbo⟩ : ∃ z, z = w.heap.size := ⟨_, rfl⟩
  have X1 : Hid (Box w1 bo 51 o.arr) := Lib.hid (by rw [hw1, hbo]; exact box_new)
  have HB0 : Hid (Below w.heap.size w w1) := Lib.hid (by rw [hw1]; exact below_new _ _)
  have HT1 : Hid (TabS w1) := Lib.hid (hT.on HB0.out)
  have s0 := HT1.out.sh 21 _ rfl
  have s1 := HT1.out.sh 22 _ rfl
  have s2 := HT1.out.sh 23 _ rfl
  have m0 : w1.cell? ⟨bo, 0, none⟩ = some (.int .i64 7) := by rw [← hk]; exact X1.out.cell (k := 0) rfl
  obtain ⟨w2, hw2⟩ : ∃ z, z = w1.alloc (.cells #[.bool false, .int .i64 0, .int .i64 0] 75) := ⟨_, rfl⟩
  obtain ⟨bs, hbs⟩ : ∃ z, z = w1.heap.size := ⟨_, rfl⟩
  have hb12 : Below w1.heap.size w1 w2 := by rw [hw2]; exact below_new _ _
  have XO0 : Hid (Box w2 bo 51 o.arr) := Lib.hid (X1.out.on hb12)
  have XS0 : Hid (Box w2 bs 75 #[.bool false, .int .i64 0, .int .i64 0]) := Lib.hid (by rw [hw2, hbs]; exact box_new)
  have HB2 : Hid (Below w.heap.size w w2) := Lib.hid (bch HB0.out hb12)
  have M1 : Hid (w2.cell? ⟨bo, 1, none⟩ = some (.string ⟨o.path.toArray⟩)) := Lib.hid (XO0.out.cell (k := 1) rfl)
  have M2 : Hid (w2.cell? ⟨bo, 2, none⟩ = some (.string ⟨o.to.toArray⟩)) := Lib.hid (XO0.out.cell (k := 2) rfl)
  have M3 : Hid (w2.cell? ⟨bo, 3, none⟩ = some (.string ⟨o.data.toArray⟩)) := Lib.hid (XO0.out.cell (k := 3) rfl)
  clear hT hb12
  by_cases ht : o.to = []
  · skip
    by_cases hd : o.data = []
    · skip
      by_cases hv : validB o.path = true
      · skip
        have HC : Hid (checkM o = 0) := Lib.hid (by unfold checkM mostM leastM; simp [hk, ht, hd, hv])
        have e1 : (o.to == []) = true := by simp [ht]
        have e2 : (o.to != []) = false := by simp [ht]
        have d1 : (o.data == []) = true := by simp [hd]
        have d2 : (o.data != []) = false := by simp [hd]
        have d3 : o.data.length = 0 := by simp [hd]
        have HP : Hid (∀ W, Calls Tryz.prog 50 #[.string ⟨o.path.toArray⟩] W (ChkR 0 W)) := Lib.hid (chk_is o.path hpl true hv)
        rw [HC.out]
        clear hk ht hd hv
        go_enter Tryz.func29, Tryz.ntmps29
        go_upto_region 1 with fail
        rw [← hw1, ← hbo]
        clear hw1 hbo
        go_upto_region 4 with fail
        rw [← hw2, ← hbs]
        clear hw2 hbs m0 s0 s1 s2
        have m1 := M1.out
        have m2 := M2.out
        have m3 := M3.out
        have g0 := XS0.out.cell (k := 0) rfl
        have g1 := XS0.out.cell (k := 1) rfl
        have g2 := XS0.out.cell (k := 2) rfl
        go_wp2_with fail
        refine (HP.out _).mono ?_
        rintro e wc0 ⟨rfl, hb0⟩
        have HC1 := Lib.hid (bch HB2.out hb0)
        obtain ⟨_, n1, n2, n3⟩ := keepO XO0.out hb0
        have XO1 := Lib.hid (XO0.out.on hb0)
        have XS1 := Lib.hid (XS0.out.on hb0)
        have g0 := XS1.out.cell (k := 0) rfl
        have g1 := XS1.out.cell (k := 1) rfl
        have g2 := XS1.out.cell (k := 2) rfl
        clear hb0
        go_wp2_with fail
        go_ret
        exact ⟨rfl, HC1.out⟩
      · skip
        have HC : Hid (checkM o = 110) := Lib.hid (by unfold checkM mostM leastM; simp [hk, ht, hd, hv])
        have e1 : (o.to == []) = true := by simp [ht]
        have e2 : (o.to != []) = false := by simp [ht]
        have d1 : (o.data == []) = true := by simp [hd]
        have d2 : (o.data != []) = false := by simp [hd]
        have d3 : o.data.length = 0 := by simp [hd]
        have HP : Hid (∀ W, Calls Tryz.prog 50 #[.string ⟨o.path.toArray⟩] W (ChkR 110 W)) := Lib.hid (chk_is o.path hpl false (by simpa using hv))
        rw [HC.out]
        clear hk ht hd hv
        go_enter Tryz.func29, Tryz.ntmps29
        go_upto_region 1 with fail
        rw [← hw1, ← hbo]
        clear hw1 hbo
        go_upto_region 4 with fail
        rw [← hw2, ← hbs]
        clear hw2 hbs m0 s0 s1 s2
        have m1 := M1.out
        have m2 := M2.out
        have m3 := M3.out
        have g0 := XS0.out.cell (k := 0) rfl
        have g1 := XS0.out.cell (k := 1) rfl
        have g2 := XS0.out.cell (k := 2) rfl
        go_wp2_with fail
        refine (HP.out _).mono ?_
        rintro e wc0 ⟨rfl, hb0⟩
        have HC1 := Lib.hid (bch HB2.out hb0)
        obtain ⟨_, n1, n2, n3⟩ := keepO XO0.out hb0
        have XO1 := Lib.hid (XO0.out.on hb0)
        have XS1 := Lib.hid (XS0.out.on hb0)
        have g0 := XS1.out.cell (k := 0) rfl
        have g1 := XS1.out.cell (k := 1) rfl
        have g2 := XS1.out.cell (k := 2) rfl
        clear hb0
        go_wp2_with fail
        go_ret
        exact ⟨rfl, HC1.out⟩
    · skip
      have HC : Hid (checkM o = 2) := Lib.hid (by unfold checkM mostM leastM; simp [hk, ht, hd])
      have e1 : (o.to == []) = true := by simp [ht]
      have e2 : (o.to != []) = false := by simp [ht]
      have d1 : (o.data == []) = false := by simpa using hd
      have d2 : (o.data != []) = true := by simpa using hd
      rw [HC.out]
      clear hk ht hd
      go_enter Tryz.func29, Tryz.ntmps29
      go_upto_region 1 with fail
      rw [← hw1, ← hbo]
      clear hw1 hbo
      go_upto_region 4 with fail
      rw [← hw2, ← hbs]
      clear hw2 hbs m0 s0 s1 s2
      have m1 := M1.out
      have m2 := M2.out
      have m3 := M3.out
      have g0 := XS0.out.cell (k := 0) rfl
      have g1 := XS0.out.cell (k := 1) rfl
      have g2 := XS0.out.cell (k := 2) rfl
      go_wp2_with fail
      go_ret
      exact ⟨rfl, HB2.out⟩
  · skip
    have HC : Hid (checkM o = 2) := Lib.hid (by unfold checkM mostM leastM; simp [hk, ht])
    have e1 : (o.to == []) = false := by simpa using ht
    have e2 : (o.to != []) = true := by simpa using ht
    have e3 : ¬ (o.to = []) := ht
    rw [HC.out]
    clear hk ht
    go_enter Tryz.func29, Tryz.ntmps29
    go_upto_region 1 with fail
    rw [← hw1, ← hbo]
    clear hw1 hbo
    go_upto_region 4 with fail
    rw [← hw2, ← hbs]
    clear hw2 hbs m0 s0 s1 s2
    have m1 := M1.out
    have m2 := M2.out
    have m3 := M3.out
    have g0 := XS0.out.cell (k := 0) rfl
    have g1 := XS0.out.cell (k := 1) rfl
    have g2 := XS0.out.cell (k := 2) rfl
    go_wp2_with fail
    go_ret
    exact ⟨rfl, HB2.out⟩
end Go.Proofs.YtjbbnecegomkcaaGreatDoor

namespace Go.Proofs.YtjbbnecegomkcaaGreatDoor
open Go.RowKit Go.Shelf Go.Maps

/-- A value of a map is read as it is. -/
def RV (v : Value) : Option (DataW Value × List MemPlace) := some (.held v, [])
theorem wpList_insert_held (w : World) {ops : Array Oper} {rest : List Oper} {o : Oper} {a : Act} {Q : Exit → Act → World → Prop}
    (hg : o.guard = none) (m x v : Operand) (t : TypeId) (hop : o.op = Op.insert t m x v)
    (k e : TypeId) (K : Keyed Tryz.prog k) (ht : Tryz.prog.underlying t = some (.map k e)) (b n : Nat) (D : DataW Value)
    (hm : a.eval m = .map (some b)) (hown : w.ownsMap Tryz.prog k RV b n D) (hn : n < maxLen) (key val : Value) (kl : Lit) (hx : a.eval x = key) (hv : a.eval v = val) (hkey : keyOf Tryz.prog k key = some kl)
    (hK : ∀ w', w'.ownsMap Tryz.prog k RV b (n + 1) (D.put kl (.held val)) → w.grownBy w' (some b) → wpList Tryz.prog ops Q rest (a.put o.dst undef) w') :
    wpList Tryz.prog ops Q (o :: rest) a w := by
  refine wpList_plain hg fun K' hK' => ?_
  obtain ⟨w', hrun, r1, r2⟩ := hown.update K ht hn hkey (show RV val = some (.held val, []) from rfl)
  unfold Oper.wp
  simp [execOp, hop, hm, hx, hv, hrun, Result.andThen]
  exact hK' _ _ (hK w' r1 r2)
theorem law3 : Keyed Tryz.prog 3 := int_keyed Tryz.underlying3
/-- The method of a kind, on the growing tree in the box b. -/
def methV (b k : Nat) : Value := .func (.func (71 + k)) #[.pointer (some ⟨b, 0, none⟩)] #[]
def kindsD (b : Nat) : DataW Value := ((((((((DataW.map []).put (.int .i64 1) (.held (methV b 1))).put (.int .i64 2) (.held (methV b 2))).put (.int .i64 3) (.held (methV b 3))).put (.int .i64 4) (.held (methV b 4))).put (.int .i64 5) (.held (methV b 5))).put (.int .i64 6) (.held (methV b 6))).put (.int .i64 7) (.held (methV b 7)))
theorem run_makeMap (w : World) : (Instr.makeMap 83 none).run Tryz.prog w = .ok (.map (some w.heap.size)) (w.alloc (.map #[] 0)) := by
  simp [Instr.makeMap, Result.andThen]
theorem gr_below {B mb : Nat} {a w w' : World} (h : Below B a w) (hg : w.grownBy w' (some mb)) (hm : B ≤ mb) (ha : B ≤ w.heap.size := by exact (‹Below _ _ _›).size) : Below B a w' :=
  ⟨hg.os.trans h.os, hg.tape.trans h.tape, hg.output.trans h.output, Nat.le_trans h.size hg.size, fun k hk => (hg.block k (Nat.lt_of_lt_of_le hk ha) (fun e => by injection e with e; omega)).trans (h.block k hk)⟩
set_option maxRecDepth 100000 in
set_option maxHeartbeats 4000000 in
theorem kinds_any (b : Nat) (w : World) : Calls Tryz.prog 54 #[.pointer (some ⟨b, 0, none⟩)] w fun e w' => ∃ mb n, e = .returned (.map (some mb)) ∧ w.heap.size ≤ mb ∧ w'.ownsMap Tryz.prog 3 RV mb n (kindsD b) ∧ Below w.heap.size w w' := by
  have hmk := run_makeMap w
  obtain ⟨mb, hmb⟩ : ∃ z, z = w.heap.size := ⟨_, rfl⟩
  obtain ⟨w1, hw1⟩ : ∃ z, z = w.alloc (.map #[] 0) := ⟨_, rfl⟩
  have HM : Hid (w1.ownsMap Tryz.prog 3 RV mb 0 (.map [])) := Lib.hid (by rw [hw1, hmb]; exact World.ownsMap_made w Tryz.prog 3 RV)
  have HB : Hid (Below w.heap.size w w1) := Lib.hid (by rw [hw1]; exact below_new _ _)
  have HMB2 : Hid (w.heap.size ≤ mb) := Lib.hid (by rw [hmb]; exact Nat.le_refl _)
  rw [← hmb, ← hw1] at hmk
  clear hmb hw1
  go_enter Tryz.func54, Tryz.ntmps54
  go_wp2_with (first | (refine wpList_insert_held _ rfl _ _ _ 83 rfl 3 53 law3 Tryz.underlying83 mb _ _ rfl HM.out (by unfold maxLen; omega) (.int .i64 1) (methV b 1) (.int .i64 1) rfl rfl (by kernel_rfl) ?_; intro w' hm hg; have HB := Lib.hid (gr_below HB.out hg HMB2.out); have HM := Lib.hid hm; clear hm hg) | (refine wpList_insert_held _ rfl _ _ _ 83 rfl 3 53 law3 Tryz.underlying83 mb _ _ rfl HM.out (by unfold maxLen; omega) (.int .i64 2) (methV b 2) (.int .i64 2) rfl rfl (by kernel_rfl) ?_; intro w' hm hg; have HB := Lib.hid (gr_below HB.out hg HMB2.out); have HM := Lib.hid hm; clear hm hg) | (refine wpList_insert_held _ rfl _ _ _ 83 rfl 3 53 law3 Tryz.underlying83 mb _ _ rfl HM.out (by unfold maxLen; omega) (.int .i64 3) (methV b 3) (.int .i64 3) rfl rfl (by kernel_rfl) ?_; intro w' hm hg; have HB := Lib.hid (gr_below HB.out hg HMB2.out); have HM := Lib.hid hm; clear hm hg) | (refine wpList_insert_held _ rfl _ _ _ 83 rfl 3 53 law3 Tryz.underlying83 mb _ _ rfl HM.out (by unfold maxLen; omega) (.int .i64 4) (methV b 4) (.int .i64 4) rfl rfl (by kernel_rfl) ?_; intro w' hm hg; have HB := Lib.hid (gr_below HB.out hg HMB2.out); have HM := Lib.hid hm; clear hm hg) | (refine wpList_insert_held _ rfl _ _ _ 83 rfl 3 53 law3 Tryz.underlying83 mb _ _ rfl HM.out (by unfold maxLen; omega) (.int .i64 5) (methV b 5) (.int .i64 5) rfl rfl (by kernel_rfl) ?_; intro w' hm hg; have HB := Lib.hid (gr_below HB.out hg HMB2.out); have HM := Lib.hid hm; clear hm hg) | (refine wpList_insert_held _ rfl _ _ _ 83 rfl 3 53 law3 Tryz.underlying83 mb _ _ rfl HM.out (by unfold maxLen; omega) (.int .i64 6) (methV b 6) (.int .i64 6) rfl rfl (by kernel_rfl) ?_; intro w' hm hg; have HB := Lib.hid (gr_below HB.out hg HMB2.out); have HM := Lib.hid hm; clear hm hg) | (refine wpList_insert_held _ rfl _ _ _ 83 rfl 3 53 law3 Tryz.underlying83 mb _ _ rfl HM.out (by unfold maxLen; omega) (.int .i64 7) (methV b 7) (.int .i64 7) rfl rfl (by kernel_rfl) ?_; intro w' hm hg; have HB := Lib.hid (gr_below HB.out hg HMB2.out); have HM := Lib.hid hm; clear hm hg))
  go_ret
  exact ⟨mb, _, rfl, HMB2.out, HM.out, HB.out⟩
end Go.Proofs.YtjbbnecegomkcaaGreatDoor

namespace Go.Proofs.YtjbbnecegomkcaaGreatDoor
open Go.RowKit Go.Shelf Go.Maps

/-! ### Rows of operations -/
def Opn.cells (o : Opn) : List Value := [.int .i64 o.kind, .string ⟨o.path.toArray⟩, .string ⟨o.to.toArray⟩, .string ⟨o.data.toArray⟩]
def flatO (l : List Opn) : List Value := l.flatMap Opn.cells
theorem flat4 (l : List Opn) (j r : Nat) (hr : r < 4) : (flatO l)[j * 4 + r]? = (l[j]?).bind fun v => v.cells[r]? := by
  induction l generalizing j with
  | nil => simp [flatO]
  | cons v l ih =>
    have e : flatO (v :: l) = v.cells ++ flatO l := rfl
    have hl : v.cells.length = 4 := rfl
    cases j with
    | zero =>
      rw [e, Nat.zero_mul, Nat.zero_add, List.getElem?_append_left (by rw [hl]; exact hr)]
      rfl
    | succ j =>
      rw [e, List.getElem?_append_right (by rw [hl]; omega), hl, show (j + 1) * 4 + r - 4 = j * 4 + r by omega, ih]
      rfl
/-- A slice reads as these operations. -/
def RdO (w : World) (x : Value) (l : List Opn) : Prop := RdF w x l.length (flatO l)
structure OAt (w : World) (g o : Nat) (b : Opn) : Prop where
  c0 : w.cell? ⟨g, o, none⟩ = some (.int .i64 b.kind)
  c1 : w.cell? ⟨g, o + 1, none⟩ = some (.string ⟨b.path.toArray⟩)
  c2 : w.cell? ⟨g, o + 2, none⟩ = some (.string ⟨b.to.toArray⟩)
  c3 : w.cell? ⟨g, o + 3, none⟩ = some (.string ⟨b.data.toArray⟩)
theorem RdO.open {w : World} {x : Value} {l : List Opn} (h : RdO w x l) : ∃ a c, x = .slice a l.length c ∧ l.length ≤ c ∧ c ≤ maxLen ∧
    (0 < l.length → ∃ g o, a = some ⟨g, o, none⟩ ∧ g < w.heap.size ∧ ∀ (j : Nat) (b : Opn), l[j]? = some b → OAt w g (o + j * 4) b) := by
  obtain ⟨a, c, h1, h2, h3, h4⟩ := h
  refine ⟨a, c, h1, h2, h3, fun h0 => ?_⟩
  obtain ⟨g, o, e, hg, hc⟩ := h4 h0
  refine ⟨g, o, e, hg, fun j b hj => ?_⟩
  have key : ∀ r u, r < 4 → b.cells[r]? = some u → w.cell? ⟨g, o + j * 4 + r, none⟩ = some u := fun r u hr hu => by
    have := flat4 l j r hr
    rw [hj] at this
    rw [Nat.add_assoc]
    exact hc (j * 4 + r) u (this.trans hu)
  exact ⟨key 0 _ (by omega) rfl, key 1 _ (by omega) rfl, key 2 _ (by omega) rfl, key 3 _ (by omega) rfl⟩
theorem info26 (o : Opn) : (Tryz.prog.info? 51).map (·.size) = some o.arr.size := by
  show _ = some 4
  kernel_rfl

/-! ### What a step leaves alone -/
theorem Nxt.low {w A A' : World} {b B : Nat} {v v' : Value} {l : List It} (h : Below w.heap.size w A) (k : Nxt b v v' A A') (hG : Gr A B b v l) (hB : w.heap.size ≤ B) : Below w.heap.size w A' :=
  ⟨k.os.trans h.os, k.tape.trans h.tape, k.output.trans h.output, Nat.le_trans h.size k.size, fun x hx => (k.kept hG (x := x) (by omega)).trans (h.block x hx)⟩
theorem map_far {w w' : World} {mb n : Nat} {D : DataW Value} (h : w.ownsMap Tryz.prog 3 RV mb n D) (hh : w'.heap[mb]? = w.heap[mb]?) : w'.ownsMap Tryz.prog 3 RV mb n D := by
  obtain ⟨es, clock, hb, F, hs, hD⟩ := h
  exact ⟨es, clock, hh.trans hb, F, hs, hD⟩
theorem map_nxt {w w' : World} {mb n b B : Nat} {v v' : Value} {l : List It} {D : DataW Value} (h : w.ownsMap Tryz.prog 3 RV mb n D) (k : Nxt b v v' w w') (hG : Gr w B b v l) : w'.ownsMap Tryz.prog 3 RV mb n D := by
  refine map_far h ?_
  obtain ⟨es, clock, hb, _⟩ := id h
  refine k.block mb h.lt (fun e => ?_) (fun e => ?_)
  · subst e
    rw [show w.heap[mb]? = _ from hG.box] at hb
    cases hb
  · rcases own_form hG.own with ⟨_, q⟩ | ⟨r, c, _, _, _, q, cs, t, hcs⟩
    · rw [q] at e; cases e
    · rw [q] at e; cases e
      rw [hcs] at hb
      cases hb
set_option maxRecDepth 100000 in
theorem look_meth {w : World} {mb n b : Nat} (h : w.ownsMap Tryz.prog 3 RV mb n (kindsD b)) (k : Nat) (v : Value) (hk : keyOf Tryz.prog 3 (.int .i64 k) = some (.int .i64 k)) (hv : ∀ zd, (kindsD b).atKey (.int .i64 k) zd = .held v) : (Instr.lookup 83 (.map (some mb)) (.int .i64 (k : Int)) false).run Tryz.prog w = .ok v w := by
  obtain ⟨v', ps, hrun, hR⟩ := h.lookup law3 Tryz.underlying83 (z := .nilFunc) (Tryz.zeroValue53 w) (zd := .held .nilFunc) (zp := []) rfl hk
  rw [hv] at hR
  injection hR with hR
  injection hR with hR _
  injection hR with hR
  rw [hrun, hR]

/-! ### The methods, by one name -/
theorem does_any (B b : Nat) (v : Value) (l : List It) (o : Opn) (k : Nat) (hk : o.kind = k) (hc : ChkOk o) (w : World) (hG : Gr w B b v l) (h : TreeOk l) (hT : Tabs w) : Calls Tryz.prog (71 + k) #[.pointer (some ⟨b, 0, none⟩), .agg o.arr] w (GrR B b v l (doesM l o) w) := by
  have hr : k = 1 ∨ k = 2 ∨ k = 3 ∨ k = 4 ∨ k = 5 ∨ k = 6 ∨ k = 7 := by have := hc.kind; omega
  rcases hr with rfl | rfl | rfl | rfl | rfl | rfl | rfl
  · have e : doesM l o = addM l ⟨o.path, 1, []⟩ := by unfold doesM; rw [if_pos (by omega)]
    rw [e]
    exact mkdir_any B b v l o w hG h hc.path hT
  · have e : doesM l o = writeM l o.path o.data := by unfold doesM; rw [if_neg (by omega), if_pos (by omega)]
    rw [e]
    exact write_any B b v l o w hG h hc.path hT
  · have e : doesM l o = extendM l o.path o.data := by unfold doesM; rw [if_neg (by omega), if_neg (by omega), if_pos (by omega)]
    rw [e]
    refine extend_any B b v l o w hG h hc.path hT ?_
    have := hc.data
    unfold mostM at this
    rw [if_pos (by omega)] at this
    exact this
  · have e : doesM l o = addM l ⟨o.path, 3, o.data⟩ := by unfold doesM; rw [if_neg (by omega), if_neg (by omega), if_neg (by omega), if_pos (by omega)]
    rw [e]
    exact link_any B b v l o w hG h hc.path hT
  · have e : doesM l o = moveM l o.path o.to := by unfold doesM; rw [if_neg (by omega), if_neg (by omega), if_neg (by omega), if_neg (by omega), if_pos (by omega)]
    rw [e]
    exact move_any B b v l o w hG h hc.path hT (hc.to (by omega))
  · have e : doesM l o = unlinkM l o.path := by unfold doesM; rw [if_neg (by omega), if_neg (by omega), if_neg (by omega), if_neg (by omega), if_neg (by omega), if_pos (by omega)]
    rw [e]
    exact unlink_any B b v l o w hG h hc.path hT
  · have e : doesM l o = rmdirM l o.path := by unfold doesM; rw [if_neg (by omega), if_neg (by omega), if_neg (by omega), if_neg (by omega), if_neg (by omega), if_neg (by omega)]
    rw [e]
    exact rmdir_any B b v l o w hG h hc.path hT

set_option maxRecDepth 100000 in
set_option maxHeartbeats 1000000 in
theorem checkop_no (o : Opn) (hk : o.kind < 1 ∨ 7 < o.kind) (w : World) : Calls Tryz.prog 29 #[.agg o.arr] w (ChkR (checkM o) w) := by
  have HC : Hid (checkM o = 2) := Lib.hid (by unfold checkM; rw [if_pos hk])
  obtain ⟨w1, hw1⟩ : ∃ z, z = w.alloc (.cells o.arr 51) := ⟨_, rfl⟩
  obtain ⟨bo, hbo⟩ : ∃ z, z = w.heap.size := ⟨_, rfl⟩
  have X1 : Hid (Box w1 bo 51 o.arr) := Lib.hid (by rw [hw1, hbo]; exact box_new)
  have HB0 : Hid (Below w.heap.size w w1) := Lib.hid (by rw [hw1]; exact below_new _ _)
  have m0 : w1.cell? ⟨bo, 0, none⟩ = some (.int .i64 o.kind) := X1.out.cell (k := 0) rfl
  rw [HC.out]
  rcases hk with hk | hk
  · have d1 : o.kind < 1 := hk
    go_enter Tryz.func29, Tryz.ntmps29
    go_upto_region 1 with fail
    rw [← hw1, ← hbo]
    clear hw1 hbo
    go_wp2_with fail
    go_ret
    exact ⟨rfl, HB0.out⟩
  · have d1 : ¬ o.kind < 1 := by omega
    have d2 : 7 < o.kind := hk
    go_enter Tryz.func29, Tryz.ntmps29
    go_upto_region 1 with fail
    rw [← hw1, ← hbo]
    clear hw1 hbo
    go_wp2_with fail
    go_ret
    exact ⟨rfl, HB0.out⟩
theorem checkop_any (o : Opn) (hpl : o.path.length ≤ 140737488355328) (htl : o.to.length ≤ 140737488355328) (w : World) (hT : TabS w) : Calls Tryz.prog 29 #[.agg o.arr] w (ChkR (checkM o) w) := by
  by_cases h : o.kind < 1 ∨ 7 < o.kind
  · exact checkop_no o h w
  · have hr : o.kind = 1 ∨ o.kind = 2 ∨ o.kind = 3 ∨ o.kind = 4 ∨ o.kind = 5 ∨ o.kind = 6 ∨ o.kind = 7 := by omega
    rcases hr with e | e | e | e | e | e | e
    · exact checkop_1 o e hpl htl w hT
    · exact checkop_2 o e hpl htl w hT
    · exact checkop_3 o e hpl htl w hT
    · exact checkop_4 o e hpl htl w hT
    · exact checkop_5 o e hpl htl w hT
    · exact checkop_6 o e hpl htl w hT
    · exact checkop_7 o e hpl htl w hT

def RunR (l : List It) (ops : List Opn) (w : World) (e : Ending) (w' : World) : Prop :=
  Below w.heap.size w w' ∧ ((validT l = false ∧ e = .returned (.tuple #[.agg #[.slice none 0 0], .int .i64 0, .int .i64 160])) ∨
    (validT l = true ∧ ∃ v', e = .returned (.tuple #[.agg #[v'], .int .i64 ((runM l ops).2.1 : Nat), .int .i64 (runM l ops).2.2]) ∧ OwnI w' w.heap.size v' (runM l ops).1))
theorem results_three {P : Program} {fn : Func} {p q r : Tmp} {ty : TypeId} (h : fn.results = #[.cell p ty, .tmp q, .tmp r]) (tmps : Array Value) (w : World) (g : Nat) (hp : tmps.getD p undef = .pointer (some ⟨g, 0, none⟩)) (cs : Array Value) (hr : (loadVar ty ⟨g, 0, none⟩).run P w = .ok (.agg cs) w) :
    (results fn tmps).run P w = .ok (.tuple #[.agg cs, tmps.getD q undef, tmps.getD r undef]) w := by
  have e : tmps[p]?.getD undef = .pointer (some ⟨g, 0, none⟩) := by rw [← hp]; simp
  simp [results, h, e, asAddr, hr]
theorem end_tree {fn : Func} {p q r : Tmp} (h : fn.results = #[.cell p 24, .tmp q, .tmp r]) (tmps : Array Value) {w : World} {g : Nat} {v : Value} (X : Box w g 24 #[v]) (hp : tmps.getD p undef = .pointer (some ⟨g, 0, none⟩)) {x y : Value} (hq : tmps.getD q undef = x) (hr : tmps.getD r undef = y) :
    (results fn tmps).run Tryz.prog w = .ok (.tuple #[.agg #[v], x, y]) w := by
  rw [← hq, ← hr]
  exact results_three h tmps w g hp #[v] (run_loadVar_row _ g 24 24 #[v] (0, 0) _ X Tryz.underlying24 rfl (info24 v))

set_option maxRecDepth 100000 in
set_option maxHeartbeats 8000000 in
theorem run_any (l : List It) (v : Value) (ops : List Opn) (vo : Value) (w : World) (hv : RdI w v l) (hx : ∀ x ∈ l, x.path.length ≤ 140737488355328) (ho : RdO w vo ops) (hso : ∀ o ∈ ops, o.path.length ≤ 140737488355328 ∧ o.to.length ≤ 140737488355328) (hT : TabS w) :
    Calls Tryz.prog 31 #[.agg #[v], vo] w (RunR l ops w) := by
  obtain ⟨w1, hw1⟩ : ∃ z, z = (w.alloc (.cells #[v] 24)).alloc (.cells #[.slice none 0 0] 24) := ⟨_, rfl⟩
  obtain ⟨b2, hb2⟩ : ∃ z, z = w.heap.size := ⟨_, rfl⟩
  have X2 : Hid (Box w1 b2 24 #[v]) := Lib.hid (by rw [hw1, hb2]; exact box_new.alloc _)
  have X4 : Hid (Box w1 (b2 + 1) 24 #[.slice none 0 0]) := Lib.hid (by rw [hw1, hb2, show w.heap.size + 1 = (w.alloc (.cells #[v] 24)).heap.size from by simp]; exact box_new)
  have HB1 : Hid (Below w.heap.size w w1) := Lib.hid (by rw [hw1]; exact bch (below_new _ _) (below_new _ _))
  have HVA : Hid (∀ bb, bb = validT l → Calls Tryz.prog 38 #[v] w1 fun e w' => e = .returned (.bool bb) ∧ Below w1.heap.size w1 w') := Lib.hid (fun bb hbb => tvalid_is l bb hbb v w1 (hv.on HB1.out) hx (hT.on HB1.out).tab)
  obtain ⟨a, c, rfl, _⟩ := hv.open
  obtain ⟨ao, co, rfl, hmc, hcm, _⟩ := ho.open
  have hmM : ops.length ≤ 9223372036854775807 := Nat.le_trans (Nat.le_trans hmc hcm) (by decide)
  clear hmc hcm
  have HV := Lib.hid hv
  have HRO := Lib.hid ho
  have HT := Lib.hid hT
  have HSO := Lib.hid hso
  have HBE1 : Hid (w.heap.size ≤ b2) := Lib.hid (by rw [hb2]; exact Nat.le_refl _)
  obtain ⟨n, hn⟩ : ∃ n, n = l.length := ⟨_, rfl⟩
  rw [← hn] at HV X2 HVA hw1 ⊢
  have HN := Lib.hid hn
  obtain ⟨m, hm⟩ : ∃ m, m = ops.length := ⟨_, rfl⟩
  rw [← hm] at HRO hmM ⊢
  have HM := Lib.hid hm
  have p0 : w1.cell? ⟨b2, 0, none⟩ = some (.slice a n c) := X2.out.cell (k := 0) rfl
  clear hv ho hT hso hn hm
  obtain ⟨bb, hbb⟩ : ∃ bb, bb = validT l := ⟨_, rfl⟩
  have HV0 := Lib.hid (HVA.out bb hbb)
  have HBB := Lib.hid hbb
  clear hbb HVA
  cases bb with
  | false =>
    go_enter Tryz.func31, Tryz.ntmps31
    go_wp2_with fail
    go_step3
    rw [← hw1, ← hb2]
    clear hw1 hb2
    go_wp2_with fail
    refine HV0.out.mono ?_
    rintro e w2 ⟨rfl, hb⟩
    have X42 := Lib.hid (X4.out.on hb)
    have HB2 := Lib.hid (bch HB1.out hb)
    clear hb p0
    go_wp2_with (refine wpList_store_row rfl 24 (.tmp 4) (.tmp 17) rfl (b2 + 1) #[.slice none 0 0] rfl rfl 24 _ X42.out (info24 _) rfl (slice_one _ _ _) ?_)
    rw [Exit.noGoto_ret]
    exact bodyPost_ret (end_tree rfl _ (X42.out.row _) rfl rfl rfl) rfl ⟨below_row HB2.out (by have := HBE1.out; omega) _, .inl ⟨HBB.out.symm, rfl⟩⟩
  | true =>
    have HOK : Hid (TreeOk l) := Lib.hid (tree_ok HBB.out.symm)
    obtain ⟨B, hB⟩ : ∃ z, z = w1.heap.size := ⟨_, rfl⟩
    have hB2 : b2 + 1 < B := by rw [hB]; exact X4.out.lt
    have hBw : w.heap.size ≤ B := by rw [hB]; exact HB1.out.size
    have hB6 : 3 ≤ B := by have := HT.out.tab.one; omega
    have hbw := HBE1.out
    have FIN : Hid (∀ W v' lk (many : Nat) (e : Int), runM l ops = (lk, many, e) → OwnI W B v' lk → Below w.heap.size w W → RunR l ops w (.returned (.tuple #[.agg #[v'], .int .i64 many, .int .i64 e])) (W.setRow (b2 + 1) #[v'])) := Lib.hid (fun W v' lk many e h1 hO h3 => by
      refine ⟨below_row h3 (by omega) _, .inr ⟨HBB.out.symm, v', by rw [h1], ?_⟩⟩
      rw [h1]
      refine own_base (B := B) (hO.far fun k hk => setRow_other W (b2 + 1) k _ (fun e => ?_)) hBw
      rcases own_form hO with ⟨_, q⟩ | ⟨r, cc, _, hr, _, q, _⟩
      · rw [q] at hk; cases hk
      · rw [q] at hk; cases hk; omega)
    go_enter Tryz.func31, Tryz.ntmps31
    go_wp2_with fail
    go_step3
    rw [← hw1, ← hb2]
    clear hw1 hb2
    go_wp2_with fail
    refine HV0.out.mono ?_
    rintro e w2 ⟨rfl, hb⟩
    have X22 := Lib.hid (X2.out.on hb)
    have X42 := Lib.hid (X4.out.on hb)
    have HB2 := Lib.hid (bch HB1.out hb)
    have hs2 : B ≤ w2.heap.size := by rw [hB]; exact hb.size
    have HCL := Lib.hid (clone_any l (.slice a n c) w2 (HV.out.on HB2.out) (Nat.le_trans HOK.out.many (by decide)))
    have p2 : w2.cell? ⟨b2, 0, none⟩ = some (.slice a n c) := X22.out.cell (k := 0) rfl
    have HBQ : Hid (B = w1.heap.size) := Lib.hid hB
    clear hb p0 hB
    go_wp2_with fail
    refine HCL.out.mono ?_
    rintro e w3 ⟨x', rfl, hown, hb3⟩
    have hO3 : OwnI w3 B x' l := own_base hown hs2
    have X43 := X42.out.on hb3
    have HB3 := bch HB2.out hb3
    have hs3 : B ≤ w3.heap.size := Nat.le_trans hs2 hb3.size
    obtain ⟨a3, n3, c3, rfl⟩ := own_any hO3
    obtain ⟨b7, hb7⟩ : ∃ z, z = w3.heap.size := ⟨_, rfl⟩
    obtain ⟨w4, hw4⟩ : ∃ z, z = w3.alloc (.cells #[.slice a3 n3 c3] 82) := ⟨_, rfl⟩
    have hb34 : Below w3.heap.size w3 w4 := by rw [hw4]; exact below_new _ _
    have HG4 : Hid (Gr w4 B b7 (.slice a3 n3 c3) l) := Lib.hid ⟨by rw [hw4, hb7]; exact box_new, hO3.on hb34, by rw [hb7]; exact own_apart hO3, by rw [hb7]; exact hs3⟩
    have X44 := Lib.hid (X43.on hb34)
    have HB4 := Lib.hid (bch HB3 hb34)
    have HKN := Lib.hid (kinds_any b7 w4)
    clear hown hb3 hO3 X43 HB3 hs3 hs2 hb34 p2 HCL X22
    go_upto_region 4 with fail
    rw [← hw4, ← hb7]
    clear hw4 hb7
    go_wp2_with fail
    refine HKN.out.mono ?_
    rintro e w5 ⟨mb, nm, rfl, _, hmap, hb5⟩
    have HG5 := Lib.hid (HG4.out.on hb5)
    have X45 := Lib.hid (X44.out.on hb5)
    have HB5 := Lib.hid (bch HB4.out hb5)
    have HM5 := Lib.hid hmap
    have HR5 : Hid (runM l ops = ((runM l (ops.drop 0)).1, (runM l (ops.drop 0)).2.1 + 0, (runM l (ops.drop 0)).2.2)) := Lib.hid rfl
    clear hmap hb5 HKN
    go_wp2_with fail
    go_step3
    go_wp2_with fail
    go_loopw [9, 10, 25] (fun d e i wr => ∃ (k : Nat) (lk : List It) (v' : Value), d = .int .i64 k ∧ e = .int .i64 0 ∧ i = .int .i64 k ∧ k ≤ m ∧ Hid (TreeOk lk) ∧ Hid (runM l ops = ((runM lk (ops.drop k)).1, (runM lk (ops.drop k)).2.1 + k, (runM lk (ops.drop k)).2.2)) ∧ Hid (Gr wr B b7 v' lk) ∧ Hid (Below w.heap.size w wr) ∧ Hid (wr.ownsMap Tryz.prog 3 RV mb nm (kindsD b7)) ∧ Hid (Box wr (b2 + 1) 24 #[.slice none 0 0])) (fun _ _ i _ => m - (Lib.intOf i).toNat)
    case atStart => exact ⟨0, l, _, rfl, rfl, rfl, Nat.zero_le _, HOK, HR5, HG5, HB5, HM5, X45⟩
    case round =>
      obtain ⟨k, lk, v', rfl, rfl, rfl, hkm, HOk, HRk, HGk, HBk, HMk, HXk⟩ := hrel
      obtain ⟨wq, hwq⟩ : ∃ q, q = wr := ⟨_, rfl⟩
      rw [← hwq] at HGk HBk HMk HXk ⊢
      clear hwq
      by_cases hlt : k < m
      · obtain ⟨o, hko⟩ : ∃ o, ops[k]? = some o := ⟨_, List.getElem?_eq_getElem (by rw [← HM.out]; exact hlt)⟩
        have hdrop : ops.drop k = o :: ops.drop (k + 1) := by
          obtain ⟨h1, h2⟩ := List.getElem?_eq_some_iff.1 hko
          rw [List.drop_eq_getElem_cons h1, h2]
        have HDR := Lib.hid hdrop
        obtain ⟨hs1, hs2⟩ := HSO.out o (List.mem_of_getElem? hko)
        have hRq : RdO wq (.slice ao m co) ops := by
          have := HRO.out
          rw [HM.out] at this ⊢
          exact RdF.on this HBk.out
        obtain ⟨a', c', e, _, _, hc⟩ := hRq.open
        rw [← HM.out] at e
        cases e
        obtain ⟨g, oo, rfl, hg, hc⟩ := hc (by rw [← HM.out]; omega)
        obtain ⟨q0, q1, q2, q3⟩ := hc k o hko
        have HTq : Hid (TabS wq) := Lib.hid (HT.out.on HBk.out)
        obtain ⟨w6, hw6⟩ : ∃ z, z = wq.alloc (.cells o.arr 51) := ⟨_, rfl⟩
        obtain ⟨bo, hbo⟩ : ∃ z, z = wq.heap.size := ⟨_, rfl⟩
        have hb6 : Below wq.heap.size wq w6 := by rw [hw6]; exact below_new _ _
        have XO6 : Hid (Box w6 bo 51 o.arr) := Lib.hid (by rw [hw6, hbo]; exact box_new)
        obtain ⟨z, hz⟩ : ∃ z, z = checkM o := ⟨_, rfl⟩
        have HZ := Lib.hid hz
        have HCK : Hid (Calls Tryz.prog 29 #[.agg #[.int .i64 o.kind, .string ⟨o.path.toArray⟩, .string ⟨o.to.toArray⟩, .string ⟨o.data.toArray⟩]] w6 (ChkR z w6)) := Lib.hid (by rw [hz]; exact checkop_any o hs1 hs2 w6 (HTq.out.on hb6))
        have HG6 := Lib.hid (HGk.out.on hb6)
        have HB6 := Lib.hid (bch HBk.out hb6)
        have HM6 : Hid (w6.ownsMap Tryz.prog 3 RV mb nm (kindsD b7)) := Lib.hid (map_far HMk.out (hb6.block mb HMk.out.lt))
        have HX6 := Lib.hid (HXk.out.on hb6)
        have HT6 := Lib.hid (HTq.out.on hb6)
        have m0 : w6.cell? ⟨bo, 0, none⟩ = some (.int .i64 o.kind) := XO6.out.cell (k := 0) rfl
        have m1 : w6.cell? ⟨bo, 1, none⟩ = some (.string ⟨o.path.toArray⟩) := XO6.out.cell (k := 1) rfl
        have m2 : w6.cell? ⟨bo, 2, none⟩ = some (.string ⟨o.to.toArray⟩) := XO6.out.cell (k := 2) rfl
        have m3 : w6.cell? ⟨bo, 3, none⟩ = some (.string ⟨o.data.toArray⟩) := XO6.out.cell (k := 3) rfl
        have k1 : (k : Int) < (m : Int) := by omega
        have k2 : (0 : Int) ≤ (k : Int) := by omega
        have hw6' : w6 = wq.alloc (.cells #[.int .i64 o.kind, .string ⟨o.path.toArray⟩, .string ⟨o.to.toArray⟩, .string ⟨o.data.toArray⟩] 51) := hw6
        clear hko hdrop hs1 hs2 hRq hc hg hz hb6 hw6
        go_upto_region 9 with fail
        rw [← hw6', ← hbo]
        clear hw6' hbo q0 q1 q2 q3
        go_wp2_with fail
        refine HCK.out.mono ?_
        rintro e w7 ⟨rfl, hb⟩
        have XO7 := Lib.hid (XO6.out.on hb)
        have HG7 := Lib.hid (HG6.out.on hb)
        have HB7 := Lib.hid (bch HB6.out hb)
        have HM7 : Hid (w7.ownsMap Tryz.prog 3 RV mb nm (kindsD b7)) := Lib.hid (map_far HM6.out (hb.block mb HM6.out.lt))
        have HX7 := Lib.hid (HX6.out.on hb)
        have HT7 := Lib.hid (HT6.out.on hb)
        clear hb m0 m1 m2 m3 HCK
        by_cases hz0 : z = 0
        · have hck : checkM o = 0 := by rw [← HZ.out]; exact hz0
          have HCO := Lib.hid (chk_ok hck)
          obtain ⟨j, hj⟩ : ∃ j : Nat, o.kind = j := ⟨o.kind.toNat, by have := HCO.out.kind; omega⟩
          obtain ⟨r, hr⟩ : ∃ r, r = doesM lk o := ⟨_, rfl⟩
          have HACT : Hid (actM lk o = r) := Lib.hid (by unfold actM; rw [if_neg (by simpa using hck), hr])
          have HME : Hid (Calls Tryz.prog (71 + j) #[.pointer (some ⟨b7, 0, none⟩), .agg #[.int .i64 o.kind, .string ⟨o.path.toArray⟩, .string ⟨o.to.toArray⟩, .string ⟨o.data.toArray⟩]] w7 (GrR B b7 v' lk r w7)) := Lib.hid (by rw [hr]; exact does_any B b7 v' lk o j hj HCO.out w7 HG7.out HOk.out HT7.out.tab)
          have HJ := Lib.hid hj
          have hj7 : j = 1 ∨ j = 2 ∨ j = 3 ∨ j = 4 ∨ j = 5 ∨ j = 6 ∨ j = 7 := by have := HCO.out.kind; omega
          have n0 : w7.cell? ⟨bo, 0, none⟩ = some (.int .i64 (j : Int)) := by rw [← hj]; exact XO7.out.cell (k := 0) rfl
          have n1 : w7.cell? ⟨bo, 1, none⟩ = some (.string ⟨o.path.toArray⟩) := XO7.out.cell (k := 1) rfl
          have n2 : w7.cell? ⟨bo, 2, none⟩ = some (.string ⟨o.to.toArray⟩) := XO7.out.cell (k := 2) rfl
          have n3 : w7.cell? ⟨bo, 3, none⟩ = some (.string ⟨o.data.toArray⟩) := XO7.out.cell (k := 3) rfl
          rw [hj] at HME
          subst hz0
          have HLO : Hid ((Instr.lookup 83 (.map (some mb)) (.int .i64 (j : Int)) false).run Tryz.prog w7 = .ok (.func (.func (71 + j)) #[.pointer (some ⟨b7, 0, none⟩)] #[]) w7) := Lib.hid (by
            rcases hj7 with rfl | rfl | rfl | rfl | rfl | rfl | rfl
            · exact look_meth HM7.out 1 _ (by kernel_rfl) (fun _ => rfl)
            · exact look_meth HM7.out 2 _ (by kernel_rfl) (fun _ => rfl)
            · exact look_meth HM7.out 3 _ (by kernel_rfl) (fun _ => rfl)
            · exact look_meth HM7.out 4 _ (by kernel_rfl) (fun _ => rfl)
            · exact look_meth HM7.out 5 _ (by kernel_rfl) (fun _ => rfl)
            · exact look_meth HM7.out 6 _ (by kernel_rfl) (fun _ => rfl)
            · exact look_meth HM7.out 7 _ (by kernel_rfl) (fun _ => rfl))
          clear hck hj hr
          rcases hj7 with rfl | rfl | rfl | rfl | rfl | rfl | rfl
          · have L : (Instr.lookup 83 (.map (some mb)) (.int .i64 1) false).run Tryz.prog w7 = .ok (.func (.func 72) #[.pointer (some ⟨b7, 0, none⟩)] #[]) w7 := HLO.out
            have n0' : w7.cell? ⟨bo, 0, none⟩ = some (.int .i64 1) := n0
            have HME' : Hid (Calls Tryz.prog 72 #[.pointer (some ⟨b7, 0, none⟩), .agg #[.int .i64 1, .string ⟨o.path.toArray⟩, .string ⟨o.to.toArray⟩, .string ⟨o.data.toArray⟩]] w7 (GrR B b7 v' lk r w7)) := HME
            clear n0 HME HLO HJ
            go_wp2_with fail
            refine HME'.out.mono ?_
            rintro e w8 ⟨v8, rfl, hG8, hN8⟩
            have HG8 := Lib.hid hG8
            have HB8 := Lib.hid (Nxt.low HB7.out hN8 HG7.out hBw)
            have HM8 := Lib.hid (map_nxt HM7.out hN8 HG7.out)
            have HX8 : Hid (Box w8 (b2 + 1) 24 #[.slice none 0 0]) := Lib.hid ((hN8.kept HG7.out (x := b2 + 1) hB2).trans HX7.out)
            clear hG8 hN8 n0' n1 n2 n3 L
            cases r with
            | error z =>
              have hz : z ≠ 0 := act_err HACT.out
              have t1 : (z == 0) = false := by simpa using hz
              have t2 : (z != 0) = true := by simpa using hz
              have HRE : Hid (runM l ops = (lk, k, z)) := Lib.hid (by rw [HRk.out, HDR.out, run_no HACT.out]; simp)
              have HGE : Hid (Gr w8 B b7 v8 lk) := HG8
              have HBE := HB8
              have XE := HX8
              obtain ⟨av, nv, cv, rfl⟩ := own_any HG8.out.own
              have pg : w8.cell? ⟨b7, 0, none⟩ = some (.slice av nv cv) := HG8.out.box.cell (k := 0) rfl
              simp only [resO]
              clear hz
              go_wp2_with (refine wpList_store_row rfl 24 (.tmp 4) (.tmp 46) rfl (b2 + 1) #[.slice av nv cv] rfl rfl 24 _ XE.out (info24 _) rfl (slice_one _ _ _) ?_)
              rw [Exit.noGoto_ret]
              refine bodyPost_ret ?_ rfl (FIN.out _ _ _ _ _ HRE.out HGE.out.own HBE.out)
              exact end_tree rfl _ (XE.out.row _) rfl rfl rfl
            | ok l' =>
              have HOk' : Hid (TreeOk l') := Lib.hid (act_goes HOk.out HACT.out).2.ok
              have HRk' : Hid (runM l ops = ((runM l' (ops.drop (k + 1))).1, (runM l' (ops.drop (k + 1))).2.1 + (k + 1), (runM l' (ops.drop (k + 1))).2.2)) := Lib.hid (by rw [HRk.out, HDR.out, run_yes HACT.out]; simp; omega)
              simp only [resO]
              go_wp2_with fail
              go_roundw
              case rel => exact ⟨k + 1, l', v8, by go_num, rfl, by go_num, hlt, HOk', HRk', HG8, HB8, HM8, HX8⟩
              case measure => simp [Lib.intOf]; omega
          · have L : (Instr.lookup 83 (.map (some mb)) (.int .i64 2) false).run Tryz.prog w7 = .ok (.func (.func 73) #[.pointer (some ⟨b7, 0, none⟩)] #[]) w7 := HLO.out
            have n0' : w7.cell? ⟨bo, 0, none⟩ = some (.int .i64 2) := n0
            have HME' : Hid (Calls Tryz.prog 73 #[.pointer (some ⟨b7, 0, none⟩), .agg #[.int .i64 2, .string ⟨o.path.toArray⟩, .string ⟨o.to.toArray⟩, .string ⟨o.data.toArray⟩]] w7 (GrR B b7 v' lk r w7)) := HME
            clear n0 HME HLO HJ
            go_wp2_with fail
            refine HME'.out.mono ?_
            rintro e w8 ⟨v8, rfl, hG8, hN8⟩
            have HG8 := Lib.hid hG8
            have HB8 := Lib.hid (Nxt.low HB7.out hN8 HG7.out hBw)
            have HM8 := Lib.hid (map_nxt HM7.out hN8 HG7.out)
            have HX8 : Hid (Box w8 (b2 + 1) 24 #[.slice none 0 0]) := Lib.hid ((hN8.kept HG7.out (x := b2 + 1) hB2).trans HX7.out)
            clear hG8 hN8 n0' n1 n2 n3 L
            cases r with
            | error z =>
              have hz : z ≠ 0 := act_err HACT.out
              have t1 : (z == 0) = false := by simpa using hz
              have t2 : (z != 0) = true := by simpa using hz
              have HRE : Hid (runM l ops = (lk, k, z)) := Lib.hid (by rw [HRk.out, HDR.out, run_no HACT.out]; simp)
              have HGE : Hid (Gr w8 B b7 v8 lk) := HG8
              have HBE := HB8
              have XE := HX8
              obtain ⟨av, nv, cv, rfl⟩ := own_any HG8.out.own
              have pg : w8.cell? ⟨b7, 0, none⟩ = some (.slice av nv cv) := HG8.out.box.cell (k := 0) rfl
              simp only [resO]
              clear hz
              go_wp2_with (refine wpList_store_row rfl 24 (.tmp 4) (.tmp 46) rfl (b2 + 1) #[.slice av nv cv] rfl rfl 24 _ XE.out (info24 _) rfl (slice_one _ _ _) ?_)
              rw [Exit.noGoto_ret]
              refine bodyPost_ret ?_ rfl (FIN.out _ _ _ _ _ HRE.out HGE.out.own HBE.out)
              exact end_tree rfl _ (XE.out.row _) rfl rfl rfl
            | ok l' =>
              have HOk' : Hid (TreeOk l') := Lib.hid (act_goes HOk.out HACT.out).2.ok
              have HRk' : Hid (runM l ops = ((runM l' (ops.drop (k + 1))).1, (runM l' (ops.drop (k + 1))).2.1 + (k + 1), (runM l' (ops.drop (k + 1))).2.2)) := Lib.hid (by rw [HRk.out, HDR.out, run_yes HACT.out]; simp; omega)
              simp only [resO]
              go_wp2_with fail
              go_roundw
              case rel => exact ⟨k + 1, l', v8, by go_num, rfl, by go_num, hlt, HOk', HRk', HG8, HB8, HM8, HX8⟩
              case measure => simp [Lib.intOf]; omega
          · have L : (Instr.lookup 83 (.map (some mb)) (.int .i64 3) false).run Tryz.prog w7 = .ok (.func (.func 74) #[.pointer (some ⟨b7, 0, none⟩)] #[]) w7 := HLO.out
            have n0' : w7.cell? ⟨bo, 0, none⟩ = some (.int .i64 3) := n0
            have HME' : Hid (Calls Tryz.prog 74 #[.pointer (some ⟨b7, 0, none⟩), .agg #[.int .i64 3, .string ⟨o.path.toArray⟩, .string ⟨o.to.toArray⟩, .string ⟨o.data.toArray⟩]] w7 (GrR B b7 v' lk r w7)) := HME
            clear n0 HME HLO HJ
            go_wp2_with fail
            refine HME'.out.mono ?_
            rintro e w8 ⟨v8, rfl, hG8, hN8⟩
            have HG8 := Lib.hid hG8
            have HB8 := Lib.hid (Nxt.low HB7.out hN8 HG7.out hBw)
            have HM8 := Lib.hid (map_nxt HM7.out hN8 HG7.out)
            have HX8 : Hid (Box w8 (b2 + 1) 24 #[.slice none 0 0]) := Lib.hid ((hN8.kept HG7.out (x := b2 + 1) hB2).trans HX7.out)
            clear hG8 hN8 n0' n1 n2 n3 L
            cases r with
            | error z =>
              have hz : z ≠ 0 := act_err HACT.out
              have t1 : (z == 0) = false := by simpa using hz
              have t2 : (z != 0) = true := by simpa using hz
              have HRE : Hid (runM l ops = (lk, k, z)) := Lib.hid (by rw [HRk.out, HDR.out, run_no HACT.out]; simp)
              have HGE : Hid (Gr w8 B b7 v8 lk) := HG8
              have HBE := HB8
              have XE := HX8
              obtain ⟨av, nv, cv, rfl⟩ := own_any HG8.out.own
              have pg : w8.cell? ⟨b7, 0, none⟩ = some (.slice av nv cv) := HG8.out.box.cell (k := 0) rfl
              simp only [resO]
              clear hz
              go_wp2_with (refine wpList_store_row rfl 24 (.tmp 4) (.tmp 46) rfl (b2 + 1) #[.slice av nv cv] rfl rfl 24 _ XE.out (info24 _) rfl (slice_one _ _ _) ?_)
              rw [Exit.noGoto_ret]
              refine bodyPost_ret ?_ rfl (FIN.out _ _ _ _ _ HRE.out HGE.out.own HBE.out)
              exact end_tree rfl _ (XE.out.row _) rfl rfl rfl
            | ok l' =>
              have HOk' : Hid (TreeOk l') := Lib.hid (act_goes HOk.out HACT.out).2.ok
              have HRk' : Hid (runM l ops = ((runM l' (ops.drop (k + 1))).1, (runM l' (ops.drop (k + 1))).2.1 + (k + 1), (runM l' (ops.drop (k + 1))).2.2)) := Lib.hid (by rw [HRk.out, HDR.out, run_yes HACT.out]; simp; omega)
              simp only [resO]
              go_wp2_with fail
              go_roundw
              case rel => exact ⟨k + 1, l', v8, by go_num, rfl, by go_num, hlt, HOk', HRk', HG8, HB8, HM8, HX8⟩
              case measure => simp [Lib.intOf]; omega
          · have L : (Instr.lookup 83 (.map (some mb)) (.int .i64 4) false).run Tryz.prog w7 = .ok (.func (.func 75) #[.pointer (some ⟨b7, 0, none⟩)] #[]) w7 := HLO.out
            have n0' : w7.cell? ⟨bo, 0, none⟩ = some (.int .i64 4) := n0
            have HME' : Hid (Calls Tryz.prog 75 #[.pointer (some ⟨b7, 0, none⟩), .agg #[.int .i64 4, .string ⟨o.path.toArray⟩, .string ⟨o.to.toArray⟩, .string ⟨o.data.toArray⟩]] w7 (GrR B b7 v' lk r w7)) := HME
            clear n0 HME HLO HJ
            go_wp2_with fail
            refine HME'.out.mono ?_
            rintro e w8 ⟨v8, rfl, hG8, hN8⟩
            have HG8 := Lib.hid hG8
            have HB8 := Lib.hid (Nxt.low HB7.out hN8 HG7.out hBw)
            have HM8 := Lib.hid (map_nxt HM7.out hN8 HG7.out)
            have HX8 : Hid (Box w8 (b2 + 1) 24 #[.slice none 0 0]) := Lib.hid ((hN8.kept HG7.out (x := b2 + 1) hB2).trans HX7.out)
            clear hG8 hN8 n0' n1 n2 n3 L
            cases r with
            | error z =>
              have hz : z ≠ 0 := act_err HACT.out
              have t1 : (z == 0) = false := by simpa using hz
              have t2 : (z != 0) = true := by simpa using hz
              have HRE : Hid (runM l ops = (lk, k, z)) := Lib.hid (by rw [HRk.out, HDR.out, run_no HACT.out]; simp)
              have HGE : Hid (Gr w8 B b7 v8 lk) := HG8
              have HBE := HB8
              have XE := HX8
              obtain ⟨av, nv, cv, rfl⟩ := own_any HG8.out.own
              have pg : w8.cell? ⟨b7, 0, none⟩ = some (.slice av nv cv) := HG8.out.box.cell (k := 0) rfl
              simp only [resO]
              clear hz
              go_wp2_with (refine wpList_store_row rfl 24 (.tmp 4) (.tmp 46) rfl (b2 + 1) #[.slice av nv cv] rfl rfl 24 _ XE.out (info24 _) rfl (slice_one _ _ _) ?_)
              rw [Exit.noGoto_ret]
              refine bodyPost_ret ?_ rfl (FIN.out _ _ _ _ _ HRE.out HGE.out.own HBE.out)
              exact end_tree rfl _ (XE.out.row _) rfl rfl rfl
            | ok l' =>
              have HOk' : Hid (TreeOk l') := Lib.hid (act_goes HOk.out HACT.out).2.ok
              have HRk' : Hid (runM l ops = ((runM l' (ops.drop (k + 1))).1, (runM l' (ops.drop (k + 1))).2.1 + (k + 1), (runM l' (ops.drop (k + 1))).2.2)) := Lib.hid (by rw [HRk.out, HDR.out, run_yes HACT.out]; simp; omega)
              simp only [resO]
              go_wp2_with fail
              go_roundw
              case rel => exact ⟨k + 1, l', v8, by go_num, rfl, by go_num, hlt, HOk', HRk', HG8, HB8, HM8, HX8⟩
              case measure => simp [Lib.intOf]; omega
          · have L : (Instr.lookup 83 (.map (some mb)) (.int .i64 5) false).run Tryz.prog w7 = .ok (.func (.func 76) #[.pointer (some ⟨b7, 0, none⟩)] #[]) w7 := HLO.out
            have n0' : w7.cell? ⟨bo, 0, none⟩ = some (.int .i64 5) := n0
            have HME' : Hid (Calls Tryz.prog 76 #[.pointer (some ⟨b7, 0, none⟩), .agg #[.int .i64 5, .string ⟨o.path.toArray⟩, .string ⟨o.to.toArray⟩, .string ⟨o.data.toArray⟩]] w7 (GrR B b7 v' lk r w7)) := HME
            clear n0 HME HLO HJ
            go_wp2_with fail
            refine HME'.out.mono ?_
            rintro e w8 ⟨v8, rfl, hG8, hN8⟩
            have HG8 := Lib.hid hG8
            have HB8 := Lib.hid (Nxt.low HB7.out hN8 HG7.out hBw)
            have HM8 := Lib.hid (map_nxt HM7.out hN8 HG7.out)
            have HX8 : Hid (Box w8 (b2 + 1) 24 #[.slice none 0 0]) := Lib.hid ((hN8.kept HG7.out (x := b2 + 1) hB2).trans HX7.out)
            clear hG8 hN8 n0' n1 n2 n3 L
            cases r with
            | error z =>
              have hz : z ≠ 0 := act_err HACT.out
              have t1 : (z == 0) = false := by simpa using hz
              have t2 : (z != 0) = true := by simpa using hz
              have HRE : Hid (runM l ops = (lk, k, z)) := Lib.hid (by rw [HRk.out, HDR.out, run_no HACT.out]; simp)
              have HGE : Hid (Gr w8 B b7 v8 lk) := HG8
              have HBE := HB8
              have XE := HX8
              obtain ⟨av, nv, cv, rfl⟩ := own_any HG8.out.own
              have pg : w8.cell? ⟨b7, 0, none⟩ = some (.slice av nv cv) := HG8.out.box.cell (k := 0) rfl
              simp only [resO]
              clear hz
              go_wp2_with (refine wpList_store_row rfl 24 (.tmp 4) (.tmp 46) rfl (b2 + 1) #[.slice av nv cv] rfl rfl 24 _ XE.out (info24 _) rfl (slice_one _ _ _) ?_)
              rw [Exit.noGoto_ret]
              refine bodyPost_ret ?_ rfl (FIN.out _ _ _ _ _ HRE.out HGE.out.own HBE.out)
              exact end_tree rfl _ (XE.out.row _) rfl rfl rfl
            | ok l' =>
              have HOk' : Hid (TreeOk l') := Lib.hid (act_goes HOk.out HACT.out).2.ok
              have HRk' : Hid (runM l ops = ((runM l' (ops.drop (k + 1))).1, (runM l' (ops.drop (k + 1))).2.1 + (k + 1), (runM l' (ops.drop (k + 1))).2.2)) := Lib.hid (by rw [HRk.out, HDR.out, run_yes HACT.out]; simp; omega)
              simp only [resO]
              go_wp2_with fail
              go_roundw
              case rel => exact ⟨k + 1, l', v8, by go_num, rfl, by go_num, hlt, HOk', HRk', HG8, HB8, HM8, HX8⟩
              case measure => simp [Lib.intOf]; omega
          · have L : (Instr.lookup 83 (.map (some mb)) (.int .i64 6) false).run Tryz.prog w7 = .ok (.func (.func 77) #[.pointer (some ⟨b7, 0, none⟩)] #[]) w7 := HLO.out
            have n0' : w7.cell? ⟨bo, 0, none⟩ = some (.int .i64 6) := n0
            have HME' : Hid (Calls Tryz.prog 77 #[.pointer (some ⟨b7, 0, none⟩), .agg #[.int .i64 6, .string ⟨o.path.toArray⟩, .string ⟨o.to.toArray⟩, .string ⟨o.data.toArray⟩]] w7 (GrR B b7 v' lk r w7)) := HME
            clear n0 HME HLO HJ
            go_wp2_with fail
            refine HME'.out.mono ?_
            rintro e w8 ⟨v8, rfl, hG8, hN8⟩
            have HG8 := Lib.hid hG8
            have HB8 := Lib.hid (Nxt.low HB7.out hN8 HG7.out hBw)
            have HM8 := Lib.hid (map_nxt HM7.out hN8 HG7.out)
            have HX8 : Hid (Box w8 (b2 + 1) 24 #[.slice none 0 0]) := Lib.hid ((hN8.kept HG7.out (x := b2 + 1) hB2).trans HX7.out)
            clear hG8 hN8 n0' n1 n2 n3 L
            cases r with
            | error z =>
              have hz : z ≠ 0 := act_err HACT.out
              have t1 : (z == 0) = false := by simpa using hz
              have t2 : (z != 0) = true := by simpa using hz
              have HRE : Hid (runM l ops = (lk, k, z)) := Lib.hid (by rw [HRk.out, HDR.out, run_no HACT.out]; simp)
              have HGE : Hid (Gr w8 B b7 v8 lk) := HG8
              have HBE := HB8
              have XE := HX8
              obtain ⟨av, nv, cv, rfl⟩ := own_any HG8.out.own
              have pg : w8.cell? ⟨b7, 0, none⟩ = some (.slice av nv cv) := HG8.out.box.cell (k := 0) rfl
              simp only [resO]
              clear hz
              go_wp2_with (refine wpList_store_row rfl 24 (.tmp 4) (.tmp 46) rfl (b2 + 1) #[.slice av nv cv] rfl rfl 24 _ XE.out (info24 _) rfl (slice_one _ _ _) ?_)
              rw [Exit.noGoto_ret]
              refine bodyPost_ret ?_ rfl (FIN.out _ _ _ _ _ HRE.out HGE.out.own HBE.out)
              exact end_tree rfl _ (XE.out.row _) rfl rfl rfl
            | ok l' =>
              have HOk' : Hid (TreeOk l') := Lib.hid (act_goes HOk.out HACT.out).2.ok
              have HRk' : Hid (runM l ops = ((runM l' (ops.drop (k + 1))).1, (runM l' (ops.drop (k + 1))).2.1 + (k + 1), (runM l' (ops.drop (k + 1))).2.2)) := Lib.hid (by rw [HRk.out, HDR.out, run_yes HACT.out]; simp; omega)
              simp only [resO]
              go_wp2_with fail
              go_roundw
              case rel => exact ⟨k + 1, l', v8, by go_num, rfl, by go_num, hlt, HOk', HRk', HG8, HB8, HM8, HX8⟩
              case measure => simp [Lib.intOf]; omega
          · have L : (Instr.lookup 83 (.map (some mb)) (.int .i64 7) false).run Tryz.prog w7 = .ok (.func (.func 78) #[.pointer (some ⟨b7, 0, none⟩)] #[]) w7 := HLO.out
            have n0' : w7.cell? ⟨bo, 0, none⟩ = some (.int .i64 7) := n0
            have HME' : Hid (Calls Tryz.prog 78 #[.pointer (some ⟨b7, 0, none⟩), .agg #[.int .i64 7, .string ⟨o.path.toArray⟩, .string ⟨o.to.toArray⟩, .string ⟨o.data.toArray⟩]] w7 (GrR B b7 v' lk r w7)) := HME
            clear n0 HME HLO HJ
            go_wp2_with fail
            refine HME'.out.mono ?_
            rintro e w8 ⟨v8, rfl, hG8, hN8⟩
            have HG8 := Lib.hid hG8
            have HB8 := Lib.hid (Nxt.low HB7.out hN8 HG7.out hBw)
            have HM8 := Lib.hid (map_nxt HM7.out hN8 HG7.out)
            have HX8 : Hid (Box w8 (b2 + 1) 24 #[.slice none 0 0]) := Lib.hid ((hN8.kept HG7.out (x := b2 + 1) hB2).trans HX7.out)
            clear hG8 hN8 n0' n1 n2 n3 L
            cases r with
            | error z =>
              have hz : z ≠ 0 := act_err HACT.out
              have t1 : (z == 0) = false := by simpa using hz
              have t2 : (z != 0) = true := by simpa using hz
              have HRE : Hid (runM l ops = (lk, k, z)) := Lib.hid (by rw [HRk.out, HDR.out, run_no HACT.out]; simp)
              have HGE : Hid (Gr w8 B b7 v8 lk) := HG8
              have HBE := HB8
              have XE := HX8
              obtain ⟨av, nv, cv, rfl⟩ := own_any HG8.out.own
              have pg : w8.cell? ⟨b7, 0, none⟩ = some (.slice av nv cv) := HG8.out.box.cell (k := 0) rfl
              simp only [resO]
              clear hz
              go_wp2_with (refine wpList_store_row rfl 24 (.tmp 4) (.tmp 46) rfl (b2 + 1) #[.slice av nv cv] rfl rfl 24 _ XE.out (info24 _) rfl (slice_one _ _ _) ?_)
              rw [Exit.noGoto_ret]
              refine bodyPost_ret ?_ rfl (FIN.out _ _ _ _ _ HRE.out HGE.out.own HBE.out)
              exact end_tree rfl _ (XE.out.row _) rfl rfl rfl
            | ok l' =>
              have HOk' : Hid (TreeOk l') := Lib.hid (act_goes HOk.out HACT.out).2.ok
              have HRk' : Hid (runM l ops = ((runM l' (ops.drop (k + 1))).1, (runM l' (ops.drop (k + 1))).2.1 + (k + 1), (runM l' (ops.drop (k + 1))).2.2)) := Lib.hid (by rw [HRk.out, HDR.out, run_yes HACT.out]; simp; omega)
              simp only [resO]
              go_wp2_with fail
              go_roundw
              case rel => exact ⟨k + 1, l', v8, by go_num, rfl, by go_num, hlt, HOk', HRk', HG8, HB8, HM8, HX8⟩
              case measure => simp [Lib.intOf]; omega
        · have t1 : (z == 0) = false := by simpa using hz0
          have t2 : (z != 0) = true := by simpa using hz0
          have HACT : Hid (actM lk o = .error z) := Lib.hid (by unfold actM; rw [← HZ.out, if_pos hz0])
          have HRE : Hid (runM l ops = (lk, k, z)) := Lib.hid (by rw [HRk.out, HDR.out, run_no HACT.out]; simp)
          have HGE : Hid (Gr w7 B b7 v' lk) := HG7
          have HBE := HB7
          have XE := HX7
          obtain ⟨av, nv, cv, rfl⟩ := own_any HG7.out.own
          have pg : w7.cell? ⟨b7, 0, none⟩ = some (.slice av nv cv) := HG7.out.box.cell (k := 0) rfl
          clear hz0
          go_wp2_with (refine wpList_store_row rfl 24 (.tmp 4) (.tmp 46) rfl (b2 + 1) #[.slice av nv cv] rfl rfl 24 _ XE.out (info24 _) rfl (slice_one _ _ _) ?_)
          rw [Exit.noGoto_ret]
          refine bodyPost_ret ?_ rfl (FIN.out _ _ _ _ _ HRE.out HGE.out.own HBE.out)
          exact end_tree rfl _ (XE.out.row _) rfl rfl rfl
      · obtain rfl : k = m := by omega
        have k1 : ¬ ((k : Int) < (k : Int)) := by omega
        have HRE : Hid (runM l ops = (lk, k, 0)) := Lib.hid (by
          have h1 : ops.drop k = [] := List.drop_of_length_le (by rw [← HM.out]; exact Nat.le_refl _)
          rw [HRk.out, h1]
          simp [runM])
        have HGE : Hid (Gr wq B b7 v' lk) := HGk
        have HBE := HBk
        have XE := HXk
        obtain ⟨av, nv, cv, rfl⟩ := own_any HGk.out.own
        have pg : wq.cell? ⟨b7, 0, none⟩ = some (.slice av nv cv) := HGk.out.box.cell (k := 0) rfl
        go_wp2_with (refine wpList_store_row rfl 24 (.tmp 4) (.tmp 46) rfl (b2 + 1) #[.slice av nv cv] rfl rfl 24 _ XE.out (info24 _) rfl (slice_one _ _ _) ?_)
        refine bodyPost_ret ?_ rfl (FIN.out _ _ _ _ _ HRE.out HGE.out.own HBE.out)
        exact end_tree rfl _ (XE.out.row _) rfl rfl rfl
end Go.Proofs.YtjbbnecegomkcaaGreatDoor
