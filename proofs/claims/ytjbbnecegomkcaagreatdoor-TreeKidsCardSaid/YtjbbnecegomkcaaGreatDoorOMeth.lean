/- Proved here: unlink and rmdir of package tree. -/
import Derived.Test.YtjbbnecegomkcaaGreatDoorOBusy
import Derived.Test.YtjbbnecegomkcaaGreatDoorOMath4
namespace Go.Proofs.YtjbbnecegomkcaaGreatDoor
open Go.RowKit Go.Shelf

def Opn.arr (o : Opn) : Array Value := #[.int .i64 o.kind, .string ⟨o.path.toArray⟩, .string ⟨o.to.toArray⟩, .string ⟨o.data.toArray⟩]

set_option maxRecDepth 100000 in
set_option maxHeartbeats 4000000 in
theorem unlink_any (B b : Nat) (v : Value) (l : List It) (o : Opn) (w : World) (hG : Gr w B b v l) (h : TreeOk l) (hv : validB o.path = true) (hT : Tabs w) :
    Calls Tryz.prog 77 #[.pointer (some ⟨b, 0, none⟩), .agg o.arr] w (GrR B b v l (unlinkM l o.path) w) := by
  obtain ⟨w1, hw1⟩ : ∃ z, z = w.alloc (.cells o.arr 51) := ⟨_, rfl⟩
  have hpl : o.path.length ≤ 140737488355328 := Nat.le_trans (valid_len _ hv) (by decide)
  obtain ⟨bo, hbo⟩ : ∃ z, z = w.heap.size := ⟨_, rfl⟩
  have X1 : Hid (Box w1 bo 51 o.arr) := Lib.hid (by rw [hw1, hbo]; exact box_new)
  have HB1 : Hid (Below w.heap.size w w1) := Lib.hid (by rw [hw1]; exact below_new _ _)
  have HG1 : Hid (Gr w1 B b v l) := Lib.hid (hG.on HB1.out)
  have HT1 : Hid (Tabs w1) := Lib.hid (hT.on HB1.out)
  have HG := Lib.hid hG
  have HOK := Lib.hid h
  have HV := Lib.hid hv
  obtain ⟨r, hr⟩ : ∃ r, r = unlinkM l o.path := ⟨_, rfl⟩
  rw [← hr]
  obtain ⟨q, hq⟩ : ∃ q, getI l o.path = q := ⟨_, rfl⟩
  obtain ⟨y, hy⟩ : ∃ y, y = q.getD .nil := ⟨_, rfl⟩
  obtain ⟨is, his⟩ : ∃ z, z = q.isSome := ⟨_, rfl⟩
  obtain ⟨v0, hv0⟩ : ∃ z, z = World.drew w1 := ⟨_, rfl⟩
  obtain ⟨vs, hvs⟩ : ∃ z, z = World.drew w1 := ⟨_, rfl⟩
  have HGV : Hid (Gr vs B b v l) := Lib.hid (by rw [hvs]; exact HG1.out.drew)
  have HTV : Hid (Tabs vs) := Lib.hid (by rw [hvs]; exact HT1.out.on ((Below.refl _ _).drew))
  have HV2 : Hid (Below w1.heap.size w1 vs) := Lib.hid (by rw [hvs]; exact (Below.refl _ _).drew)
  have XO : Hid (Box vs bo 51 o.arr) := Lib.hid (X1.out.on HV2.out)
  obtain ⟨a, n, c, rfl⟩ := own_any HGV.out.own
  have XG : Hid (Box vs b 82 #[.slice a n c]) := Lib.hid HGV.out.box
  have HGET : Hid (∀ W, Below vs.heap.size vs W → Calls Tryz.prog 48 #[.slice a n c, .string ⟨o.path.toArray⟩] W fun e w' => e = .returned (.tuple #[.agg y.arr, .bool is]) ∧ Below W.heap.size W w') := Lib.hid (fun W hW => by
    have := tget_gen l (.slice a n c) o.path W (srt_of HOK.out) HOK.out.many (HGV.out.on hW).rd (tree_sz HOK.out) (Nat.le_trans (valid_len _ HV.out) (by decide)) (HTV.out.on hW)
    rw [hq] at this
    rw [hy, his]
    exact this)
  have HQ := Lib.hid hq
  have HY := Lib.hid hy
  have HI := Lib.hid his
  have HR0 := Lib.hid hr
  clear hq hy his hpl hr hG h hv hT
  go_enter Tryz.func77, Tryz.ntmps77
  go_upto_region 1 with fail
  rw [← hw1, ← hbo]
  clear hw1 hbo
  go_cut [5, 6] (CutG vs y is)
  case first =>
    rename_i J2 K2 hJ hK2
    refine wp_region_held_drew (S := fun w' => Below vs.heap.size vs w') (by kernel_rfl) (by rw [hvs]; exact Below.refl _ _) (fun hHeld => ?_)
    rw [← hv0] at hHeld ⊢
    clear hv0 hvs
    refine wpAnyH_take (i := 0) (oi := { dst := some 8, op := Op.move (Operand.tmp 0), type := 101, pos := "op.go:109", after := #[], guard := none }) (v := ?_) rfl (by kernel_rfl) (by kernel_rfl) (by kernel_rfl) (fun _ _ _ h => h) (Or.inl ⟨by rfl, ?_⟩) hHeld ?_
    rotate_left
    · (intro w hSw; go_simp; try with_reducible rfl)
    (try simp only [Act.put, List.setIfInBounds_toArray, List.set_cons_zero, List.set_cons_succ])
    refine wpAnyH_take (i := 1) (oi := { dst := some 9, op := Op.nilCheck (Operand.tmp 8), type := 0, pos := "op.go:109", after := #[{ on := 0, ground := Ground.data }], guard := none }) (v := ?_) rfl (by kernel_rfl) (by kernel_rfl) (by kernel_rfl) (fun _ _ _ h => h) (Or.inl ⟨by rfl, ?_⟩) hHeld ?_
    rotate_left
    · (intro w hSw; go_simp; try with_reducible rfl)
    (try simp only [Act.put, List.setIfInBounds_toArray, List.set_cons_zero, List.set_cons_succ])
    refine wpAnyH_take (i := 2) (oi := { dst := some 10, op := Op.fieldAddr 82 (Operand.tmp 9) 0, type := 0, pos := "op.go:109", after := #[{ on := 1, ground := Ground.data }], guard := none }) (v := ?_) rfl (by kernel_rfl) (by kernel_rfl) (by kernel_rfl) (fun _ _ _ h => h) (Or.inl ⟨by rfl, ?_⟩) hHeld ?_
    rotate_left
    · (intro w hSw; go_simp; try with_reducible rfl)
    (try simp only [Act.put, List.setIfInBounds_toArray, List.set_cons_zero, List.set_cons_succ])
    refine wpAnyH_take (i := 3) (oi := { dst := some 11, op := Op.load 22 (Operand.tmp 10), type := 22, pos := "op.go:109", after := #[{ on := 2, ground := Ground.data }], guard := none }) (v := ?_) rfl (by kernel_rfl) (by kernel_rfl) (by kernel_rfl) (fun _ _ _ h => h) (Or.inl ⟨by rfl, ?_⟩) hHeld ?_
    rotate_left
    · (intro w hSw; have p0 : w.cell? ⟨b, 0, none⟩ = some (.slice a n c) := (XG.out.on hSw).cell (k := 0) rfl; go_simp; try with_reducible rfl)
    (try simp only [Act.put, List.setIfInBounds_toArray, List.set_cons_zero, List.set_cons_succ])
    refine wpAnyH_take (i := 4) (oi := { dst := some 12, op := Op.fieldAddr 51 (Operand.tmp 3) 1, type := 0, pos := "op.go:109", after := #[], guard := none }) (v := ?_) rfl (by kernel_rfl) (by kernel_rfl) (by kernel_rfl) (fun _ _ _ h => h) (Or.inl ⟨by rfl, ?_⟩) hHeld ?_
    rotate_left
    · (intro w hSw; go_simp; try with_reducible rfl)
    (try simp only [Act.put, List.setIfInBounds_toArray, List.set_cons_zero, List.set_cons_succ])
    refine wpAnyH_take (i := 5) (oi := { dst := some 13, op := Op.load 9 (Operand.tmp 12), type := 9, pos := "op.go:109", after := #[{ on := 4, ground := Ground.data }], guard := none }) (v := ?_) rfl (by kernel_rfl) (by kernel_rfl) (by kernel_rfl) (fun _ _ _ h => h) (Or.inl ⟨by rfl, ?_⟩) hHeld ?_
    rotate_left
    · (intro w hSw; have p0 : w.cell? ⟨bo, 1, none⟩ = some (.string ⟨o.path.toArray⟩) := (XO.out.on hSw).cell (k := 1) rfl; go_simp; try with_reducible rfl)
    (try simp only [Act.put, List.setIfInBounds_toArray, List.set_cons_zero, List.set_cons_succ])
    refine wpAnyH_ready (rs := [6, 10]) (by kernel_rfl) (by simp) (AllReadyH.cons (o := { dst := some 14, op := Op.call { callee := Callee.value (Operand.func 48), args := #[Operand.tmp 11, Operand.tmp 13], argTypes := #[22, 9] }, type := 43, pos := "op.go:109", after := #[{ on := 3, ground := Ground.data }, { on := 5, ground := Ground.data }], guard := none }) rfl (fun K hK => ?_) (AllReadyH.cons (o := { dst := some 5, op := Op.alloc 33, type := 0, pos := "op.go:109", after := #[], guard := none }) rfl (fun K hK => ?_) AllReadyH.nil))
    · go_simp
      refine (HGET.out _ hHeld).mono ?_
      rintro e v106 ⟨rfl, hba⟩
      refine hK.out _ _ (bch hHeld hba) (fun hHeld => ?_)
      clear hba
      (try simp only [Act.put, List.setIfInBounds_toArray, List.set_cons_zero, List.set_cons_succ])
      refine wpAnyH_take (i := 7) (oi := { dst := some 7, op := Op.move (Operand.tmp 14), type := 43, pos := "op.go:109", after := #[{ on := 6, ground := Ground.data }], guard := none }) (v := ?_) rfl (by kernel_rfl) (by kernel_rfl) (by kernel_rfl) (fun _ _ _ h => h) (Or.inl ⟨by rfl, ?_⟩) hHeld ?_
      rotate_left
      · (intro w hSw; go_simp; try with_reducible rfl)
      (try simp only [Act.put, List.setIfInBounds_toArray, List.set_cons_zero, List.set_cons_succ])
      refine wpAnyH_take (i := 8) (oi := { dst := some 15, op := Op.extract (Operand.tmp 7) 0, type := 33, pos := "op.go:109", after := #[{ on := 7, ground := Ground.data }], guard := none }) (v := ?_) rfl (by kernel_rfl) (by kernel_rfl) (by kernel_rfl) (fun _ _ _ h => h) (Or.inl ⟨by rfl, ?_⟩) hHeld ?_
      rotate_left
      · (intro w hSw; go_simp; try with_reducible rfl)
      (try simp only [Act.put, List.setIfInBounds_toArray, List.set_cons_zero, List.set_cons_succ])
      refine wpAnyH_take (i := 9) (oi := { dst := some 16, op := Op.extract (Operand.tmp 7) 1, type := 4, pos := "op.go:109", after := #[{ on := 7, ground := Ground.data }, { on := 11, ground := Ground.gcOnly Departure.lateStores }], guard := none }) (v := ?_) rfl (by kernel_rfl) (by kernel_rfl) (by kernel_rfl) (fun _ _ _ h => h) (Or.inl ⟨by rfl, ?_⟩) hHeld ?_
      rotate_left
      · (intro w hSw; go_simp; try with_reducible rfl)
      (try simp only [Act.put, List.setIfInBounds_toArray, List.set_cons_zero, List.set_cons_succ])
      refine wpAnyH_ready (rs := [10]) (by kernel_rfl) (by simp) (AllReadyH.cons (o := { dst := some 5, op := Op.alloc 33, type := 0, pos := "op.go:109", after := #[], guard := none }) rfl (fun K hK => ?_) AllReadyH.nil)
      · go_simp
        have hba : Below v106.heap.size v106 (v106.alloc (.cells #[.string ⟨#[]⟩, .int .i64 0, .string ⟨#[]⟩] 33)) := below_new _ _
        have Z7 : Hid (Box (v106.alloc (.cells #[.string ⟨#[]⟩, .int .i64 0, .string ⟨#[]⟩] 33)) v106.heap.size 33 It.nil.arr) := Lib.hid box_new
        have HB7 : Hid (vs.heap.size ≤ v106.heap.size) := Lib.hid hHeld.size
        obtain ⟨v110, hv9⟩ : ∃ q, q = (v106.alloc (.cells #[.string ⟨#[]⟩, .int .i64 0, .string ⟨#[]⟩] 33)) := ⟨_, rfl⟩
        refine hK.out _ _ (bch hHeld hba) (fun hHeld => ?_)
        clear hba
        rw [← hv9] at Z7 hHeld ⊢
        clear hv9
        obtain ⟨b7, hg9⟩ : ∃ q, q = v106.heap.size := ⟨_, rfl⟩
        rw [← hg9] at Z7 HB7 ⊢
        clear hg9
        (try simp only [Act.put, List.setIfInBounds_toArray, List.set_cons_zero, List.set_cons_succ])
        refine wpAnyH_ready (rs := [11]) (by kernel_rfl) (by simp) (AllReadyH.cons (o := { dst := none, op := Op.store 33 (Operand.tmp 5) (Operand.tmp 15), type := 0, pos := "op.go:109", after := #[{ on := 10, ground := Ground.data }, { on := 8, ground := Ground.data }, { on := 6, ground := Ground.chain }, { on := 0, ground := Ground.phase }, { on := 1, ground := Ground.phase }, { on := 2, ground := Ground.phase }, { on := 3, ground := Ground.phase }, { on := 4, ground := Ground.phase }, { on := 5, ground := Ground.phase }, { on := 6, ground := Ground.phase }, { on := 7, ground := Ground.phase }, { on := 8, ground := Ground.phase }, { on := 9, ground := Ground.textOnly Departure.lateStores }, { on := 10, ground := Ground.phase }], guard := none }) rfl (fun K hK => ?_) AllReadyH.nil)
        · refine wp_store_if (by rfl) 33 (.tmp 5) (.tmp 15) rfl b7 33 It.nil.arr y.arr rfl rfl Z7.out (info35 _) rfl (iarr_one _) ?_
          have Z8 : Hid (Box (v110.setRow b7 y.arr) b7 33 y.arr) := Lib.hid (Z7.out.row _)
          refine hK.out _ _ (below_row hHeld HB7.out _) (fun hHeld => ?_)
          clear Z7
          (try simp only [Act.put])
          refine wpAnyH_take (i := 12) (oi := { dst := some 6, op := Op.assign (Operand.tmp 16), type := 4, pos := "op.go:109", after := #[{ on := 9, ground := Ground.data }, { on := 11, ground := Ground.chain }, { on := 0, ground := Ground.phase }, { on := 1, ground := Ground.phase }, { on := 2, ground := Ground.phase }, { on := 3, ground := Ground.phase }, { on := 4, ground := Ground.phase }, { on := 5, ground := Ground.phase }, { on := 6, ground := Ground.phase }, { on := 7, ground := Ground.phase }, { on := 8, ground := Ground.phase }, { on := 9, ground := Ground.phase }, { on := 10, ground := Ground.phase }, { on := 11, ground := Ground.phase }], guard := none }) (v := ?_) rfl (by kernel_rfl) (by kernel_rfl) (by kernel_rfl) (fun _ _ _ h => h) (Or.inl ⟨by rfl, ?_⟩) hHeld ?_
          rotate_left
          · (intro w hSw; go_simp; try with_reducible rfl)
          (try simp only [Act.put, List.setIfInBounds_toArray, List.set_cons_zero, List.set_cons_succ])
          refine wpAnyH_done (by kernel_rfl) ?_ _
          first | refine hK2 _ _ (Met.intro (hJ _ _ ?_)) | refine Met.intro (hJ _ _ ?_)
          (repeat apply Exists.intro)
          refine ⟨?_, rfl⟩
          exact ⟨_, rfl, rfl, Z8, Lib.hid hHeld, HB7⟩
    · go_simp
      have hba : Below v0.heap.size v0 (v0.alloc (.cells #[.string ⟨#[]⟩, .int .i64 0, .string ⟨#[]⟩] 33)) := below_new _ _
      have Z7 : Hid (Box (v0.alloc (.cells #[.string ⟨#[]⟩, .int .i64 0, .string ⟨#[]⟩] 33)) v0.heap.size 33 It.nil.arr) := Lib.hid box_new
      have HB7 : Hid (vs.heap.size ≤ v0.heap.size) := Lib.hid hHeld.size
      obtain ⟨v110, hv9⟩ : ∃ q, q = (v0.alloc (.cells #[.string ⟨#[]⟩, .int .i64 0, .string ⟨#[]⟩] 33)) := ⟨_, rfl⟩
      refine hK.out _ _ (bch hHeld hba) (fun hHeld => ?_)
      clear hba
      rw [← hv9] at Z7 hHeld ⊢
      clear hv9
      obtain ⟨b7, hg9⟩ : ∃ q, q = v0.heap.size := ⟨_, rfl⟩
      rw [← hg9] at Z7 HB7 ⊢
      clear hg9
      (try simp only [Act.put, List.setIfInBounds_toArray, List.set_cons_zero, List.set_cons_succ])
      refine wpAnyH_ready (rs := [6]) (by kernel_rfl) (by simp) (AllReadyH.cons (o := { dst := some 14, op := Op.call { callee := Callee.value (Operand.func 48), args := #[Operand.tmp 11, Operand.tmp 13], argTypes := #[22, 9] }, type := 43, pos := "op.go:109", after := #[{ on := 3, ground := Ground.data }, { on := 5, ground := Ground.data }], guard := none }) rfl (fun K hK => ?_) AllReadyH.nil)
      · go_simp
        refine (HGET.out _ hHeld).mono ?_
        rintro e v106 ⟨rfl, hba⟩
        have Z7 := Lib.hid (Z7.out.on hba)
        refine hK.out _ _ (bch hHeld hba) (fun hHeld => ?_)
        clear hba
        (try simp only [Act.put, List.setIfInBounds_toArray, List.set_cons_zero, List.set_cons_succ])
        refine wpAnyH_take (i := 7) (oi := { dst := some 7, op := Op.move (Operand.tmp 14), type := 43, pos := "op.go:109", after := #[{ on := 6, ground := Ground.data }], guard := none }) (v := ?_) rfl (by kernel_rfl) (by kernel_rfl) (by kernel_rfl) (fun _ _ _ h => h) (Or.inl ⟨by rfl, ?_⟩) hHeld ?_
        rotate_left
        · (intro w hSw; go_simp; try with_reducible rfl)
        (try simp only [Act.put, List.setIfInBounds_toArray, List.set_cons_zero, List.set_cons_succ])
        refine wpAnyH_take (i := 8) (oi := { dst := some 15, op := Op.extract (Operand.tmp 7) 0, type := 33, pos := "op.go:109", after := #[{ on := 7, ground := Ground.data }], guard := none }) (v := ?_) rfl (by kernel_rfl) (by kernel_rfl) (by kernel_rfl) (fun _ _ _ h => h) (Or.inl ⟨by rfl, ?_⟩) hHeld ?_
        rotate_left
        · (intro w hSw; go_simp; try with_reducible rfl)
        (try simp only [Act.put, List.setIfInBounds_toArray, List.set_cons_zero, List.set_cons_succ])
        refine wpAnyH_take (i := 9) (oi := { dst := some 16, op := Op.extract (Operand.tmp 7) 1, type := 4, pos := "op.go:109", after := #[{ on := 7, ground := Ground.data }, { on := 11, ground := Ground.gcOnly Departure.lateStores }], guard := none }) (v := ?_) rfl (by kernel_rfl) (by kernel_rfl) (by kernel_rfl) (fun _ _ _ h => h) (Or.inl ⟨by rfl, ?_⟩) hHeld ?_
        rotate_left
        · (intro w hSw; go_simp; try with_reducible rfl)
        (try simp only [Act.put, List.setIfInBounds_toArray, List.set_cons_zero, List.set_cons_succ])
        refine wpAnyH_ready (rs := [11]) (by kernel_rfl) (by simp) (AllReadyH.cons (o := { dst := none, op := Op.store 33 (Operand.tmp 5) (Operand.tmp 15), type := 0, pos := "op.go:109", after := #[{ on := 10, ground := Ground.data }, { on := 8, ground := Ground.data }, { on := 6, ground := Ground.chain }, { on := 0, ground := Ground.phase }, { on := 1, ground := Ground.phase }, { on := 2, ground := Ground.phase }, { on := 3, ground := Ground.phase }, { on := 4, ground := Ground.phase }, { on := 5, ground := Ground.phase }, { on := 6, ground := Ground.phase }, { on := 7, ground := Ground.phase }, { on := 8, ground := Ground.phase }, { on := 9, ground := Ground.textOnly Departure.lateStores }, { on := 10, ground := Ground.phase }], guard := none }) rfl (fun K hK => ?_) AllReadyH.nil)
        · refine wp_store_if (by rfl) 33 (.tmp 5) (.tmp 15) rfl b7 33 It.nil.arr y.arr rfl rfl Z7.out (info35 _) rfl (iarr_one _) ?_
          have Z8 : Hid (Box (v106.setRow b7 y.arr) b7 33 y.arr) := Lib.hid (Z7.out.row _)
          refine hK.out _ _ (below_row hHeld HB7.out _) (fun hHeld => ?_)
          clear Z7
          (try simp only [Act.put])
          refine wpAnyH_take (i := 12) (oi := { dst := some 6, op := Op.assign (Operand.tmp 16), type := 4, pos := "op.go:109", after := #[{ on := 9, ground := Ground.data }, { on := 11, ground := Ground.chain }, { on := 0, ground := Ground.phase }, { on := 1, ground := Ground.phase }, { on := 2, ground := Ground.phase }, { on := 3, ground := Ground.phase }, { on := 4, ground := Ground.phase }, { on := 5, ground := Ground.phase }, { on := 6, ground := Ground.phase }, { on := 7, ground := Ground.phase }, { on := 8, ground := Ground.phase }, { on := 9, ground := Ground.phase }, { on := 10, ground := Ground.phase }, { on := 11, ground := Ground.phase }], guard := none }) (v := ?_) rfl (by kernel_rfl) (by kernel_rfl) (by kernel_rfl) (fun _ _ _ h => h) (Or.inl ⟨by rfl, ?_⟩) hHeld ?_
          rotate_left
          · (intro w hSw; go_simp; try with_reducible rfl)
          (try simp only [Act.put, List.setIfInBounds_toArray, List.set_cons_zero, List.set_cons_succ])
          refine wpAnyH_done (by kernel_rfl) ?_ _
          first | refine hK2 _ _ (Met.intro (hJ _ _ ?_)) | refine Met.intro (hJ _ _ ?_)
          (repeat apply Exists.intro)
          refine ⟨?_, rfl⟩
          exact ⟨_, rfl, rfl, Z8, Lib.hid hHeld, HB7⟩
  case rest =>
    obtain ⟨b7, rfl, rfl, Z7, HB, HB7⟩ := hcut
    obtain ⟨w2, hw2⟩ : ∃ z, z = wc := ⟨_, rfl⟩
    rw [← hw2] at HB Z7 ⊢
    have HB2 := Lib.hid (bch HB1.out (bch HV2.out HB.out))
    have X2 := Lib.hid (XO.out.on HB.out)
    have HG2 := Lib.hid (HGV.out.on HB.out)
    have HT2 := Lib.hid (HTV.out.on HB.out)
    obtain ⟨c0, c1, c2⟩ := Z7.out.it
    have p1 : w2.cell? ⟨bo, 1, none⟩ = some (.string ⟨o.path.toArray⟩) := X2.out.cell (k := 1) rfl
    have p3 : w2.cell? ⟨bo, 3, none⟩ = some (.string ⟨o.data.toArray⟩) := X2.out.cell (k := 3) rfl
    clear hw2 XG HGET hvs hv0
    cases q with
    | none =>
      obtain rfl : is = false := HI.out
      have HR : Hid (r = .error 4) := Lib.hid (by rw [HR0.out]; unfold unlinkM; rw [HQ.out])
      go_wp2_with fail
      go_ret
      exact GrR.no HR.out HG.out HB2.out
    | some z =>
      obtain rfl : is = true := HI.out
      obtain rfl : y = z := HY.out
      by_cases hk : y.kind = 1
      · have t1 : (y.kind == 1) = true := by simp [hk]
        have HR : Hid (r = .error 161) := Lib.hid (by rw [HR0.out]; unfold unlinkM; rw [HQ.out]; simp only; rw [if_pos hk])
        clear hk
        go_wp2_with fail
        go_ret
        exact GrR.no HR.out HG.out HB2.out
      · have t1 : (y.kind == 1) = false := by simp [hk]
        have HR : Hid (r = .ok (takeL l o.path 1)) := Lib.hid (by rw [HR0.out]; unfold unlinkM; rw [HQ.out]; simp only; rw [if_neg hk])
        have HP := Lib.hid (take_any B b _ l o.path 1 w2 HG2.out (srt_of HOK.out) HOK.out.many (tree_sz HOK.out) (Nat.le_trans (valid_len _ HV.out) (by decide)) (by omega) (has_lt (has_some (srt_of HOK.out) HQ.out (kind_root HQ.out hk))))
        clear hk
        go_wp2_with fail
        refine HP.out.mono ?_
        rintro e w4 ⟨v', rfl, hG4, hN4⟩
        have HE := Lib.hid (GrR.yes (w := w) (v := .slice a n c) (l := l) HR.out hG4 ((Nxt.below HB2.out b _).trans hN4))
        clear hG4 hN4 c0 c1 c2 p1 p3
        go_wp2_with fail
        go_ret
        exact HE.out

set_option maxRecDepth 100000 in
set_option maxHeartbeats 4000000 in
theorem rmdir_any (B b : Nat) (v : Value) (l : List It) (o : Opn) (w : World) (hG : Gr w B b v l) (h : TreeOk l) (hv : validB o.path = true) (hT : Tabs w) :
    Calls Tryz.prog 78 #[.pointer (some ⟨b, 0, none⟩), .agg o.arr] w (GrR B b v l (rmdirM l o.path) w) := by
  obtain ⟨w1, hw1⟩ : ∃ z, z = w.alloc (.cells o.arr 51) := ⟨_, rfl⟩
  have hpl : o.path.length ≤ 140737488355328 := Nat.le_trans (valid_len _ hv) (by decide)
  obtain ⟨bo, hbo⟩ : ∃ z, z = w.heap.size := ⟨_, rfl⟩
  have X1 : Hid (Box w1 bo 51 o.arr) := Lib.hid (by rw [hw1, hbo]; exact box_new)
  have HB1 : Hid (Below w.heap.size w w1) := Lib.hid (by rw [hw1]; exact below_new _ _)
  have HG1 : Hid (Gr w1 B b v l) := Lib.hid (hG.on HB1.out)
  have HT1 : Hid (Tabs w1) := Lib.hid (hT.on HB1.out)
  have HG := Lib.hid hG
  have HOK := Lib.hid h
  have HV := Lib.hid hv
  obtain ⟨r, hr⟩ : ∃ r, r = rmdirM l o.path := ⟨_, rfl⟩
  rw [← hr]
  obtain ⟨q, hq⟩ : ∃ q, getI l o.path = q := ⟨_, rfl⟩
  obtain ⟨y, hy⟩ : ∃ y, y = q.getD .nil := ⟨_, rfl⟩
  obtain ⟨is, his⟩ : ∃ z, z = q.isSome := ⟨_, rfl⟩
  obtain ⟨v0, hv0⟩ : ∃ z, z = World.drew w1 := ⟨_, rfl⟩
  obtain ⟨vs, hvs⟩ : ∃ z, z = World.drew w1 := ⟨_, rfl⟩
  have HGV : Hid (Gr vs B b v l) := Lib.hid (by rw [hvs]; exact HG1.out.drew)
  have HTV : Hid (Tabs vs) := Lib.hid (by rw [hvs]; exact HT1.out.on ((Below.refl _ _).drew))
  have HV2 : Hid (Below w1.heap.size w1 vs) := Lib.hid (by rw [hvs]; exact (Below.refl _ _).drew)
  have XO : Hid (Box vs bo 51 o.arr) := Lib.hid (X1.out.on HV2.out)
  obtain ⟨a, n, c, rfl⟩ := own_any HGV.out.own
  have XG : Hid (Box vs b 82 #[.slice a n c]) := Lib.hid HGV.out.box
  have HGET : Hid (∀ W, Below vs.heap.size vs W → Calls Tryz.prog 48 #[.slice a n c, .string ⟨o.path.toArray⟩] W fun e w' => e = .returned (.tuple #[.agg y.arr, .bool is]) ∧ Below W.heap.size W w') := Lib.hid (fun W hW => by
    have := tget_gen l (.slice a n c) o.path W (srt_of HOK.out) HOK.out.many (HGV.out.on hW).rd (tree_sz HOK.out) (Nat.le_trans (valid_len _ HV.out) (by decide)) (HTV.out.on hW)
    rw [hq] at this
    rw [hy, his]
    exact this)
  have HQ := Lib.hid hq
  have HY := Lib.hid hy
  have HI := Lib.hid his
  have HR0 := Lib.hid hr
  clear hq hy his hpl hr hG h hv hT
  go_enter Tryz.func78, Tryz.ntmps78
  go_upto_region 1 with fail
  rw [← hw1, ← hbo]
  clear hw1 hbo
  go_cut [5, 6] (CutG vs y is)
  case first =>
    rename_i J2 K2 hJ hK2
    refine wp_region_held_drew (S := fun w' => Below vs.heap.size vs w') (by kernel_rfl) (by rw [hvs]; exact Below.refl _ _) (fun hHeld => ?_)
    rw [← hv0] at hHeld ⊢
    clear hv0 hvs
    refine wpAnyH_take (i := 0) (oi := { dst := some 8, op := Op.move (Operand.tmp 0), type := 101, pos := "op.go:121", after := #[], guard := none }) (v := ?_) rfl (by kernel_rfl) (by kernel_rfl) (by kernel_rfl) (fun _ _ _ h => h) (Or.inl ⟨by rfl, ?_⟩) hHeld ?_
    rotate_left
    · (intro w hSw; go_simp; try with_reducible rfl)
    (try simp only [Act.put, List.setIfInBounds_toArray, List.set_cons_zero, List.set_cons_succ])
    refine wpAnyH_take (i := 1) (oi := { dst := some 9, op := Op.nilCheck (Operand.tmp 8), type := 0, pos := "op.go:121", after := #[{ on := 0, ground := Ground.data }], guard := none }) (v := ?_) rfl (by kernel_rfl) (by kernel_rfl) (by kernel_rfl) (fun _ _ _ h => h) (Or.inl ⟨by rfl, ?_⟩) hHeld ?_
    rotate_left
    · (intro w hSw; go_simp; try with_reducible rfl)
    (try simp only [Act.put, List.setIfInBounds_toArray, List.set_cons_zero, List.set_cons_succ])
    refine wpAnyH_take (i := 2) (oi := { dst := some 10, op := Op.fieldAddr 82 (Operand.tmp 9) 0, type := 0, pos := "op.go:121", after := #[{ on := 1, ground := Ground.data }], guard := none }) (v := ?_) rfl (by kernel_rfl) (by kernel_rfl) (by kernel_rfl) (fun _ _ _ h => h) (Or.inl ⟨by rfl, ?_⟩) hHeld ?_
    rotate_left
    · (intro w hSw; go_simp; try with_reducible rfl)
    (try simp only [Act.put, List.setIfInBounds_toArray, List.set_cons_zero, List.set_cons_succ])
    refine wpAnyH_take (i := 3) (oi := { dst := some 11, op := Op.load 22 (Operand.tmp 10), type := 22, pos := "op.go:121", after := #[{ on := 2, ground := Ground.data }], guard := none }) (v := ?_) rfl (by kernel_rfl) (by kernel_rfl) (by kernel_rfl) (fun _ _ _ h => h) (Or.inl ⟨by rfl, ?_⟩) hHeld ?_
    rotate_left
    · (intro w hSw; have p0 : w.cell? ⟨b, 0, none⟩ = some (.slice a n c) := (XG.out.on hSw).cell (k := 0) rfl; go_simp; try with_reducible rfl)
    (try simp only [Act.put, List.setIfInBounds_toArray, List.set_cons_zero, List.set_cons_succ])
    refine wpAnyH_take (i := 4) (oi := { dst := some 12, op := Op.fieldAddr 51 (Operand.tmp 3) 1, type := 0, pos := "op.go:121", after := #[], guard := none }) (v := ?_) rfl (by kernel_rfl) (by kernel_rfl) (by kernel_rfl) (fun _ _ _ h => h) (Or.inl ⟨by rfl, ?_⟩) hHeld ?_
    rotate_left
    · (intro w hSw; go_simp; try with_reducible rfl)
    (try simp only [Act.put, List.setIfInBounds_toArray, List.set_cons_zero, List.set_cons_succ])
    refine wpAnyH_take (i := 5) (oi := { dst := some 13, op := Op.load 9 (Operand.tmp 12), type := 9, pos := "op.go:121", after := #[{ on := 4, ground := Ground.data }], guard := none }) (v := ?_) rfl (by kernel_rfl) (by kernel_rfl) (by kernel_rfl) (fun _ _ _ h => h) (Or.inl ⟨by rfl, ?_⟩) hHeld ?_
    rotate_left
    · (intro w hSw; have p0 : w.cell? ⟨bo, 1, none⟩ = some (.string ⟨o.path.toArray⟩) := (XO.out.on hSw).cell (k := 1) rfl; go_simp; try with_reducible rfl)
    (try simp only [Act.put, List.setIfInBounds_toArray, List.set_cons_zero, List.set_cons_succ])
    refine wpAnyH_ready (rs := [6, 10]) (by kernel_rfl) (by simp) (AllReadyH.cons (o := { dst := some 14, op := Op.call { callee := Callee.value (Operand.func 48), args := #[Operand.tmp 11, Operand.tmp 13], argTypes := #[22, 9] }, type := 43, pos := "op.go:121", after := #[{ on := 3, ground := Ground.data }, { on := 5, ground := Ground.data }], guard := none }) rfl (fun K hK => ?_) (AllReadyH.cons (o := { dst := some 5, op := Op.alloc 33, type := 0, pos := "op.go:121", after := #[], guard := none }) rfl (fun K hK => ?_) AllReadyH.nil))
    · go_simp
      refine (HGET.out _ hHeld).mono ?_
      rintro e v106 ⟨rfl, hba⟩
      refine hK.out _ _ (bch hHeld hba) (fun hHeld => ?_)
      clear hba
      (try simp only [Act.put, List.setIfInBounds_toArray, List.set_cons_zero, List.set_cons_succ])
      refine wpAnyH_take (i := 7) (oi := { dst := some 7, op := Op.move (Operand.tmp 14), type := 43, pos := "op.go:121", after := #[{ on := 6, ground := Ground.data }], guard := none }) (v := ?_) rfl (by kernel_rfl) (by kernel_rfl) (by kernel_rfl) (fun _ _ _ h => h) (Or.inl ⟨by rfl, ?_⟩) hHeld ?_
      rotate_left
      · (intro w hSw; go_simp; try with_reducible rfl)
      (try simp only [Act.put, List.setIfInBounds_toArray, List.set_cons_zero, List.set_cons_succ])
      refine wpAnyH_take (i := 8) (oi := { dst := some 15, op := Op.extract (Operand.tmp 7) 0, type := 33, pos := "op.go:121", after := #[{ on := 7, ground := Ground.data }], guard := none }) (v := ?_) rfl (by kernel_rfl) (by kernel_rfl) (by kernel_rfl) (fun _ _ _ h => h) (Or.inl ⟨by rfl, ?_⟩) hHeld ?_
      rotate_left
      · (intro w hSw; go_simp; try with_reducible rfl)
      (try simp only [Act.put, List.setIfInBounds_toArray, List.set_cons_zero, List.set_cons_succ])
      refine wpAnyH_take (i := 9) (oi := { dst := some 16, op := Op.extract (Operand.tmp 7) 1, type := 4, pos := "op.go:121", after := #[{ on := 7, ground := Ground.data }, { on := 11, ground := Ground.gcOnly Departure.lateStores }], guard := none }) (v := ?_) rfl (by kernel_rfl) (by kernel_rfl) (by kernel_rfl) (fun _ _ _ h => h) (Or.inl ⟨by rfl, ?_⟩) hHeld ?_
      rotate_left
      · (intro w hSw; go_simp; try with_reducible rfl)
      (try simp only [Act.put, List.setIfInBounds_toArray, List.set_cons_zero, List.set_cons_succ])
      refine wpAnyH_ready (rs := [10]) (by kernel_rfl) (by simp) (AllReadyH.cons (o := { dst := some 5, op := Op.alloc 33, type := 0, pos := "op.go:121", after := #[], guard := none }) rfl (fun K hK => ?_) AllReadyH.nil)
      · go_simp
        have hba : Below v106.heap.size v106 (v106.alloc (.cells #[.string ⟨#[]⟩, .int .i64 0, .string ⟨#[]⟩] 33)) := below_new _ _
        have Z7 : Hid (Box (v106.alloc (.cells #[.string ⟨#[]⟩, .int .i64 0, .string ⟨#[]⟩] 33)) v106.heap.size 33 It.nil.arr) := Lib.hid box_new
        have HB7 : Hid (vs.heap.size ≤ v106.heap.size) := Lib.hid hHeld.size
        obtain ⟨v110, hv9⟩ : ∃ q, q = (v106.alloc (.cells #[.string ⟨#[]⟩, .int .i64 0, .string ⟨#[]⟩] 33)) := ⟨_, rfl⟩
        refine hK.out _ _ (bch hHeld hba) (fun hHeld => ?_)
        clear hba
        rw [← hv9] at Z7 hHeld ⊢
        clear hv9
        obtain ⟨b7, hg9⟩ : ∃ q, q = v106.heap.size := ⟨_, rfl⟩
        rw [← hg9] at Z7 HB7 ⊢
        clear hg9
        (try simp only [Act.put, List.setIfInBounds_toArray, List.set_cons_zero, List.set_cons_succ])
        refine wpAnyH_ready (rs := [11]) (by kernel_rfl) (by simp) (AllReadyH.cons (o := { dst := none, op := Op.store 33 (Operand.tmp 5) (Operand.tmp 15), type := 0, pos := "op.go:121", after := #[{ on := 10, ground := Ground.data }, { on := 8, ground := Ground.data }, { on := 6, ground := Ground.chain }, { on := 0, ground := Ground.phase }, { on := 1, ground := Ground.phase }, { on := 2, ground := Ground.phase }, { on := 3, ground := Ground.phase }, { on := 4, ground := Ground.phase }, { on := 5, ground := Ground.phase }, { on := 6, ground := Ground.phase }, { on := 7, ground := Ground.phase }, { on := 8, ground := Ground.phase }, { on := 9, ground := Ground.textOnly Departure.lateStores }, { on := 10, ground := Ground.phase }], guard := none }) rfl (fun K hK => ?_) AllReadyH.nil)
        · refine wp_store_if (by rfl) 33 (.tmp 5) (.tmp 15) rfl b7 33 It.nil.arr y.arr rfl rfl Z7.out (info35 _) rfl (iarr_one _) ?_
          have Z8 : Hid (Box (v110.setRow b7 y.arr) b7 33 y.arr) := Lib.hid (Z7.out.row _)
          refine hK.out _ _ (below_row hHeld HB7.out _) (fun hHeld => ?_)
          clear Z7
          (try simp only [Act.put])
          refine wpAnyH_take (i := 12) (oi := { dst := some 6, op := Op.assign (Operand.tmp 16), type := 4, pos := "op.go:121", after := #[{ on := 9, ground := Ground.data }, { on := 11, ground := Ground.chain }, { on := 0, ground := Ground.phase }, { on := 1, ground := Ground.phase }, { on := 2, ground := Ground.phase }, { on := 3, ground := Ground.phase }, { on := 4, ground := Ground.phase }, { on := 5, ground := Ground.phase }, { on := 6, ground := Ground.phase }, { on := 7, ground := Ground.phase }, { on := 8, ground := Ground.phase }, { on := 9, ground := Ground.phase }, { on := 10, ground := Ground.phase }, { on := 11, ground := Ground.phase }], guard := none }) (v := ?_) rfl (by kernel_rfl) (by kernel_rfl) (by kernel_rfl) (fun _ _ _ h => h) (Or.inl ⟨by rfl, ?_⟩) hHeld ?_
          rotate_left
          · (intro w hSw; go_simp; try with_reducible rfl)
          (try simp only [Act.put, List.setIfInBounds_toArray, List.set_cons_zero, List.set_cons_succ])
          refine wpAnyH_done (by kernel_rfl) ?_ _
          first | refine hK2 _ _ (Met.intro (hJ _ _ ?_)) | refine Met.intro (hJ _ _ ?_)
          (repeat apply Exists.intro)
          refine ⟨?_, rfl⟩
          exact ⟨_, rfl, rfl, Z8, Lib.hid hHeld, HB7⟩
    · go_simp
      have hba : Below v0.heap.size v0 (v0.alloc (.cells #[.string ⟨#[]⟩, .int .i64 0, .string ⟨#[]⟩] 33)) := below_new _ _
      have Z7 : Hid (Box (v0.alloc (.cells #[.string ⟨#[]⟩, .int .i64 0, .string ⟨#[]⟩] 33)) v0.heap.size 33 It.nil.arr) := Lib.hid box_new
      have HB7 : Hid (vs.heap.size ≤ v0.heap.size) := Lib.hid hHeld.size
      obtain ⟨v110, hv9⟩ : ∃ q, q = (v0.alloc (.cells #[.string ⟨#[]⟩, .int .i64 0, .string ⟨#[]⟩] 33)) := ⟨_, rfl⟩
      refine hK.out _ _ (bch hHeld hba) (fun hHeld => ?_)
      clear hba
      rw [← hv9] at Z7 hHeld ⊢
      clear hv9
      obtain ⟨b7, hg9⟩ : ∃ q, q = v0.heap.size := ⟨_, rfl⟩
      rw [← hg9] at Z7 HB7 ⊢
      clear hg9
      (try simp only [Act.put, List.setIfInBounds_toArray, List.set_cons_zero, List.set_cons_succ])
      refine wpAnyH_ready (rs := [6]) (by kernel_rfl) (by simp) (AllReadyH.cons (o := { dst := some 14, op := Op.call { callee := Callee.value (Operand.func 48), args := #[Operand.tmp 11, Operand.tmp 13], argTypes := #[22, 9] }, type := 43, pos := "op.go:121", after := #[{ on := 3, ground := Ground.data }, { on := 5, ground := Ground.data }], guard := none }) rfl (fun K hK => ?_) AllReadyH.nil)
      · go_simp
        refine (HGET.out _ hHeld).mono ?_
        rintro e v106 ⟨rfl, hba⟩
        have Z7 := Lib.hid (Z7.out.on hba)
        refine hK.out _ _ (bch hHeld hba) (fun hHeld => ?_)
        clear hba
        (try simp only [Act.put, List.setIfInBounds_toArray, List.set_cons_zero, List.set_cons_succ])
        refine wpAnyH_take (i := 7) (oi := { dst := some 7, op := Op.move (Operand.tmp 14), type := 43, pos := "op.go:121", after := #[{ on := 6, ground := Ground.data }], guard := none }) (v := ?_) rfl (by kernel_rfl) (by kernel_rfl) (by kernel_rfl) (fun _ _ _ h => h) (Or.inl ⟨by rfl, ?_⟩) hHeld ?_
        rotate_left
        · (intro w hSw; go_simp; try with_reducible rfl)
        (try simp only [Act.put, List.setIfInBounds_toArray, List.set_cons_zero, List.set_cons_succ])
        refine wpAnyH_take (i := 8) (oi := { dst := some 15, op := Op.extract (Operand.tmp 7) 0, type := 33, pos := "op.go:121", after := #[{ on := 7, ground := Ground.data }], guard := none }) (v := ?_) rfl (by kernel_rfl) (by kernel_rfl) (by kernel_rfl) (fun _ _ _ h => h) (Or.inl ⟨by rfl, ?_⟩) hHeld ?_
        rotate_left
        · (intro w hSw; go_simp; try with_reducible rfl)
        (try simp only [Act.put, List.setIfInBounds_toArray, List.set_cons_zero, List.set_cons_succ])
        refine wpAnyH_take (i := 9) (oi := { dst := some 16, op := Op.extract (Operand.tmp 7) 1, type := 4, pos := "op.go:121", after := #[{ on := 7, ground := Ground.data }, { on := 11, ground := Ground.gcOnly Departure.lateStores }], guard := none }) (v := ?_) rfl (by kernel_rfl) (by kernel_rfl) (by kernel_rfl) (fun _ _ _ h => h) (Or.inl ⟨by rfl, ?_⟩) hHeld ?_
        rotate_left
        · (intro w hSw; go_simp; try with_reducible rfl)
        (try simp only [Act.put, List.setIfInBounds_toArray, List.set_cons_zero, List.set_cons_succ])
        refine wpAnyH_ready (rs := [11]) (by kernel_rfl) (by simp) (AllReadyH.cons (o := { dst := none, op := Op.store 33 (Operand.tmp 5) (Operand.tmp 15), type := 0, pos := "op.go:121", after := #[{ on := 10, ground := Ground.data }, { on := 8, ground := Ground.data }, { on := 6, ground := Ground.chain }, { on := 0, ground := Ground.phase }, { on := 1, ground := Ground.phase }, { on := 2, ground := Ground.phase }, { on := 3, ground := Ground.phase }, { on := 4, ground := Ground.phase }, { on := 5, ground := Ground.phase }, { on := 6, ground := Ground.phase }, { on := 7, ground := Ground.phase }, { on := 8, ground := Ground.phase }, { on := 9, ground := Ground.textOnly Departure.lateStores }, { on := 10, ground := Ground.phase }], guard := none }) rfl (fun K hK => ?_) AllReadyH.nil)
        · refine wp_store_if (by rfl) 33 (.tmp 5) (.tmp 15) rfl b7 33 It.nil.arr y.arr rfl rfl Z7.out (info35 _) rfl (iarr_one _) ?_
          have Z8 : Hid (Box (v106.setRow b7 y.arr) b7 33 y.arr) := Lib.hid (Z7.out.row _)
          refine hK.out _ _ (below_row hHeld HB7.out _) (fun hHeld => ?_)
          clear Z7
          (try simp only [Act.put])
          refine wpAnyH_take (i := 12) (oi := { dst := some 6, op := Op.assign (Operand.tmp 16), type := 4, pos := "op.go:121", after := #[{ on := 9, ground := Ground.data }, { on := 11, ground := Ground.chain }, { on := 0, ground := Ground.phase }, { on := 1, ground := Ground.phase }, { on := 2, ground := Ground.phase }, { on := 3, ground := Ground.phase }, { on := 4, ground := Ground.phase }, { on := 5, ground := Ground.phase }, { on := 6, ground := Ground.phase }, { on := 7, ground := Ground.phase }, { on := 8, ground := Ground.phase }, { on := 9, ground := Ground.phase }, { on := 10, ground := Ground.phase }, { on := 11, ground := Ground.phase }], guard := none }) (v := ?_) rfl (by kernel_rfl) (by kernel_rfl) (by kernel_rfl) (fun _ _ _ h => h) (Or.inl ⟨by rfl, ?_⟩) hHeld ?_
          rotate_left
          · (intro w hSw; go_simp; try with_reducible rfl)
          (try simp only [Act.put, List.setIfInBounds_toArray, List.set_cons_zero, List.set_cons_succ])
          refine wpAnyH_done (by kernel_rfl) ?_ _
          first | refine hK2 _ _ (Met.intro (hJ _ _ ?_)) | refine Met.intro (hJ _ _ ?_)
          (repeat apply Exists.intro)
          refine ⟨?_, rfl⟩
          exact ⟨_, rfl, rfl, Z8, Lib.hid hHeld, HB7⟩
  case rest =>
    obtain ⟨b7, rfl, rfl, Z7, HB, HB7⟩ := hcut
    obtain ⟨w2, hw2⟩ : ∃ z, z = wc := ⟨_, rfl⟩
    rw [← hw2] at HB Z7 ⊢
    have HB2 := Lib.hid (bch HB1.out (bch HV2.out HB.out))
    have X2 := Lib.hid (XO.out.on HB.out)
    have HG2 := Lib.hid (HGV.out.on HB.out)
    have HT2 := Lib.hid (HTV.out.on HB.out)
    obtain ⟨c0, c1, c2⟩ := Z7.out.it
    have p1 : w2.cell? ⟨bo, 1, none⟩ = some (.string ⟨o.path.toArray⟩) := X2.out.cell (k := 1) rfl
    have p3 : w2.cell? ⟨bo, 3, none⟩ = some (.string ⟨o.data.toArray⟩) := X2.out.cell (k := 3) rfl
    clear hw2 XG HGET hvs hv0
    cases q with
    | none =>
      obtain rfl : is = false := HI.out
      have HR : Hid (r = .error 4) := Lib.hid (by rw [HR0.out]; unfold rmdirM; rw [HQ.out])
      go_wp2_with fail
      go_ret
      exact GrR.no HR.out HG.out HB2.out
    | some z =>
      obtain rfl : is = true := HI.out
      obtain rfl : y = z := HY.out
      by_cases hk : y.kind = 1
      · have t1 : (y.kind != 1) = false := by simp [hk]
        have t1' : (y.kind == 1) = true := by simp [hk]
        have HR1 : Hid (r = if y = .root ∨ belowL l o.path ≠ [] then .error 162 else .ok (takeL l o.path 1)) := Lib.hid (by rw [HR0.out]; unfold rmdirM; rw [HQ.out]; simp only; rw [if_neg (by simpa using hk)])
        have r0 := HT2.out.r0
        have r1 := HT2.out.r1
        have r2 := HT2.out.r2
        obtain ⟨d, hd⟩ : ∃ d, d = decide (y = It.root) := ⟨_, rfl⟩
        have HD := Lib.hid hd
        have E : ∀ W, (Op.equalIn 10000 33 (.agg #[.string ⟨y.path.toArray⟩, .int .i64 y.kind, .string ⟨y.data.toArray⟩]) (.agg #[.string ⟨It.root.path.toArray⟩, .int .i64 It.root.kind, .string ⟨It.root.data.toArray⟩])).run Tryz.prog W = .ok d W := fun W => by rw [hd]; exact eq35 y .root W
        have E2 : ∀ W, (Op.equalIn 10000 33 (.agg #[.string ⟨y.path.toArray⟩, .int .i64 y.kind, .string ⟨y.data.toArray⟩]) (.agg #[.string ⟨#[47]⟩, .int .i64 1, .string ⟨#[]⟩])).run Tryz.prog W = .ok d W := E
        clear hk E hd
        cases d with
        | true =>
          have HR : Hid (r = .error 162) := Lib.hid (by rw [HR1.out, if_pos (.inl (of_decide_eq_true HD.out.symm))])
          go_wp2_with fail
          go_ret
          exact GrR.no HR.out HG.out HB2.out
        | false =>
          have HNR : Hid (y ≠ It.root) := Lib.hid (of_decide_eq_false HD.out.symm)
          obtain ⟨f, hf⟩ : ∃ f, f = decide (belowL l o.path ≠ []) := ⟨_, rfl⟩
          have HBU := Lib.hid (busy_any B b _ l o.path w2 HG2.out (srt_of HOK.out) HOK.out.many (tree_sz HOK.out) (Nat.le_trans (valid_len _ HV.out) (by decide)))
          rw [← hf] at HBU
          have HF := Lib.hid hf
          clear hf
          go_wp2_with fail
          refine HBU.out.mono ?_
          rintro e w3 ⟨rfl, hb⟩
          have HB3 := Lib.hid (bch HB2.out hb)
          have HG3 := Lib.hid (HG2.out.on hb)
          have p13 : w3.cell? ⟨bo, 1, none⟩ = some (.string ⟨o.path.toArray⟩) := (X2.out.on hb).cell (k := 1) rfl
          clear hb c0 c1 c2 p1 p3 r0 r1 r2
          cases f with
          | true =>
            have HR : Hid (r = .error 162) := Lib.hid (by rw [HR1.out, if_pos (.inr (of_decide_eq_true HF.out.symm))])
            go_wp2_with fail
            go_ret
            exact GrR.no HR.out HG.out HB3.out
          | false =>
            have HR : Hid (r = .ok (takeL l o.path 1)) := Lib.hid (by rw [HR1.out, if_neg (fun k => k.elim HNR.out (of_decide_eq_false HF.out.symm))])
            have HP := Lib.hid (take_any B b _ l o.path 1 w3 HG3.out (srt_of HOK.out) HOK.out.many (tree_sz HOK.out) (Nat.le_trans (valid_len _ HV.out) (by decide)) (by omega) (has_lt (has_some (srt_of HOK.out) HQ.out (fun e => HNR.out (by
              have := HQ.out
              rw [e, get_root] at this
              exact (Option.some.inj this).symm)))))
            go_wp2_with fail
            refine HP.out.mono ?_
            rintro e w4 ⟨v', rfl, hG4, hN4⟩
            have HE := Lib.hid (GrR.yes (w := w) (v := .slice a n c) (l := l) HR.out hG4 ((Nxt.below HB3.out b _).trans hN4))
            clear hG4 hN4 p13
            go_wp2_with fail
            go_ret
            exact HE.out
      · have t1 : (y.kind != 1) = true := by simp [hk]
        have t1' : (y.kind == 1) = false := by simp [hk]
        have HR : Hid (r = .error 161) := Lib.hid (by rw [HR0.out]; unfold rmdirM; rw [HQ.out]; simp only; rw [if_pos hk])
        clear hk
        go_wp2_with fail
        go_ret
        exact GrR.no HR.out HG.out HB2.out
end Go.Proofs.YtjbbnecegomkcaaGreatDoor
