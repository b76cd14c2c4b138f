/- Proved here: mkdir, link, extend and write of package tree. -/
import Derived.Test.YtjbbnecegomkcaaGreatDoorOMeth
namespace Go.Proofs.YtjbbnecegomkcaaGreatDoor
open Go.RowKit Go.Shelf

theorem built35m (p : ByteArray) (k : Int) : Tryz.prog.built 33 [(0, .string p), (1, .int .i64 k)] = some #[.string p, .int .i64 k, .string ⟨#[]⟩] := by kernel_rfl
set_option maxRecDepth 100000 in
set_option maxHeartbeats 2000000 in
theorem mkdir_any (B b : Nat) (v : Value) (l : List It) (o : Opn) (w : World) (hG : Gr w B b v l) (h : TreeOk l) (hv : validB o.path = true) (hT : Tabs w) :
    Calls Tryz.prog 72 #[.pointer (some ⟨b, 0, none⟩), .agg o.arr] w (GrR B b v l (addM l ⟨o.path, 1, []⟩) w) := by
  obtain ⟨w1, hw1⟩ : ∃ z, z = w.alloc (.cells o.arr 51) := ⟨_, rfl⟩
  obtain ⟨bo, hbo⟩ : ∃ z, z = w.heap.size := ⟨_, rfl⟩
  have X1 : Hid (Box w1 bo 51 o.arr) := Lib.hid (by rw [hw1, hbo]; exact box_new)
  have HB1 : Hid (Below w.heap.size w w1) := Lib.hid (by rw [hw1]; exact below_new _ _)
  have HA : Hid (Calls Tryz.prog 100 #[.pointer (some ⟨b, 0, none⟩), .agg #[.string ⟨o.path.toArray⟩, .int .i64 1, .string ⟨#[]⟩]] w1 (GrR B b v l (addM l ⟨o.path, 1, []⟩) w1)) := Lib.hid (add_any B b v l ⟨o.path, 1, []⟩ w1 (hG.on HB1.out) h hv (hT.on HB1.out))
  obtain ⟨r, hr⟩ : ∃ r, r = addM l ⟨o.path, 1, []⟩ := ⟨_, rfl⟩
  rw [← hr] at HA ⊢
  have p1 : w1.cell? ⟨bo, 1, none⟩ = some (.string ⟨o.path.toArray⟩) := X1.out.cell (k := 1) rfl
  have bl := built35m ⟨o.path.toArray⟩ 1
  clear hr hG h hv hT
  go_enter Tryz.func72, Tryz.ntmps72
  go_upto_region 1 with fail
  rw [← hw1, ← hbo]
  clear hw1 hbo
  go_wp2_with fail
  refine HA.out.mono ?_
  rintro e w2 ⟨v', rfl, hG2, hN2⟩
  have HE : Hid (GrR B b v l r w (.returned (.int .i64 (resO l r).2)) w2) := Lib.hid ⟨v', rfl, hG2, (Nxt.below HB1.out b v).trans hN2⟩
  clear hG2 hN2 p1
  go_wp2_with fail
  go_ret
  exact HE.out
set_option maxRecDepth 100000 in
set_option maxHeartbeats 2000000 in
theorem link_any (B b : Nat) (v : Value) (l : List It) (o : Opn) (w : World) (hG : Gr w B b v l) (h : TreeOk l) (hv : validB o.path = true) (hT : Tabs w) :
    Calls Tryz.prog 75 #[.pointer (some ⟨b, 0, none⟩), .agg o.arr] w (GrR B b v l (addM l ⟨o.path, 3, o.data⟩) w) := by
  obtain ⟨w1, hw1⟩ : ∃ z, z = w.alloc (.cells o.arr 51) := ⟨_, rfl⟩
  obtain ⟨bo, hbo⟩ : ∃ z, z = w.heap.size := ⟨_, rfl⟩
  have X1 : Hid (Box w1 bo 51 o.arr) := Lib.hid (by rw [hw1, hbo]; exact box_new)
  have HB1 : Hid (Below w.heap.size w w1) := Lib.hid (by rw [hw1]; exact below_new _ _)
  have HA : Hid (Calls Tryz.prog 100 #[.pointer (some ⟨b, 0, none⟩), .agg #[.string ⟨o.path.toArray⟩, .int .i64 3, .string ⟨o.data.toArray⟩]] w1 (GrR B b v l (addM l ⟨o.path, 3, o.data⟩) w1)) := Lib.hid (add_any B b v l ⟨o.path, 3, o.data⟩ w1 (hG.on HB1.out) h hv (hT.on HB1.out))
  obtain ⟨r, hr⟩ : ∃ r, r = addM l ⟨o.path, 3, o.data⟩ := ⟨_, rfl⟩
  rw [← hr] at HA ⊢
  have p1 : w1.cell? ⟨bo, 1, none⟩ = some (.string ⟨o.path.toArray⟩) := X1.out.cell (k := 1) rfl
  have p3 : w1.cell? ⟨bo, 3, none⟩ = some (.string ⟨o.data.toArray⟩) := X1.out.cell (k := 3) rfl
  have bl := built35 ⟨o.path.toArray⟩ ⟨o.data.toArray⟩ 3
  clear hr hG h hv hT
  go_enter Tryz.func75, Tryz.ntmps75
  go_upto_region 1 with fail
  rw [← hw1, ← hbo]
  clear hw1 hbo
  go_wp2_with fail
  refine HA.out.mono ?_
  rintro e w2 ⟨v', rfl, hG2, hN2⟩
  have HE : Hid (GrR B b v l r w (.returned (.int .i64 (resO l r).2)) w2) := Lib.hid ⟨v', rfl, hG2, (Nxt.below HB1.out b v).trans hN2⟩
  clear hG2 hN2 p1 p3
  go_wp2_with fail
  go_ret
  exact HE.out
theorem ba_app (a b : Str) : (⟨a.toArray⟩ ++ ⟨b.toArray⟩ : ByteArray) = ⟨(a ++ b).toArray⟩ := by
  have : (⟨a.toArray⟩ ++ ⟨b.toArray⟩ : ByteArray).data.toList = a ++ b := by
    rw [ByteArray.data_append, Array.toList_append]
  exact ba_of this
theorem path_of {l : List It} (h : TreeOk l) {p : Str} {y : It} (hq : getI l p = some y) (hk : y.kind ≠ 1) : y.path = p ∧ y ∈ l := by
  rcases (get_some (srt_of h)).1 hq with ⟨_, e⟩ | ⟨_, h1, h2⟩
  · subst e; exact absurd rfl hk
  · exact ⟨h2, h1⟩
theorem file_data {l : List It} (h : TreeOk l) {y : It} (hy : y ∈ l) (hk : y.kind = 2) : y.data.length ≤ 524288 := by
  have := (h.kid y hy).2
  unfold It.dataB at this
  rw [if_neg (by omega), if_pos hk] at this
  exact of_decide_eq_true this

set_option maxRecDepth 100000 in
set_option maxHeartbeats 4000000 in
theorem extend_any (B b : Nat) (v : Value) (l : List It) (o : Opn) (w : World) (hG : Gr w B b v l) (h : TreeOk l) (hv : validB o.path = true) (hT : Tabs w) (hd : o.data.length ≤ 524288) :
    Calls Tryz.prog 74 #[.pointer (some ⟨b, 0, none⟩), .agg o.arr] w (GrR B b v l (extendM l o.path o.data) w) := by
  obtain ⟨w1, hw1⟩ : ∃ z, z = w.alloc (.cells o.arr 51) := ⟨_, rfl⟩
  have hpl : o.path.length ≤ 140737488355328 := Nat.le_trans (valid_len _ hv) (by decide)
  obtain ⟨bo, hbo⟩ : ∃ z, z = w.heap.size := ⟨_, rfl⟩
  have X1 : Hid (Box w1 bo 51 o.arr) := Lib.hid (by rw [hw1, hbo]; exact box_new)
  have HB1 : Hid (Below w.heap.size w w1) := Lib.hid (by rw [hw1]; exact below_new _ _)
  have HG1 : Hid (Gr w1 B b v l) := Lib.hid (hG.on HB1.out)
  have HT1 : Hid (Tabs w1) := Lib.hid (hT.on HB1.out)
  have HG := Lib.hid hG
  have HOK := Lib.hid h
  have HV := Lib.hid hv
  obtain ⟨r, hr⟩ : ∃ r, r = extendM l o.path o.data := ⟨_, rfl⟩
  rw [← hr]
  obtain ⟨q, hq⟩ : ∃ q, getI l o.path = q := ⟨_, rfl⟩
  obtain ⟨y, hy⟩ : ∃ y, y = q.getD .nil := ⟨_, rfl⟩
  obtain ⟨is, his⟩ : ∃ z, z = q.isSome := ⟨_, rfl⟩
  obtain ⟨v0, hv0⟩ : ∃ z, z = World.drew w1 := ⟨_, rfl⟩
  obtain ⟨vs, hvs⟩ : ∃ z, z = World.drew w1 := ⟨_, rfl⟩
  have HGV : Hid (Gr vs B b v l) := Lib.hid (by rw [hvs]; exact HG1.out.drew)
  have HTV : Hid (Tabs vs) := Lib.hid (by rw [hvs]; exact HT1.out.on ((Below.refl _ _).drew))
  have HV2 : Hid (Below w1.heap.size w1 vs) := Lib.hid (by rw [hvs]; exact (Below.refl _ _).drew)
  have XO : Hid (Box vs bo 51 o.arr) := Lib.hid (X1.out.on HV2.out)
  obtain ⟨a, n, c, rfl⟩ := own_any HGV.out.own
  have XG : Hid (Box vs b 82 #[.slice a n c]) := Lib.hid HGV.out.box
  have HGET : Hid (∀ W, Below vs.heap.size vs W → Calls Tryz.prog 48 #[.slice a n c, .string ⟨o.path.toArray⟩] W fun e w' => e = .returned (.tuple #[.agg y.arr, .bool is]) ∧ Below W.heap.size W w') := Lib.hid (fun W hW => by
    have := tget_gen l (.slice a n c) o.path W (srt_of HOK.out) HOK.out.many (HGV.out.on hW).rd (tree_sz HOK.out) (Nat.le_trans (valid_len _ HV.out) (by decide)) (HTV.out.on hW)
    rw [hq] at this
    rw [hy, his]
    exact this)
  have HQ := Lib.hid hq
  have HY := Lib.hid hy
  have HI := Lib.hid his
  have HR0 := Lib.hid hr
  clear hq hy his hpl hr hG h hv hT
  go_enter Tryz.func74, Tryz.ntmps74
  go_upto_region 1 with fail
  rw [← hw1, ← hbo]
  clear hw1 hbo
  go_cut [5, 6] (CutG vs y is)
  case first =>
    rename_i J2 K2 hJ hK2
    refine wp_region_held_drew (S := fun w' => Below vs.heap.size vs w') (by kernel_rfl) (by rw [hvs]; exact Below.refl _ _) (fun hHeld => ?_)
    rw [← hv0] at hHeld ⊢
    clear hv0 hvs
    refine wpAnyH_take (i := 0) (oi := { dst := some 8, op := Op.move (Operand.tmp 0), type := 101, pos := "op.go:71", after := #[], guard := none }) (v := ?_) rfl (by kernel_rfl) (by kernel_rfl) (by kernel_rfl) (fun _ _ _ h => h) (Or.inl ⟨by rfl, ?_⟩) hHeld ?_
    rotate_left
    · (intro w hSw; go_simp; try with_reducible rfl)
    (try simp only [Act.put, List.setIfInBounds_toArray, List.set_cons_zero, List.set_cons_succ])
    refine wpAnyH_take (i := 1) (oi := { dst := some 9, op := Op.nilCheck (Operand.tmp 8), type := 0, pos := "op.go:71", after := #[{ on := 0, ground := Ground.data }], guard := none }) (v := ?_) rfl (by kernel_rfl) (by kernel_rfl) (by kernel_rfl) (fun _ _ _ h => h) (Or.inl ⟨by rfl, ?_⟩) hHeld ?_
    rotate_left
    · (intro w hSw; go_simp; try with_reducible rfl)
    (try simp only [Act.put, List.setIfInBounds_toArray, List.set_cons_zero, List.set_cons_succ])
    refine wpAnyH_take (i := 2) (oi := { dst := some 10, op := Op.fieldAddr 82 (Operand.tmp 9) 0, type := 0, pos := "op.go:71", after := #[{ on := 1, ground := Ground.data }], guard := none }) (v := ?_) rfl (by kernel_rfl) (by kernel_rfl) (by kernel_rfl) (fun _ _ _ h => h) (Or.inl ⟨by rfl, ?_⟩) hHeld ?_
    rotate_left
    · (intro w hSw; go_simp; try with_reducible rfl)
    (try simp only [Act.put, List.setIfInBounds_toArray, List.set_cons_zero, List.set_cons_succ])
    refine wpAnyH_take (i := 3) (oi := { dst := some 11, op := Op.load 22 (Operand.tmp 10), type := 22, pos := "op.go:71", after := #[{ on := 2, ground := Ground.data }], guard := none }) (v := ?_) rfl (by kernel_rfl) (by kernel_rfl) (by kernel_rfl) (fun _ _ _ h => h) (Or.inl ⟨by rfl, ?_⟩) hHeld ?_
    rotate_left
    · (intro w hSw; have p0 : w.cell? ⟨b, 0, none⟩ = some (.slice a n c) := (XG.out.on hSw).cell (k := 0) rfl; go_simp; try with_reducible rfl)
    (try simp only [Act.put, List.setIfInBounds_toArray, List.set_cons_zero, List.set_cons_succ])
    refine wpAnyH_take (i := 4) (oi := { dst := some 12, op := Op.fieldAddr 51 (Operand.tmp 3) 1, type := 0, pos := "op.go:71", after := #[], guard := none }) (v := ?_) rfl (by kernel_rfl) (by kernel_rfl) (by kernel_rfl) (fun _ _ _ h => h) (Or.inl ⟨by rfl, ?_⟩) hHeld ?_
    rotate_left
    · (intro w hSw; go_simp; try with_reducible rfl)
    (try simp only [Act.put, List.setIfInBounds_toArray, List.set_cons_zero, List.set_cons_succ])
    refine wpAnyH_take (i := 5) (oi := { dst := some 13, op := Op.load 9 (Operand.tmp 12), type := 9, pos := "op.go:71", after := #[{ on := 4, ground := Ground.data }], guard := none }) (v := ?_) rfl (by kernel_rfl) (by kernel_rfl) (by kernel_rfl) (fun _ _ _ h => h) (Or.inl ⟨by rfl, ?_⟩) hHeld ?_
    rotate_left
    · (intro w hSw; have p0 : w.cell? ⟨bo, 1, none⟩ = some (.string ⟨o.path.toArray⟩) := (XO.out.on hSw).cell (k := 1) rfl; go_simp; try with_reducible rfl)
    (try simp only [Act.put, List.setIfInBounds_toArray, List.set_cons_zero, List.set_cons_succ])
    refine wpAnyH_ready (rs := [6, 10]) (by kernel_rfl) (by simp) (AllReadyH.cons (o := { dst := some 14, op := Op.call { callee := Callee.value (Operand.func 48), args := #[Operand.tmp 11, Operand.tmp 13], argTypes := #[22, 9] }, type := 43, pos := "op.go:71", after := #[{ on := 3, ground := Ground.data }, { on := 5, ground := Ground.data }], guard := none }) rfl (fun K hK => ?_) (AllReadyH.cons (o := { dst := some 5, op := Op.alloc 33, type := 0, pos := "op.go:71", after := #[], guard := none }) rfl (fun K hK => ?_) AllReadyH.nil))
    · go_simp
      refine (HGET.out _ hHeld).mono ?_
      rintro e v106 ⟨rfl, hba⟩
      refine hK.out _ _ (bch hHeld hba) (fun hHeld => ?_)
      clear hba
      (try simp only [Act.put, List.setIfInBounds_toArray, List.set_cons_zero, List.set_cons_succ])
      refine wpAnyH_take (i := 7) (oi := { dst := some 7, op := Op.move (Operand.tmp 14), type := 43, pos := "op.go:71", after := #[{ on := 6, ground := Ground.data }], guard := none }) (v := ?_) rfl (by kernel_rfl) (by kernel_rfl) (by kernel_rfl) (fun _ _ _ h => h) (Or.inl ⟨by rfl, ?_⟩) hHeld ?_
      rotate_left
      · (intro w hSw; go_simp; try with_reducible rfl)
      (try simp only [Act.put, List.setIfInBounds_toArray, List.set_cons_zero, List.set_cons_succ])
      refine wpAnyH_take (i := 8) (oi := { dst := some 15, op := Op.extract (Operand.tmp 7) 0, type := 33, pos := "op.go:71", after := #[{ on := 7, ground := Ground.data }], guard := none }) (v := ?_) rfl (by kernel_rfl) (by kernel_rfl) (by kernel_rfl) (fun _ _ _ h => h) (Or.inl ⟨by rfl, ?_⟩) hHeld ?_
      rotate_left
      · (intro w hSw; go_simp; try with_reducible rfl)
      (try simp only [Act.put, List.setIfInBounds_toArray, List.set_cons_zero, List.set_cons_succ])
      refine wpAnyH_take (i := 9) (oi := { dst := some 16, op := Op.extract (Operand.tmp 7) 1, type := 4, pos := "op.go:71", after := #[{ on := 7, ground := Ground.data }, { on := 11, ground := Ground.gcOnly Departure.lateStores }], guard := none }) (v := ?_) rfl (by kernel_rfl) (by kernel_rfl) (by kernel_rfl) (fun _ _ _ h => h) (Or.inl ⟨by rfl, ?_⟩) hHeld ?_
      rotate_left
      · (intro w hSw; go_simp; try with_reducible rfl)
      (try simp only [Act.put, List.setIfInBounds_toArray, List.set_cons_zero, List.set_cons_succ])
      refine wpAnyH_ready (rs := [10]) (by kernel_rfl) (by simp) (AllReadyH.cons (o := { dst := some 5, op := Op.alloc 33, type := 0, pos := "op.go:71", after := #[], guard := none }) rfl (fun K hK => ?_) AllReadyH.nil)
      · go_simp
        have hba : Below v106.heap.size v106 (v106.alloc (.cells #[.string ⟨#[]⟩, .int .i64 0, .string ⟨#[]⟩] 33)) := below_new _ _
        have Z7 : Hid (Box (v106.alloc (.cells #[.string ⟨#[]⟩, .int .i64 0, .string ⟨#[]⟩] 33)) v106.heap.size 33 It.nil.arr) := Lib.hid box_new
        have HB7 : Hid (vs.heap.size ≤ v106.heap.size) := Lib.hid hHeld.size
        obtain ⟨v110, hv9⟩ : ∃ q, q = (v106.alloc (.cells #[.string ⟨#[]⟩, .int .i64 0, .string ⟨#[]⟩] 33)) := ⟨_, rfl⟩
        refine hK.out _ _ (bch hHeld hba) (fun hHeld => ?_)
        clear hba
        rw [← hv9] at Z7 hHeld ⊢
        clear hv9
        obtain ⟨b7, hg9⟩ : ∃ q, q = v106.heap.size := ⟨_, rfl⟩
        rw [← hg9] at Z7 HB7 ⊢
        clear hg9
        (try simp only [Act.put, List.setIfInBounds_toArray, List.set_cons_zero, List.set_cons_succ])
        refine wpAnyH_ready (rs := [11]) (by kernel_rfl) (by simp) (AllReadyH.cons (o := { dst := none, op := Op.store 33 (Operand.tmp 5) (Operand.tmp 15), type := 0, pos := "op.go:71", after := #[{ on := 10, ground := Ground.data }, { on := 8, ground := Ground.data }, { on := 6, ground := Ground.chain }, { on := 0, ground := Ground.phase }, { on := 1, ground := Ground.phase }, { on := 2, ground := Ground.phase }, { on := 3, ground := Ground.phase }, { on := 4, ground := Ground.phase }, { on := 5, ground := Ground.phase }, { on := 6, ground := Ground.phase }, { on := 7, ground := Ground.phase }, { on := 8, ground := Ground.phase }, { on := 9, ground := Ground.textOnly Departure.lateStores }, { on := 10, ground := Ground.phase }], guard := none }) rfl (fun K hK => ?_) AllReadyH.nil)
        · refine wp_store_if (by rfl) 33 (.tmp 5) (.tmp 15) rfl b7 33 It.nil.arr y.arr rfl rfl Z7.out (info35 _) rfl (iarr_one _) ?_
          have Z8 : Hid (Box (v110.setRow b7 y.arr) b7 33 y.arr) := Lib.hid (Z7.out.row _)
          refine hK.out _ _ (below_row hHeld HB7.out _) (fun hHeld => ?_)
          clear Z7
          (try simp only [Act.put])
          refine wpAnyH_take (i := 12) (oi := { dst := some 6, op := Op.assign (Operand.tmp 16), type := 4, pos := "op.go:71", after := #[{ on := 9, ground := Ground.data }, { on := 11, ground := Ground.chain }, { on := 0, ground := Ground.phase }, { on := 1, ground := Ground.phase }, { on := 2, ground := Ground.phase }, { on := 3, ground := Ground.phase }, { on := 4, ground := Ground.phase }, { on := 5, ground := Ground.phase }, { on := 6, ground := Ground.phase }, { on := 7, ground := Ground.phase }, { on := 8, ground := Ground.phase }, { on := 9, ground := Ground.phase }, { on := 10, ground := Ground.phase }, { on := 11, ground := Ground.phase }], guard := none }) (v := ?_) rfl (by kernel_rfl) (by kernel_rfl) (by kernel_rfl) (fun _ _ _ h => h) (Or.inl ⟨by rfl, ?_⟩) hHeld ?_
          rotate_left
          · (intro w hSw; go_simp; try with_reducible rfl)
          (try simp only [Act.put, List.setIfInBounds_toArray, List.set_cons_zero, List.set_cons_succ])
          refine wpAnyH_done (by kernel_rfl) ?_ _
          first | refine hK2 _ _ (Met.intro (hJ _ _ ?_)) | refine Met.intro (hJ _ _ ?_)
          (repeat apply Exists.intro)
          refine ⟨?_, rfl⟩
          exact ⟨_, rfl, rfl, Z8, Lib.hid hHeld, HB7⟩
    · go_simp
      have hba : Below v0.heap.size v0 (v0.alloc (.cells #[.string ⟨#[]⟩, .int .i64 0, .string ⟨#[]⟩] 33)) := below_new _ _
      have Z7 : Hid (Box (v0.alloc (.cells #[.string ⟨#[]⟩, .int .i64 0, .string ⟨#[]⟩] 33)) v0.heap.size 33 It.nil.arr) := Lib.hid box_new
      have HB7 : Hid (vs.heap.size ≤ v0.heap.size) := Lib.hid hHeld.size
      obtain ⟨v110, hv9⟩ : ∃ q, q = (v0.alloc (.cells #[.string ⟨#[]⟩, .int .i64 0, .string ⟨#[]⟩] 33)) := ⟨_, rfl⟩
      refine hK.out _ _ (bch hHeld hba) (fun hHeld => ?_)
      clear hba
      rw [← hv9] at Z7 hHeld ⊢
      clear hv9
      obtain ⟨b7, hg9⟩ : ∃ q, q = v0.heap.size := ⟨_, rfl⟩
      rw [← hg9] at Z7 HB7 ⊢
      clear hg9
      (try simp only [Act.put, List.setIfInBounds_toArray, List.set_cons_zero, List.set_cons_succ])
      refine wpAnyH_ready (rs := [6]) (by kernel_rfl) (by simp) (AllReadyH.cons (o := { dst := some 14, op := Op.call { callee := Callee.value (Operand.func 48), args := #[Operand.tmp 11, Operand.tmp 13], argTypes := #[22, 9] }, type := 43, pos := "op.go:71", after := #[{ on := 3, ground := Ground.data }, { on := 5, ground := Ground.data }], guard := none }) rfl (fun K hK => ?_) AllReadyH.nil)
      · go_simp
        refine (HGET.out _ hHeld).mono ?_
        rintro e v106 ⟨rfl, hba⟩
        have Z7 := Lib.hid (Z7.out.on hba)
        refine hK.out _ _ (bch hHeld hba) (fun hHeld => ?_)
        clear hba
        (try simp only [Act.put, List.setIfInBounds_toArray, List.set_cons_zero, List.set_cons_succ])
        refine wpAnyH_take (i := 7) (oi := { dst := some 7, op := Op.move (Operand.tmp 14), type := 43, pos := "op.go:71", after := #[{ on := 6, ground := Ground.data }], guard := none }) (v := ?_) rfl (by kernel_rfl) (by kernel_rfl) (by kernel_rfl) (fun _ _ _ h => h) (Or.inl ⟨by rfl, ?_⟩) hHeld ?_
        rotate_left
        · (intro w hSw; go_simp; try with_reducible rfl)
        (try simp only [Act.put, List.setIfInBounds_toArray, List.set_cons_zero, List.set_cons_succ])
        refine wpAnyH_take (i := 8) (oi := { dst := some 15, op := Op.extract (Operand.tmp 7) 0, type := 33, pos := "op.go:71", after := #[{ on := 7, ground := Ground.data }], guard := none }) (v := ?_) rfl (by kernel_rfl) (by kernel_rfl) (by kernel_rfl) (fun _ _ _ h => h) (Or.inl ⟨by rfl, ?_⟩) hHeld ?_
        rotate_left
        · (intro w hSw; go_simp; try with_reducible rfl)
        (try simp only [Act.put, List.setIfInBounds_toArray, List.set_cons_zero, List.set_cons_succ])
        refine wpAnyH_take (i := 9) (oi := { dst := some 16, op := Op.extract (Operand.tmp 7) 1, type := 4, pos := "op.go:71", after := #[{ on := 7, ground := Ground.data }, { on := 11, ground := Ground.gcOnly Departure.lateStores }], guard := none }) (v := ?_) rfl (by kernel_rfl) (by kernel_rfl) (by kernel_rfl) (fun _ _ _ h => h) (Or.inl ⟨by rfl, ?_⟩) hHeld ?_
        rotate_left
        · (intro w hSw; go_simp; try with_reducible rfl)
        (try simp only [Act.put, List.setIfInBounds_toArray, List.set_cons_zero, List.set_cons_succ])
        refine wpAnyH_ready (rs := [11]) (by kernel_rfl) (by simp) (AllReadyH.cons (o := { dst := none, op := Op.store 33 (Operand.tmp 5) (Operand.tmp 15), type := 0, pos := "op.go:71", after := #[{ on := 10, ground := Ground.data }, { on := 8, ground := Ground.data }, { on := 6, ground := Ground.chain }, { on := 0, ground := Ground.phase }, { on := 1, ground := Ground.phase }, { on := 2, ground := Ground.phase }, { on := 3, ground := Ground.phase }, { on := 4, ground := Ground.phase }, { on := 5, ground := Ground.phase }, { on := 6, ground := Ground.phase }, { on := 7, ground := Ground.phase }, { on := 8, ground := Ground.phase }, { on := 9, ground := Ground.textOnly Departure.lateStores }, { on := 10, ground := Ground.phase }], guard := none }) rfl (fun K hK => ?_) AllReadyH.nil)
        · refine wp_store_if (by rfl) 33 (.tmp 5) (.tmp 15) rfl b7 33 It.nil.arr y.arr rfl rfl Z7.out (info35 _) rfl (iarr_one _) ?_
          have Z8 : Hid (Box (v106.setRow b7 y.arr) b7 33 y.arr) := Lib.hid (Z7.out.row _)
          refine hK.out _ _ (below_row hHeld HB7.out _) (fun hHeld => ?_)
          clear Z7
          (try simp only [Act.put])
          refine wpAnyH_take (i := 12) (oi := { dst := some 6, op := Op.assign (Operand.tmp 16), type := 4, pos := "op.go:71", after := #[{ on := 9, ground := Ground.data }, { on := 11, ground := Ground.chain }, { on := 0, ground := Ground.phase }, { on := 1, ground := Ground.phase }, { on := 2, ground := Ground.phase }, { on := 3, ground := Ground.phase }, { on := 4, ground := Ground.phase }, { on := 5, ground := Ground.phase }, { on := 6, ground := Ground.phase }, { on := 7, ground := Ground.phase }, { on := 8, ground := Ground.phase }, { on := 9, ground := Ground.phase }, { on := 10, ground := Ground.phase }, { on := 11, ground := Ground.phase }], guard := none }) (v := ?_) rfl (by kernel_rfl) (by kernel_rfl) (by kernel_rfl) (fun _ _ _ h => h) (Or.inl ⟨by rfl, ?_⟩) hHeld ?_
          rotate_left
          · (intro w hSw; go_simp; try with_reducible rfl)
          (try simp only [Act.put, List.setIfInBounds_toArray, List.set_cons_zero, List.set_cons_succ])
          refine wpAnyH_done (by kernel_rfl) ?_ _
          first | refine hK2 _ _ (Met.intro (hJ _ _ ?_)) | refine Met.intro (hJ _ _ ?_)
          (repeat apply Exists.intro)
          refine ⟨?_, rfl⟩
          exact ⟨_, rfl, rfl, Z8, Lib.hid hHeld, HB7⟩
  case rest =>
    obtain ⟨b7, rfl, rfl, Z7, HB, HB7⟩ := hcut
    obtain ⟨w2, hw2⟩ : ∃ z, z = wc := ⟨_, rfl⟩
    rw [← hw2] at HB Z7 ⊢
    have HB2 := Lib.hid (bch HB1.out (bch HV2.out HB.out))
    have X2 := Lib.hid (XO.out.on HB.out)
    have HG2 := Lib.hid (HGV.out.on HB.out)
    have HT2 := Lib.hid (HTV.out.on HB.out)
    obtain ⟨c0, c1, c2⟩ := Z7.out.it
    have p1 : w2.cell? ⟨bo, 1, none⟩ = some (.string ⟨o.path.toArray⟩) := X2.out.cell (k := 1) rfl
    have p3 : w2.cell? ⟨bo, 3, none⟩ = some (.string ⟨o.data.toArray⟩) := X2.out.cell (k := 3) rfl
    clear hw2 XG HGET hvs hv0
    cases q with
    | none =>
      obtain rfl : is = false := HI.out
      have HR : Hid (r = .error 4) := Lib.hid (by rw [HR0.out]; unfold extendM; rw [HQ.out])
      go_wp2_with fail
      go_ret
      exact GrR.no HR.out HG.out HB2.out
    | some z =>
      obtain rfl : is = true := HI.out
      obtain rfl : y = z := HY.out
      by_cases hk : y.kind = 2
      · have t1 : (y.kind != 2) = false := by simp [hk]
        have t1' : (y.kind == 2) = true := by simp [hk]
        obtain ⟨hyp, hyl⟩ := path_of HOK.out HQ.out (by omega)
        have hyd := file_data HOK.out hyl hk
        have HR1 : Hid (r = if 524288 < y.data.length + o.data.length then .error 3 else .ok (putL l [⟨o.path, 2, y.data ++ o.data⟩] o.path)) := Lib.hid (by rw [HR0.out]; unfold extendM; rw [HQ.out]; simp only; rw [if_neg (by simpa using hk)])
        have HK := Lib.hid hk
        have HYP := Lib.hid hyp
        clear hk hyp hyl
        by_cases hlen : 524288 < y.data.length + o.data.length
        · have t2 : (524288 : Int) < (y.data.length : Int) + (o.data.length : Int) := by omega
          have HR : Hid (r = .error 3) := Lib.hid (by rw [HR1.out, if_pos hlen])
          clear hlen
          go_wp2_with fail
          go_ret
          exact GrR.no HR.out HG.out HB2.out
        · have t2 : ¬ (524288 : Int) < (y.data.length : Int) + (o.data.length : Int) := by omega
          have t3 : ¬ 9223372036854775807 < y.data.length + o.data.length := by omega
          have HR : Hid (r = .ok (putL l [⟨o.path, 2, y.data ++ o.data⟩] o.path)) := Lib.hid (by rw [HR1.out, if_neg hlen])
          have f2 := frozen_of_row w2 b7 2 _ _ Z7.out
          obtain ⟨w3, hw3⟩ : ∃ z, z = w2.setCell ⟨b7, 2, none⟩ (.string (⟨y.data.toArray⟩ ++ ⟨o.data.toArray⟩)) := ⟨_, rfl⟩
          obtain ⟨x, hx⟩ : ∃ x : It, x = ⟨y.path, y.kind, y.data ++ o.data⟩ := ⟨_, rfl⟩
          have Z9 : Hid (Box w3 b7 33 x.arr) := Lib.hid (by
            have := Z7.out.set (k := 2) (.string (⟨y.data.toArray⟩ ++ ⟨o.data.toArray⟩))
            rw [← hw3, ba_app] at this
            rw [hx]
            exact this)
          have HB3 : Hid (Below w.heap.size w w3) := Lib.hid (by rw [hw3]; exact HB2.out.setCell (p := ⟨b7, 2, none⟩) (Nat.le_trans (Nat.le_trans HB1.out.size HV2.out.size) HB7.out) _)
          have HBV3 : Hid (Below vs.heap.size vs w3) := Lib.hid (by rw [hw3]; exact HB.out.setCell (p := ⟨b7, 2, none⟩) HB7.out _)
          have HG3 := Lib.hid (HGV.out.on HBV3.out)
          have HP := Lib.hid (put_one B b _ l x w3 HG3.out HOK.out (by rw [hx]; show validB y.path = true; rw [HYP.out]; exact HV.out))
          have HE : Hid (putL l [x] x.path = putL l [⟨o.path, 2, y.data ++ o.data⟩] o.path) := Lib.hid (by rw [hx]; show putL l [⟨y.path, y.kind, _⟩] y.path = _; rw [HYP.out, HK.out])
          clear hlen hx
          go_upto_region 9 with fail
          rw [← hw3]
          clear hw3 c0 c1 c2 p1 p3 f2
          obtain ⟨c0, c1, c2⟩ := Z9.out.it
          go_wp2_with fail
          refine HP.out.mono ?_
          rintro e w4 ⟨v', rfl, hG4, hN4⟩
          rw [HE.out] at hG4
          have HE4 := Lib.hid (GrR.yes (w := w) (v := .slice a n c) (l := l) HR.out hG4 ((Nxt.below HB3.out b _).trans hN4))
          clear hG4 hN4 c0 c1 c2
          go_wp2_with fail
          go_ret
          exact HE4.out
      · have t1 : (y.kind != 2) = true := by simp [hk]
        have t1' : (y.kind == 2) = false := by simp [hk]
        have HR : Hid (r = .error 161) := Lib.hid (by rw [HR0.out]; unfold extendM; rw [HQ.out]; simp only; rw [if_pos hk])
        clear hk
        go_wp2_with fail
        go_ret
        exact GrR.no HR.out HG.out HB2.out

set_option maxRecDepth 100000 in
set_option maxHeartbeats 4000000 in
theorem write_any (B b : Nat) (v : Value) (l : List It) (o : Opn) (w : World) (hG : Gr w B b v l) (h : TreeOk l) (hv : validB o.path = true) (hT : Tabs w) :
    Calls Tryz.prog 73 #[.pointer (some ⟨b, 0, none⟩), .agg o.arr] w (GrR B b v l (writeM l o.path o.data) w) := by
  obtain ⟨w1, hw1⟩ : ∃ z, z = w.alloc (.cells o.arr 51) := ⟨_, rfl⟩
  have hpl : o.path.length ≤ 140737488355328 := Nat.le_trans (valid_len _ hv) (by decide)
  obtain ⟨bo, hbo⟩ : ∃ z, z = w.heap.size := ⟨_, rfl⟩
  have X1 : Hid (Box w1 bo 51 o.arr) := Lib.hid (by rw [hw1, hbo]; exact box_new)
  have HB1 : Hid (Below w.heap.size w w1) := Lib.hid (by rw [hw1]; exact below_new _ _)
  have HG1 : Hid (Gr w1 B b v l) := Lib.hid (hG.on HB1.out)
  have HT1 : Hid (Tabs w1) := Lib.hid (hT.on HB1.out)
  have HG := Lib.hid hG
  have HOK := Lib.hid h
  have HV := Lib.hid hv
  obtain ⟨z, hz⟩ : ∃ z, z = openM l o.path := ⟨_, rfl⟩
  have HOP : Hid (Calls Tryz.prog 101 #[.pointer (some ⟨b, 0, none⟩), .string ⟨o.path.toArray⟩] w1 fun e w' => e = .returned (.int .i64 z) ∧ Below w1.heap.size w1 w') := Lib.hid (by
    rw [hz]
    exact open_any B b v l o.path w1 HG1.out (srt_of h) h.many (tree_sz h) hv HT1.out)
  have q1 : w1.cell? ⟨bo, 1, none⟩ = some (.string ⟨o.path.toArray⟩) := X1.out.cell (k := 1) rfl
  obtain ⟨r, hr⟩ : ∃ r, r = writeM l o.path o.data := ⟨_, rfl⟩
  rw [← hr]
  by_cases hz0 : z = 0
  · have HR0 : Hid (r = match getI l o.path with | some x => if x.kind = 2 then .ok (putL l [⟨o.path, 2, o.data⟩] o.path) else .error 161 | none => if l.length = 2000 then .error 6 else .ok (putL l [⟨o.path, 2, o.data⟩] o.path)) := Lib.hid (by rw [hr]; unfold writeM; rw [if_neg (by rw [← hz]; simpa using hz0)]; cases getI l o.path <;> rfl)
    subst hz0
    clear hz hr hv h hT hG
    go_enter Tryz.func73, Tryz.ntmps73
    go_upto_region 1 with fail
    rw [← hw1, ← hbo]
    clear hw1 hbo
    go_wp2_with fail
    refine HOP.out.mono ?_
    rintro e wo ⟨rfl, hb⟩
    have Xo := Lib.hid (X1.out.on hb)
    have HBo := Lib.hid (bch HB1.out hb)
    have HGo := Lib.hid (HG1.out.on hb)
    have HTo := Lib.hid (HT1.out.on hb)
    clear hb HOP q1
    go_upto_region 4 with fail
    obtain ⟨q, hq⟩ : ∃ q, getI l o.path = q := ⟨_, rfl⟩
    obtain ⟨y, hy⟩ : ∃ y, y = q.getD .nil := ⟨_, rfl⟩
    obtain ⟨is, his⟩ : ∃ z, z = q.isSome := ⟨_, rfl⟩
    obtain ⟨v0, hv0⟩ : ∃ z, z = World.drew wo := ⟨_, rfl⟩
    obtain ⟨vs, hvs⟩ : ∃ z, z = World.drew wo := ⟨_, rfl⟩
    have HGV : Hid (Gr vs B b v l) := Lib.hid (by rw [hvs]; exact HGo.out.drew)
    have HTV : Hid (Tabs vs) := Lib.hid (by rw [hvs]; exact HTo.out.on ((Below.refl _ _).drew))
    have HV2 : Hid (Below wo.heap.size wo vs) := Lib.hid (by rw [hvs]; exact (Below.refl _ _).drew)
    have XO : Hid (Box vs bo 51 o.arr) := Lib.hid (Xo.out.on HV2.out)
    obtain ⟨a, n, c, rfl⟩ := own_any HGV.out.own
    have XG : Hid (Box vs b 82 #[.slice a n c]) := Lib.hid HGV.out.box
    have HGET : Hid (∀ W, Below vs.heap.size vs W → Calls Tryz.prog 48 #[.slice a n c, .string ⟨o.path.toArray⟩] W fun e w' => e = .returned (.tuple #[.agg y.arr, .bool is]) ∧ Below W.heap.size W w') := Lib.hid (fun W hW => by
      have := tget_gen l (.slice a n c) o.path W (srt_of HOK.out) HOK.out.many (HGV.out.on hW).rd (tree_sz HOK.out) (Nat.le_trans (valid_len _ HV.out) (by decide)) (HTV.out.on hW)
      rw [hq] at this
      rw [hy, his]
      exact this)
    have HQ := Lib.hid hq
    have HY := Lib.hid hy
    have HI := Lib.hid his
    clear hq hy his hpl
    go_cut [6, 7] (CutG vs y is)
    case first =>
      rename_i J2 K2 hJ hK2
      refine wp_region_held_drew (S := fun w' => Below vs.heap.size vs w') (by kernel_rfl) (by rw [hvs]; exact Below.refl _ _) (fun hHeld => ?_)
      rw [← hv0] at hHeld ⊢
      clear hv0 hvs
      refine wpAnyH_take (i := 0) (oi := { dst := some 16, op := Op.move (Operand.tmp 0), type := 101, pos := "op.go:59", after := #[], guard := none }) (v := ?_) rfl (by kernel_rfl) (by kernel_rfl) (by kernel_rfl) (fun _ _ _ h => h) (Or.inl ⟨by rfl, ?_⟩) hHeld ?_
      rotate_left
      · (intro w hSw; go_simp; try with_reducible rfl)
      (try simp only [Act.put, List.setIfInBounds_toArray, List.set_cons_zero, List.set_cons_succ])
      refine wpAnyH_take (i := 1) (oi := { dst := some 17, op := Op.nilCheck (Operand.tmp 16), type := 0, pos := "op.go:59", after := #[{ on := 0, ground := Ground.data }], guard := none }) (v := ?_) rfl (by kernel_rfl) (by kernel_rfl) (by kernel_rfl) (fun _ _ _ h => h) (Or.inl ⟨by rfl, ?_⟩) hHeld ?_
      rotate_left
      · (intro w hSw; go_simp; try with_reducible rfl)
      (try simp only [Act.put, List.setIfInBounds_toArray, List.set_cons_zero, List.set_cons_succ])
      refine wpAnyH_take (i := 2) (oi := { dst := some 18, op := Op.fieldAddr 82 (Operand.tmp 17) 0, type := 0, pos := "op.go:59", after := #[{ on := 1, ground := Ground.data }], guard := none }) (v := ?_) rfl (by kernel_rfl) (by kernel_rfl) (by kernel_rfl) (fun _ _ _ h => h) (Or.inl ⟨by rfl, ?_⟩) hHeld ?_
      rotate_left
      · (intro w hSw; go_simp; try with_reducible rfl)
      (try simp only [Act.put, List.setIfInBounds_toArray, List.set_cons_zero, List.set_cons_succ])
      refine wpAnyH_take (i := 3) (oi := { dst := some 19, op := Op.load 22 (Operand.tmp 18), type := 22, pos := "op.go:59", after := #[{ on := 2, ground := Ground.data }], guard := none }) (v := ?_) rfl (by kernel_rfl) (by kernel_rfl) (by kernel_rfl) (fun _ _ _ h => h) (Or.inl ⟨by rfl, ?_⟩) hHeld ?_
      rotate_left
      · (intro w hSw; have p0 : w.cell? ⟨b, 0, none⟩ = some (.slice a n c) := (XG.out.on hSw).cell (k := 0) rfl; go_simp; try with_reducible rfl)
      (try simp only [Act.put, List.setIfInBounds_toArray, List.set_cons_zero, List.set_cons_succ])
      refine wpAnyH_take (i := 4) (oi := { dst := some 20, op := Op.fieldAddr 51 (Operand.tmp 3) 1, type := 0, pos := "op.go:59", after := #[], guard := none }) (v := ?_) rfl (by kernel_rfl) (by kernel_rfl) (by kernel_rfl) (fun _ _ _ h => h) (Or.inl ⟨by rfl, ?_⟩) hHeld ?_
      rotate_left
      · (intro w hSw; go_simp; try with_reducible rfl)
      (try simp only [Act.put, List.setIfInBounds_toArray, List.set_cons_zero, List.set_cons_succ])
      refine wpAnyH_take (i := 5) (oi := { dst := some 21, op := Op.load 9 (Operand.tmp 20), type := 9, pos := "op.go:59", after := #[{ on := 4, ground := Ground.data }], guard := none }) (v := ?_) rfl (by kernel_rfl) (by kernel_rfl) (by kernel_rfl) (fun _ _ _ h => h) (Or.inl ⟨by rfl, ?_⟩) hHeld ?_
      rotate_left
      · (intro w hSw; have p0 : w.cell? ⟨bo, 1, none⟩ = some (.string ⟨o.path.toArray⟩) := (XO.out.on hSw).cell (k := 1) rfl; go_simp; try with_reducible rfl)
      (try simp only [Act.put, List.setIfInBounds_toArray, List.set_cons_zero, List.set_cons_succ])
      refine wpAnyH_ready (rs := [6, 10]) (by kernel_rfl) (by simp) (AllReadyH.cons (o := { dst := some 22, op := Op.call { callee := Callee.value (Operand.func 48), args := #[Operand.tmp 19, Operand.tmp 21], argTypes := #[22, 9] }, type := 43, pos := "op.go:59", after := #[{ on := 3, ground := Ground.data }, { on := 5, ground := Ground.data }], guard := none }) rfl (fun K hK => ?_) (AllReadyH.cons (o := { dst := some 6, op := Op.alloc 33, type := 0, pos := "op.go:59", after := #[], guard := none }) rfl (fun K hK => ?_) AllReadyH.nil))
      · go_simp
        refine (HGET.out _ hHeld).mono ?_
        rintro e v106 ⟨rfl, hba⟩
        refine hK.out _ _ (bch hHeld hba) (fun hHeld => ?_)
        clear hba
        (try simp only [Act.put, List.setIfInBounds_toArray, List.set_cons_zero, List.set_cons_succ])
        refine wpAnyH_take (i := 7) (oi := { dst := some 15, op := Op.move (Operand.tmp 22), type := 43, pos := "op.go:59", after := #[{ on := 6, ground := Ground.data }], guard := none }) (v := ?_) rfl (by kernel_rfl) (by kernel_rfl) (by kernel_rfl) (fun _ _ _ h => h) (Or.inl ⟨by rfl, ?_⟩) hHeld ?_
        rotate_left
        · (intro w hSw; go_simp; try with_reducible rfl)
        (try simp only [Act.put, List.setIfInBounds_toArray, List.set_cons_zero, List.set_cons_succ])
        refine wpAnyH_take (i := 8) (oi := { dst := some 23, op := Op.extract (Operand.tmp 15) 0, type := 33, pos := "op.go:59", after := #[{ on := 7, ground := Ground.data }], guard := none }) (v := ?_) rfl (by kernel_rfl) (by kernel_rfl) (by kernel_rfl) (fun _ _ _ h => h) (Or.inl ⟨by rfl, ?_⟩) hHeld ?_
        rotate_left
        · (intro w hSw; go_simp; try with_reducible rfl)
        (try simp only [Act.put, List.setIfInBounds_toArray, List.set_cons_zero, List.set_cons_succ])
        refine wpAnyH_take (i := 9) (oi := { dst := some 24, op := Op.extract (Operand.tmp 15) 1, type := 4, pos := "op.go:59", after := #[{ on := 7, ground := Ground.data }, { on := 11, ground := Ground.gcOnly Departure.lateStores }], guard := none }) (v := ?_) rfl (by kernel_rfl) (by kernel_rfl) (by kernel_rfl) (fun _ _ _ h => h) (Or.inl ⟨by rfl, ?_⟩) hHeld ?_
        rotate_left
        · (intro w hSw; go_simp; try with_reducible rfl)
        (try simp only [Act.put, List.setIfInBounds_toArray, List.set_cons_zero, List.set_cons_succ])
        refine wpAnyH_ready (rs := [10]) (by kernel_rfl) (by simp) (AllReadyH.cons (o := { dst := some 6, op := Op.alloc 33, type := 0, pos := "op.go:59", after := #[], guard := none }) rfl (fun K hK => ?_) AllReadyH.nil)
        · go_simp
          have hba : Below v106.heap.size v106 (v106.alloc (.cells #[.string ⟨#[]⟩, .int .i64 0, .string ⟨#[]⟩] 33)) := below_new _ _
          have Z7 : Hid (Box (v106.alloc (.cells #[.string ⟨#[]⟩, .int .i64 0, .string ⟨#[]⟩] 33)) v106.heap.size 33 It.nil.arr) := Lib.hid box_new
          have HB7 : Hid (vs.heap.size ≤ v106.heap.size) := Lib.hid hHeld.size
          obtain ⟨v110, hv9⟩ : ∃ q, q = (v106.alloc (.cells #[.string ⟨#[]⟩, .int .i64 0, .string ⟨#[]⟩] 33)) := ⟨_, rfl⟩
          refine hK.out _ _ (bch hHeld hba) (fun hHeld => ?_)
          clear hba
          rw [← hv9] at Z7 hHeld ⊢
          clear hv9
          obtain ⟨b7, hg9⟩ : ∃ q, q = v106.heap.size := ⟨_, rfl⟩
          rw [← hg9] at Z7 HB7 ⊢
          clear hg9
          (try simp only [Act.put, List.setIfInBounds_toArray, List.set_cons_zero, List.set_cons_succ])
          refine wpAnyH_ready (rs := [11]) (by kernel_rfl) (by simp) (AllReadyH.cons (o := { dst := none, op := Op.store 33 (Operand.tmp 6) (Operand.tmp 23), type := 0, pos := "op.go:59", after := #[{ on := 10, ground := Ground.data }, { on := 8, ground := Ground.data }, { on := 6, ground := Ground.chain }, { on := 0, ground := Ground.phase }, { on := 1, ground := Ground.phase }, { on := 2, ground := Ground.phase }, { on := 3, ground := Ground.phase }, { on := 4, ground := Ground.phase }, { on := 5, ground := Ground.phase }, { on := 6, ground := Ground.phase }, { on := 7, ground := Ground.phase }, { on := 8, ground := Ground.phase }, { on := 9, ground := Ground.textOnly Departure.lateStores }, { on := 10, ground := Ground.phase }], guard := none }) rfl (fun K hK => ?_) AllReadyH.nil)
          · refine wp_store_if (by rfl) 33 (.tmp 6) (.tmp 23) rfl b7 33 It.nil.arr y.arr rfl rfl Z7.out (info35 _) rfl (iarr_one _) ?_
            have Z8 : Hid (Box (v110.setRow b7 y.arr) b7 33 y.arr) := Lib.hid (Z7.out.row _)
            refine hK.out _ _ (below_row hHeld HB7.out _) (fun hHeld => ?_)
            clear Z7
            (try simp only [Act.put])
            refine wpAnyH_take (i := 12) (oi := { dst := some 7, op := Op.assign (Operand.tmp 24), type := 4, pos := "op.go:59", after := #[{ on := 9, ground := Ground.data }, { on := 11, ground := Ground.chain }, { on := 0, ground := Ground.phase }, { on := 1, ground := Ground.phase }, { on := 2, ground := Ground.phase }, { on := 3, ground := Ground.phase }, { on := 4, ground := Ground.phase }, { on := 5, ground := Ground.phase }, { on := 6, ground := Ground.phase }, { on := 7, ground := Ground.phase }, { on := 8, ground := Ground.phase }, { on := 9, ground := Ground.phase }, { on := 10, ground := Ground.phase }, { on := 11, ground := Ground.phase }], guard := none }) (v := ?_) rfl (by kernel_rfl) (by kernel_rfl) (by kernel_rfl) (fun _ _ _ h => h) (Or.inl ⟨by rfl, ?_⟩) hHeld ?_
            rotate_left
            · (intro w hSw; go_simp; try with_reducible rfl)
            (try simp only [Act.put, List.setIfInBounds_toArray, List.set_cons_zero, List.set_cons_succ])
            refine wpAnyH_done (by kernel_rfl) ?_ _
            first | refine hK2 _ _ (Met.intro (hJ _ _ ?_)) | refine Met.intro (hJ _ _ ?_)
            (repeat apply Exists.intro)
            refine ⟨?_, rfl⟩
            exact ⟨_, rfl, rfl, Z8, Lib.hid hHeld, HB7⟩
      · go_simp
        have hba : Below v0.heap.size v0 (v0.alloc (.cells #[.string ⟨#[]⟩, .int .i64 0, .string ⟨#[]⟩] 33)) := below_new _ _
        have Z7 : Hid (Box (v0.alloc (.cells #[.string ⟨#[]⟩, .int .i64 0, .string ⟨#[]⟩] 33)) v0.heap.size 33 It.nil.arr) := Lib.hid box_new
        have HB7 : Hid (vs.heap.size ≤ v0.heap.size) := Lib.hid hHeld.size
        obtain ⟨v110, hv9⟩ : ∃ q, q = (v0.alloc (.cells #[.string ⟨#[]⟩, .int .i64 0, .string ⟨#[]⟩] 33)) := ⟨_, rfl⟩
        refine hK.out _ _ (bch hHeld hba) (fun hHeld => ?_)
        clear hba
        rw [← hv9] at Z7 hHeld ⊢
        clear hv9
        obtain ⟨b7, hg9⟩ : ∃ q, q = v0.heap.size := ⟨_, rfl⟩
        rw [← hg9] at Z7 HB7 ⊢
        clear hg9
        (try simp only [Act.put, List.setIfInBounds_toArray, List.set_cons_zero, List.set_cons_succ])
        refine wpAnyH_ready (rs := [6]) (by kernel_rfl) (by simp) (AllReadyH.cons (o := { dst := some 22, op := Op.call { callee := Callee.value (Operand.func 48), args := #[Operand.tmp 19, Operand.tmp 21], argTypes := #[22, 9] }, type := 43, pos := "op.go:59", after := #[{ on := 3, ground := Ground.data }, { on := 5, ground := Ground.data }], guard := none }) rfl (fun K hK => ?_) AllReadyH.nil)
        · go_simp
          refine (HGET.out _ hHeld).mono ?_
          rintro e v106 ⟨rfl, hba⟩
          have Z7 := Lib.hid (Z7.out.on hba)
          refine hK.out _ _ (bch hHeld hba) (fun hHeld => ?_)
          clear hba
          (try simp only [Act.put, List.setIfInBounds_toArray, List.set_cons_zero, List.set_cons_succ])
          refine wpAnyH_take (i := 7) (oi := { dst := some 15, op := Op.move (Operand.tmp 22), type := 43, pos := "op.go:59", after := #[{ on := 6, ground := Ground.data }], guard := none }) (v := ?_) rfl (by kernel_rfl) (by kernel_rfl) (by kernel_rfl) (fun _ _ _ h => h) (Or.inl ⟨by rfl, ?_⟩) hHeld ?_
          rotate_left
          · (intro w hSw; go_simp; try with_reducible rfl)
          (try simp only [Act.put, List.setIfInBounds_toArray, List.set_cons_zero, List.set_cons_succ])
          refine wpAnyH_take (i := 8) (oi := { dst := some 23, op := Op.extract (Operand.tmp 15) 0, type := 33, pos := "op.go:59", after := #[{ on := 7, ground := Ground.data }], guard := none }) (v := ?_) rfl (by kernel_rfl) (by kernel_rfl) (by kernel_rfl) (fun _ _ _ h => h) (Or.inl ⟨by rfl, ?_⟩) hHeld ?_
          rotate_left
          · (intro w hSw; go_simp; try with_reducible rfl)
          (try simp only [Act.put, List.setIfInBounds_toArray, List.set_cons_zero, List.set_cons_succ])
          refine wpAnyH_take (i := 9) (oi := { dst := some 24, op := Op.extract (Operand.tmp 15) 1, type := 4, pos := "op.go:59", after := #[{ on := 7, ground := Ground.data }, { on := 11, ground := Ground.gcOnly Departure.lateStores }], guard := none }) (v := ?_) rfl (by kernel_rfl) (by kernel_rfl) (by kernel_rfl) (fun _ _ _ h => h) (Or.inl ⟨by rfl, ?_⟩) hHeld ?_
          rotate_left
          · (intro w hSw; go_simp; try with_reducible rfl)
          (try simp only [Act.put, List.setIfInBounds_toArray, List.set_cons_zero, List.set_cons_succ])
          refine wpAnyH_ready (rs := [11]) (by kernel_rfl) (by simp) (AllReadyH.cons (o := { dst := none, op := Op.store 33 (Operand.tmp 6) (Operand.tmp 23), type := 0, pos := "op.go:59", after := #[{ on := 10, ground := Ground.data }, { on := 8, ground := Ground.data }, { on := 6, ground := Ground.chain }, { on := 0, ground := Ground.phase }, { on := 1, ground := Ground.phase }, { on := 2, ground := Ground.phase }, { on := 3, ground := Ground.phase }, { on := 4, ground := Ground.phase }, { on := 5, ground := Ground.phase }, { on := 6, ground := Ground.phase }, { on := 7, ground := Ground.phase }, { on := 8, ground := Ground.phase }, { on := 9, ground := Ground.textOnly Departure.lateStores }, { on := 10, ground := Ground.phase }], guard := none }) rfl (fun K hK => ?_) AllReadyH.nil)
          · refine wp_store_if (by rfl) 33 (.tmp 6) (.tmp 23) rfl b7 33 It.nil.arr y.arr rfl rfl Z7.out (info35 _) rfl (iarr_one _) ?_
            have Z8 : Hid (Box (v106.setRow b7 y.arr) b7 33 y.arr) := Lib.hid (Z7.out.row _)
            refine hK.out _ _ (below_row hHeld HB7.out _) (fun hHeld => ?_)
            clear Z7
            (try simp only [Act.put])
            refine wpAnyH_take (i := 12) (oi := { dst := some 7, op := Op.assign (Operand.tmp 24), type := 4, pos := "op.go:59", after := #[{ on := 9, ground := Ground.data }, { on := 11, ground := Ground.chain }, { on := 0, ground := Ground.phase }, { on := 1, ground := Ground.phase }, { on := 2, ground := Ground.phase }, { on := 3, ground := Ground.phase }, { on := 4, ground := Ground.phase }, { on := 5, ground := Ground.phase }, { on := 6, ground := Ground.phase }, { on := 7, ground := Ground.phase }, { on := 8, ground := Ground.phase }, { on := 9, ground := Ground.phase }, { on := 10, ground := Ground.phase }, { on := 11, ground := Ground.phase }], guard := none }) (v := ?_) rfl (by kernel_rfl) (by kernel_rfl) (by kernel_rfl) (fun _ _ _ h => h) (Or.inl ⟨by rfl, ?_⟩) hHeld ?_
            rotate_left
            · (intro w hSw; go_simp; try with_reducible rfl)
            (try simp only [Act.put, List.setIfInBounds_toArray, List.set_cons_zero, List.set_cons_succ])
            refine wpAnyH_done (by kernel_rfl) ?_ _
            first | refine hK2 _ _ (Met.intro (hJ _ _ ?_)) | refine Met.intro (hJ _ _ ?_)
            (repeat apply Exists.intro)
            refine ⟨?_, rfl⟩
            exact ⟨_, rfl, rfl, Z8, Lib.hid hHeld, HB7⟩
    case rest =>
      obtain ⟨b7, rfl, rfl, Z7, HB, HB7⟩ := hcut
      obtain ⟨w2, hw2⟩ : ∃ z, z = wc := ⟨_, rfl⟩
      rw [← hw2] at HB Z7 ⊢
      have HB2 := Lib.hid (bch HBo.out (bch HV2.out HB.out))
      have X2 := Lib.hid (XO.out.on HB.out)
      have HG2 := Lib.hid (HGV.out.on HB.out)
      have HT2 := Lib.hid (HTV.out.on HB.out)
      obtain ⟨c0, c1, c2⟩ := Z7.out.it
      have p1 : w2.cell? ⟨bo, 1, none⟩ = some (.string ⟨o.path.toArray⟩) := X2.out.cell (k := 1) rfl
      have p3 : w2.cell? ⟨bo, 3, none⟩ = some (.string ⟨o.data.toArray⟩) := X2.out.cell (k := 3) rfl
      clear hw2 XG HGET hvs hv0
      have bl := built35 ⟨o.path.toArray⟩ ⟨o.data.toArray⟩ 2
      have HPP : Hid (∀ W, Gr W B b (.slice a n c) l → Calls Tryz.prog 103 #[.pointer (some ⟨b, 0, none⟩), .slice (some ⟨W.heap.size, 0, none⟩) 1 1] (W.alloc (.cells #[.string ⟨o.path.toArray⟩, .int .i64 2, .string ⟨o.data.toArray⟩] 33)) (DoneR B b (.slice a n c) (putL l [⟨o.path, 2, o.data⟩] o.path) W)) := Lib.hid (fun W hW => put_one B b _ l ⟨o.path, 2, o.data⟩ W hW HOK.out HV.out)
      rw [HQ.out] at HR0
      cases q with
      | none =>
        obtain rfl : is = false := HI.out
        have HF := Lib.hid (full_any B b _ l w2 HG2.out)
        by_cases hf : l.length = 2000
        · have HR : Hid (r = .error 6) := Lib.hid (by rw [HR0.out]; simp only; rw [if_pos hf])
          have HD : Hid (decide (l.length = 2000) = true) := Lib.hid (decide_eq_true hf)
          rw [HD.out] at HF
          clear hf
          go_wp2_with fail
          refine HF.out.mono ?_
          rintro e w4 ⟨rfl, rfl⟩
          go_wp2_with fail
          go_ret
          exact GrR.no HR.out HG.out HB2.out
        · have HR : Hid (r = .ok (putL l [⟨o.path, 2, o.data⟩] o.path)) := Lib.hid (by rw [HR0.out]; simp only; rw [if_neg hf])
          have HD : Hid (decide (l.length = 2000) = false) := Lib.hid (decide_eq_false hf)
          rw [HD.out] at HF
          have HP := Lib.hid (HPP.out w2 HG2.out)
          clear hf
          go_wp2_with fail
          refine HF.out.mono ?_
          rintro e w4 ⟨rfl, rfl⟩
          go_wp2_with fail
          refine HP.out.mono ?_
          rintro e w4 ⟨v', rfl, hG4, hN4⟩
          have HE := Lib.hid (GrR.yes (w := w) (v := .slice a n c) (l := l) HR.out hG4 ((Nxt.below HB2.out b _).trans hN4))
          clear hG4 hN4 c0 c1 c2 p1 p3
          go_wp2_with fail
          go_ret
          exact HE.out
      | some y' =>
        obtain rfl : is = true := HI.out
        obtain rfl : y = y' := HY.out
        by_cases hk : y.kind = 2
        · have t1 : (y.kind != 2) = false := by simp [hk]
          have t1' : (y.kind == 2) = true := by simp [hk]
          have HR : Hid (r = .ok (putL l [⟨o.path, 2, o.data⟩] o.path)) := Lib.hid (by rw [HR0.out]; simp only; rw [if_pos hk])
          have HP := Lib.hid (HPP.out w2 HG2.out)
          clear hk
          go_wp2_with fail
          refine HP.out.mono ?_
          rintro e w4 ⟨v', rfl, hG4, hN4⟩
          have HE := Lib.hid (GrR.yes (w := w) (v := .slice a n c) (l := l) HR.out hG4 ((Nxt.below HB2.out b _).trans hN4))
          clear hG4 hN4 c0 c1 c2 p1 p3
          go_wp2_with fail
          go_ret
          exact HE.out
        · have t1 : (y.kind != 2) = true := by simp [hk]
          have t1' : (y.kind == 2) = false := by simp [hk]
          have HR : Hid (r = .error 161) := Lib.hid (by rw [HR0.out]; simp only; rw [if_neg hk])
          clear hk
          go_wp2_with fail
          go_ret
          exact GrR.no HR.out HG.out HB2.out
  · have HR : Hid (r = .error z) := Lib.hid (by rw [hr]; unfold writeM; rw [← hz, if_pos hz0])
    have t1 : (z == 0) = false := by simpa using hz0
    have t2 : (z != 0) = true := by simpa using hz0
    clear hz0 hz hr hv h hT hG
    go_enter Tryz.func73, Tryz.ntmps73
    go_upto_region 1 with fail
    rw [← hw1, ← hbo]
    clear hw1 hbo
    go_wp2_with fail
    refine HOP.out.mono ?_
    rintro e w2 ⟨rfl, hb⟩
    have HB2 := Lib.hid (bch HB1.out hb)
    clear hb HOP q1
    go_wp2_with fail
    go_ret
    exact GrR.no HR.out HG.out HB2.out
end Go.Proofs.YtjbbnecegomkcaaGreatDoor
