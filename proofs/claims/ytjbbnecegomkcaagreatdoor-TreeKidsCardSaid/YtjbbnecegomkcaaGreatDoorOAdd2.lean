/- Proved here: add of package tree. -/
import Derived.Test.YtjbbnecegomkcaaGreatDoorOAdd
namespace Go.Proofs.YtjbbnecegomkcaaGreatDoor
open Go.RowKit Go.Shelf

theorem own_apart {w : World} {B : Nat} {v : Value} {l : List It} (h : OwnI w B v l) : v.ownBlock ≠ some w.heap.size := fun e => by
  rcases own_form h with ⟨_, q⟩ | ⟨r, c, _, _, hr, q, _⟩
  · rw [q] at e; cases e
  · rw [q] at e; cases e; omega
set_option maxRecDepth 100000 in
/-- One item, just laid, is put. -/
theorem put_one (B b : Nat) (v : Value) (l : List It) (x : It) (W : World) (hG : Gr W B b v l) (h : TreeOk l) (hv : validB x.path = true) :
    Calls Tryz.prog 103 #[.pointer (some ⟨b, 0, none⟩), .slice (some ⟨W.heap.size, 0, none⟩) 1 1] (W.alloc (.cells #[.string ⟨x.path.toArray⟩, .int .i64 x.kind, .string ⟨x.data.toArray⟩] 33)) (DoneR B b v (putL l [x] x.path) W) := by
  have X : Box (W.alloc (.cells x.arr 33)) W.heap.size 33 x.arr := box_new
  have hb := below_new W (.cells x.arr 33)
  have hlt := hG.box.lt
  refine (put_any B b v l [x] x.path x W.heap.size 0 1 _ (hG.on hb) (srt_of h) h.many (tree_sz h) (Nat.le_trans (valid_len x.path hv) (by decide)) rfl rfl (by simp) (own_apart hG.own) (by omega) ⟨_, _, X⟩ (fun j u hj => ?_) (Nat.le_trans hG.low (by have := hb.size; omega))).mono ?_
  · rw [Nat.zero_add]
    refine X.cell ?_
    rw [← Array.getElem?_toList]
    simpa [flatI, It.cells, It.arr] using hj
  · rintro e w' ⟨v', he, h1, h2⟩
    exact ⟨v', he, h1, (Nxt.below hb b v).trans h2⟩

set_option maxRecDepth 100000 in
set_option maxHeartbeats 4000000 in
theorem add_any (B b : Nat) (v : Value) (l : List It) (x : It) (w : World) (hG : Gr w B b v l) (h : TreeOk l) (hv : validB x.path = true) (hT : Tabs w) :
    Calls Tryz.prog 100 #[.pointer (some ⟨b, 0, none⟩), .agg x.arr] w (GrR B b v l (addM l x) w) := by
  obtain ⟨w1, hw1⟩ : ∃ z, z = w.alloc (.cells x.arr 33) := ⟨_, rfl⟩
  have hpl : x.path.length ≤ 140737488355328 := Nat.le_trans (valid_len _ hv) (by decide)
  obtain ⟨bo, hbo⟩ : ∃ z, z = w.heap.size := ⟨_, rfl⟩
  have X1 : Hid (Box w1 bo 33 x.arr) := Lib.hid (by rw [hw1, hbo]; exact box_new)
  have HB1 : Hid (Below w.heap.size w w1) := Lib.hid (by rw [hw1]; exact below_new _ _)
  have HG1 : Hid (Gr w1 B b v l) := Lib.hid (hG.on HB1.out)
  have HT1 : Hid (Tabs w1) := Lib.hid (hT.on HB1.out)
  have HG := Lib.hid hG
  have HOK := Lib.hid h
  have HV := Lib.hid hv
  obtain ⟨z, hz⟩ : ∃ z, z = openM l x.path := ⟨_, rfl⟩
  have HOP : Hid (Calls Tryz.prog 101 #[.pointer (some ⟨b, 0, none⟩), .string ⟨x.path.toArray⟩] w1 fun e w' => e = .returned (.int .i64 z) ∧ Below w1.heap.size w1 w') := Lib.hid (by
    rw [hz]
    exact open_any B b v l x.path w1 HG1.out (srt_of h) h.many (tree_sz h) hv HT1.out)
  obtain ⟨c0, c1, c2⟩ := X1.out.it
  obtain ⟨r, hr⟩ : ∃ r, r = addM l x := ⟨_, rfl⟩
  rw [← hr]
  by_cases hz0 : z = 0
  · have HR0 : Hid (r = if (getI l x.path).isSome then .error 5 else if l.length = 2000 then .error 6 else .ok (putL l [x] x.path)) := Lib.hid (by rw [hr]; unfold addM; rw [if_neg (by rw [← hz]; simpa using hz0)])
    subst hz0
    clear hz hr hv h hT hG
    go_enter Tryz.func100, Tryz.ntmps100
    go_upto_region 1 with fail
    rw [← hw1, ← hbo]
    clear hw1 hbo
    go_wp2_with fail
    refine HOP.out.mono ?_
    rintro e w2 ⟨rfl, hb⟩
    have X2 := Lib.hid (X1.out.on hb)
    have HB2 := Lib.hid (bch HB1.out hb)
    have HG2 := Lib.hid (HG1.out.on hb)
    have HT2 := Lib.hid (HT1.out.on hb)
    clear hb HOP c0 c1 c2
    go_upto_region 4 with fail
    obtain ⟨o, ho⟩ : ∃ o, getI l x.path = o := ⟨_, rfl⟩
    obtain ⟨y, hy⟩ : ∃ y, y = o.getD .nil := ⟨_, rfl⟩
    obtain ⟨is, his⟩ : ∃ q, q = o.isSome := ⟨_, rfl⟩
    rw [ho] at HR0
    obtain ⟨v0, hv0⟩ : ∃ z, z = World.drew w2 := ⟨_, rfl⟩
    obtain ⟨vs, hvs⟩ : ∃ z, z = World.drew w2 := ⟨_, rfl⟩
    have HGV : Hid (Gr vs B b v l) := Lib.hid (by rw [hvs]; exact HG2.out.drew)
    have HTV : Hid (Tabs vs) := Lib.hid (by rw [hvs]; exact HT2.out.on ((Below.refl _ _).drew))
    have HV2 : Hid (Below w2.heap.size w2 vs) := Lib.hid (by rw [hvs]; exact (Below.refl _ _).drew)
    have XO : Hid (Box vs bo 33 x.arr) := Lib.hid (X2.out.on HV2.out)
    obtain ⟨a, n, c, rfl⟩ := own_any HGV.out.own
    have XG : Hid (Box vs b 82 #[.slice a n c]) := Lib.hid HGV.out.box
    have HGET : Hid (∀ W, Below vs.heap.size vs W → Calls Tryz.prog 48 #[.slice a n c, .string ⟨x.path.toArray⟩] W fun e w' => e = .returned (.tuple #[.agg y.arr, .bool is]) ∧ Below W.heap.size W w') := Lib.hid (fun W hW => by
      have := tget_gen l (.slice a n c) x.path W (srt_of HOK.out) HOK.out.many (HGV.out.on hW).rd (tree_sz HOK.out) (Nat.le_trans (valid_len _ HV.out) (by decide)) (HTV.out.on hW)
      rw [ho] at this
      rw [hy, his]
      exact this)
    have HO := Lib.hid ho
    have HI := Lib.hid his
    clear ho hy his hpl
    go_cut [6, 7] (CutG vs y is)
    case first =>
      rename_i J2 K2 hJ hK2
      refine wp_region_held_drew (S := fun w' => Below vs.heap.size vs w') (by kernel_rfl) (by rw [hvs]; exact Below.refl _ _) (fun hHeld => ?_)
      rw [← hv0] at hHeld ⊢
      clear hv0 hvs
      refine wpAnyH_take (i := 0) (oi := { dst := some 16, op := Op.move (Operand.tmp 0), type := 101, pos := "op.go:139", after := #[], guard := none }) (v := ?_) rfl (by kernel_rfl) (by kernel_rfl) (by kernel_rfl) (fun _ _ _ h => h) (Or.inl ⟨by rfl, ?_⟩) hHeld ?_
      rotate_left
      · (intro w hSw; go_simp; try with_reducible rfl)
      (try simp only [Act.put, List.setIfInBounds_toArray, List.set_cons_zero, List.set_cons_succ])
      refine wpAnyH_take (i := 1) (oi := { dst := some 17, op := Op.nilCheck (Operand.tmp 16), type := 0, pos := "op.go:139", after := #[{ on := 0, ground := Ground.data }], guard := none }) (v := ?_) rfl (by kernel_rfl) (by kernel_rfl) (by kernel_rfl) (fun _ _ _ h => h) (Or.inl ⟨by rfl, ?_⟩) hHeld ?_
      rotate_left
      · (intro w hSw; go_simp; try with_reducible rfl)
      (try simp only [Act.put, List.setIfInBounds_toArray, List.set_cons_zero, List.set_cons_succ])
      refine wpAnyH_take (i := 2) (oi := { dst := some 18, op := Op.fieldAddr 82 (Operand.tmp 17) 0, type := 0, pos := "op.go:139", after := #[{ on := 1, ground := Ground.data }], guard := none }) (v := ?_) rfl (by kernel_rfl) (by kernel_rfl) (by kernel_rfl) (fun _ _ _ h => h) (Or.inl ⟨by rfl, ?_⟩) hHeld ?_
      rotate_left
      · (intro w hSw; go_simp; try with_reducible rfl)
      (try simp only [Act.put, List.setIfInBounds_toArray, List.set_cons_zero, List.set_cons_succ])
      refine wpAnyH_take (i := 3) (oi := { dst := some 19, op := Op.load 22 (Operand.tmp 18), type := 22, pos := "op.go:139", after := #[{ on := 2, ground := Ground.data }], guard := none }) (v := ?_) rfl (by kernel_rfl) (by kernel_rfl) (by kernel_rfl) (fun _ _ _ h => h) (Or.inl ⟨by rfl, ?_⟩) hHeld ?_
      rotate_left
      · (intro w hSw; have p0 : w.cell? ⟨b, 0, none⟩ = some (.slice a n c) := (XG.out.on hSw).cell (k := 0) rfl; go_simp; try with_reducible rfl)
      (try simp only [Act.put, List.setIfInBounds_toArray, List.set_cons_zero, List.set_cons_succ])
      refine wpAnyH_take (i := 4) (oi := { dst := some 20, op := Op.fieldAddr 33 (Operand.tmp 3) 0, type := 0, pos := "op.go:139", after := #[], guard := none }) (v := ?_) rfl (by kernel_rfl) (by kernel_rfl) (by kernel_rfl) (fun _ _ _ h => h) (Or.inl ⟨by rfl, ?_⟩) hHeld ?_
      rotate_left
      · (intro w hSw; go_simp; try with_reducible rfl)
      (try simp only [Act.put, List.setIfInBounds_toArray, List.set_cons_zero, List.set_cons_succ])
      refine wpAnyH_take (i := 5) (oi := { dst := some 21, op := Op.load 9 (Operand.tmp 20), type := 9, pos := "op.go:139", after := #[{ on := 4, ground := Ground.data }], guard := none }) (v := ?_) rfl (by kernel_rfl) (by kernel_rfl) (by kernel_rfl) (fun _ _ _ h => h) (Or.inl ⟨by rfl, ?_⟩) hHeld ?_
      rotate_left
      · (intro w hSw; have p0 : w.cell? ⟨bo, 0, none⟩ = some (.string ⟨x.path.toArray⟩) := (XO.out.on hSw).cell (k := 0) rfl; go_simp; try with_reducible rfl)
      (try simp only [Act.put, List.setIfInBounds_toArray, List.set_cons_zero, List.set_cons_succ])
      refine wpAnyH_ready (rs := [6, 10]) (by kernel_rfl) (by simp) (AllReadyH.cons (o := { dst := some 22, op := Op.call { callee := Callee.value (Operand.func 48), args := #[Operand.tmp 19, Operand.tmp 21], argTypes := #[22, 9] }, type := 43, pos := "op.go:139", after := #[{ on := 3, ground := Ground.data }, { on := 5, ground := Ground.data }], guard := none }) rfl (fun K hK => ?_) (AllReadyH.cons (o := { dst := some 6, op := Op.alloc 33, type := 0, pos := "op.go:139", after := #[], guard := none }) rfl (fun K hK => ?_) AllReadyH.nil))
      · go_simp
        refine (HGET.out _ hHeld).mono ?_
        rintro e v106 ⟨rfl, hba⟩
        refine hK.out _ _ (bch hHeld hba) (fun hHeld => ?_)
        clear hba
        (try simp only [Act.put, List.setIfInBounds_toArray, List.set_cons_zero, List.set_cons_succ])
        refine wpAnyH_take (i := 7) (oi := { dst := some 15, op := Op.move (Operand.tmp 22), type := 43, pos := "op.go:139", after := #[{ on := 6, ground := Ground.data }], guard := none }) (v := ?_) rfl (by kernel_rfl) (by kernel_rfl) (by kernel_rfl) (fun _ _ _ h => h) (Or.inl ⟨by rfl, ?_⟩) hHeld ?_
        rotate_left
        · (intro w hSw; go_simp; try with_reducible rfl)
        (try simp only [Act.put, List.setIfInBounds_toArray, List.set_cons_zero, List.set_cons_succ])
        refine wpAnyH_take (i := 8) (oi := { dst := some 23, op := Op.extract (Operand.tmp 15) 0, type := 33, pos := "op.go:139", after := #[{ on := 7, ground := Ground.data }], guard := none }) (v := ?_) rfl (by kernel_rfl) (by kernel_rfl) (by kernel_rfl) (fun _ _ _ h => h) (Or.inl ⟨by rfl, ?_⟩) hHeld ?_
        rotate_left
        · (intro w hSw; go_simp; try with_reducible rfl)
        (try simp only [Act.put, List.setIfInBounds_toArray, List.set_cons_zero, List.set_cons_succ])
        refine wpAnyH_take (i := 9) (oi := { dst := some 24, op := Op.extract (Operand.tmp 15) 1, type := 4, pos := "op.go:139", after := #[{ on := 7, ground := Ground.data }, { on := 11, ground := Ground.gcOnly Departure.lateStores }], guard := none }) (v := ?_) rfl (by kernel_rfl) (by kernel_rfl) (by kernel_rfl) (fun _ _ _ h => h) (Or.inl ⟨by rfl, ?_⟩) hHeld ?_
        rotate_left
        · (intro w hSw; go_simp; try with_reducible rfl)
        (try simp only [Act.put, List.setIfInBounds_toArray, List.set_cons_zero, List.set_cons_succ])
        refine wpAnyH_ready (rs := [10]) (by kernel_rfl) (by simp) (AllReadyH.cons (o := { dst := some 6, op := Op.alloc 33, type := 0, pos := "op.go:139", after := #[], guard := none }) rfl (fun K hK => ?_) AllReadyH.nil)
        · go_simp
          have hba : Below v106.heap.size v106 (v106.alloc (.cells #[.string ⟨#[]⟩, .int .i64 0, .string ⟨#[]⟩] 33)) := below_new _ _
          have Z7 : Hid (Box (v106.alloc (.cells #[.string ⟨#[]⟩, .int .i64 0, .string ⟨#[]⟩] 33)) v106.heap.size 33 It.nil.arr) := Lib.hid box_new
          have HB7 : Hid (vs.heap.size ≤ v106.heap.size) := Lib.hid hHeld.size
          obtain ⟨v110, hv9⟩ : ∃ q, q = (v106.alloc (.cells #[.string ⟨#[]⟩, .int .i64 0, .string ⟨#[]⟩] 33)) := ⟨_, rfl⟩
          refine hK.out _ _ (bch hHeld hba) (fun hHeld => ?_)
          clear hba
          rw [← hv9] at Z7 hHeld ⊢
          clear hv9
          obtain ⟨b7, hg9⟩ : ∃ q, q = v106.heap.size := ⟨_, rfl⟩
          rw [← hg9] at Z7 HB7 ⊢
          clear hg9
          (try simp only [Act.put, List.setIfInBounds_toArray, List.set_cons_zero, List.set_cons_succ])
          refine wpAnyH_ready (rs := [11]) (by kernel_rfl) (by simp) (AllReadyH.cons (o := { dst := none, op := Op.store 33 (Operand.tmp 6) (Operand.tmp 23), type := 0, pos := "op.go:139", after := #[{ on := 10, ground := Ground.data }, { on := 8, ground := Ground.data }, { on := 6, ground := Ground.chain }, { on := 0, ground := Ground.phase }, { on := 1, ground := Ground.phase }, { on := 2, ground := Ground.phase }, { on := 3, ground := Ground.phase }, { on := 4, ground := Ground.phase }, { on := 5, ground := Ground.phase }, { on := 6, ground := Ground.phase }, { on := 7, ground := Ground.phase }, { on := 8, ground := Ground.phase }, { on := 9, ground := Ground.textOnly Departure.lateStores }, { on := 10, ground := Ground.phase }], guard := none }) rfl (fun K hK => ?_) AllReadyH.nil)
          · refine wp_store_if (by rfl) 33 (.tmp 6) (.tmp 23) rfl b7 33 It.nil.arr y.arr rfl rfl Z7.out (info35 _) rfl (iarr_one _) ?_
            have Z8 : Hid (Box (v110.setRow b7 y.arr) b7 33 y.arr) := Lib.hid (Z7.out.row _)
            refine hK.out _ _ (below_row hHeld HB7.out _) (fun hHeld => ?_)
            clear Z7
            (try simp only [Act.put])
            refine wpAnyH_take (i := 12) (oi := { dst := some 7, op := Op.assign (Operand.tmp 24), type := 4, pos := "op.go:139", after := #[{ on := 9, ground := Ground.data }, { on := 11, ground := Ground.chain }, { on := 0, ground := Ground.phase }, { on := 1, ground := Ground.phase }, { on := 2, ground := Ground.phase }, { on := 3, ground := Ground.phase }, { on := 4, ground := Ground.phase }, { on := 5, ground := Ground.phase }, { on := 6, ground := Ground.phase }, { on := 7, ground := Ground.phase }, { on := 8, ground := Ground.phase }, { on := 9, ground := Ground.phase }, { on := 10, ground := Ground.phase }, { on := 11, ground := Ground.phase }], guard := none }) (v := ?_) rfl (by kernel_rfl) (by kernel_rfl) (by kernel_rfl) (fun _ _ _ h => h) (Or.inl ⟨by rfl, ?_⟩) hHeld ?_
            rotate_left
            · (intro w hSw; go_simp; try with_reducible rfl)
            (try simp only [Act.put, List.setIfInBounds_toArray, List.set_cons_zero, List.set_cons_succ])
            refine wpAnyH_done (by kernel_rfl) ?_ _
            first | refine hK2 _ _ (Met.intro (hJ _ _ ?_)) | refine Met.intro (hJ _ _ ?_)
            (repeat apply Exists.intro)
            refine ⟨?_, rfl⟩
            exact ⟨_, rfl, rfl, Z8, Lib.hid hHeld, HB7⟩
      · go_simp
        have hba : Below v0.heap.size v0 (v0.alloc (.cells #[.string ⟨#[]⟩, .int .i64 0, .string ⟨#[]⟩] 33)) := below_new _ _
        have Z7 : Hid (Box (v0.alloc (.cells #[.string ⟨#[]⟩, .int .i64 0, .string ⟨#[]⟩] 33)) v0.heap.size 33 It.nil.arr) := Lib.hid box_new
        have HB7 : Hid (vs.heap.size ≤ v0.heap.size) := Lib.hid hHeld.size
        obtain ⟨v110, hv9⟩ : ∃ q, q = (v0.alloc (.cells #[.string ⟨#[]⟩, .int .i64 0, .string ⟨#[]⟩] 33)) := ⟨_, rfl⟩
        refine hK.out _ _ (bch hHeld hba) (fun hHeld => ?_)
        clear hba
        rw [← hv9] at Z7 hHeld ⊢
        clear hv9
        obtain ⟨b7, hg9⟩ : ∃ q, q = v0.heap.size := ⟨_, rfl⟩
        rw [← hg9] at Z7 HB7 ⊢
        clear hg9
        (try simp only [Act.put, List.setIfInBounds_toArray, List.set_cons_zero, List.set_cons_succ])
        refine wpAnyH_ready (rs := [6]) (by kernel_rfl) (by simp) (AllReadyH.cons (o := { dst := some 22, op := Op.call { callee := Callee.value (Operand.func 48), args := #[Operand.tmp 19, Operand.tmp 21], argTypes := #[22, 9] }, type := 43, pos := "op.go:139", after := #[{ on := 3, ground := Ground.data }, { on := 5, ground := Ground.data }], guard := none }) rfl (fun K hK => ?_) AllReadyH.nil)
        · go_simp
          refine (HGET.out _ hHeld).mono ?_
          rintro e v106 ⟨rfl, hba⟩
          have Z7 := Lib.hid (Z7.out.on hba)
          refine hK.out _ _ (bch hHeld hba) (fun hHeld => ?_)
          clear hba
          (try simp only [Act.put, List.setIfInBounds_toArray, List.set_cons_zero, List.set_cons_succ])
          refine wpAnyH_take (i := 7) (oi := { dst := some 15, op := Op.move (Operand.tmp 22), type := 43, pos := "op.go:139", after := #[{ on := 6, ground := Ground.data }], guard := none }) (v := ?_) rfl (by kernel_rfl) (by kernel_rfl) (by kernel_rfl) (fun _ _ _ h => h) (Or.inl ⟨by rfl, ?_⟩) hHeld ?_
          rotate_left
          · (intro w hSw; go_simp; try with_reducible rfl)
          (try simp only [Act.put, List.setIfInBounds_toArray, List.set_cons_zero, List.set_cons_succ])
          refine wpAnyH_take (i := 8) (oi := { dst := some 23, op := Op.extract (Operand.tmp 15) 0, type := 33, pos := "op.go:139", after := #[{ on := 7, ground := Ground.data }], guard := none }) (v := ?_) rfl (by kernel_rfl) (by kernel_rfl) (by kernel_rfl) (fun _ _ _ h => h) (Or.inl ⟨by rfl, ?_⟩) hHeld ?_
          rotate_left
          · (intro w hSw; go_simp; try with_reducible rfl)
          (try simp only [Act.put, List.setIfInBounds_toArray, List.set_cons_zero, List.set_cons_succ])
          refine wpAnyH_take (i := 9) (oi := { dst := some 24, op := Op.extract (Operand.tmp 15) 1, type := 4, pos := "op.go:139", after := #[{ on := 7, ground := Ground.data }, { on := 11, ground := Ground.gcOnly Departure.lateStores }], guard := none }) (v := ?_) rfl (by kernel_rfl) (by kernel_rfl) (by kernel_rfl) (fun _ _ _ h => h) (Or.inl ⟨by rfl, ?_⟩) hHeld ?_
          rotate_left
          · (intro w hSw; go_simp; try with_reducible rfl)
          (try simp only [Act.put, List.setIfInBounds_toArray, List.set_cons_zero, List.set_cons_succ])
          refine wpAnyH_ready (rs := [11]) (by kernel_rfl) (by simp) (AllReadyH.cons (o := { dst := none, op := Op.store 33 (Operand.tmp 6) (Operand.tmp 23), type := 0, pos := "op.go:139", after := #[{ on := 10, ground := Ground.data }, { on := 8, ground := Ground.data }, { on := 6, ground := Ground.chain }, { on := 0, ground := Ground.phase }, { on := 1, ground := Ground.phase }, { on := 2, ground := Ground.phase }, { on := 3, ground := Ground.phase }, { on := 4, ground := Ground.phase }, { on := 5, ground := Ground.phase }, { on := 6, ground := Ground.phase }, { on := 7, ground := Ground.phase }, { on := 8, ground := Ground.phase }, { on := 9, ground := Ground.textOnly Departure.lateStores }, { on := 10, ground := Ground.phase }], guard := none }) rfl (fun K hK => ?_) AllReadyH.nil)
          · refine wp_store_if (by rfl) 33 (.tmp 6) (.tmp 23) rfl b7 33 It.nil.arr y.arr rfl rfl Z7.out (info35 _) rfl (iarr_one _) ?_
            have Z8 : Hid (Box (v106.setRow b7 y.arr) b7 33 y.arr) := Lib.hid (Z7.out.row _)
            refine hK.out _ _ (below_row hHeld HB7.out _) (fun hHeld => ?_)
            clear Z7
            (try simp only [Act.put])
            refine wpAnyH_take (i := 12) (oi := { dst := some 7, op := Op.assign (Operand.tmp 24), type := 4, pos := "op.go:139", after := #[{ on := 9, ground := Ground.data }, { on := 11, ground := Ground.chain }, { on := 0, ground := Ground.phase }, { on := 1, ground := Ground.phase }, { on := 2, ground := Ground.phase }, { on := 3, ground := Ground.phase }, { on := 4, ground := Ground.phase }, { on := 5, ground := Ground.phase }, { on := 6, ground := Ground.phase }, { on := 7, ground := Ground.phase }, { on := 8, ground := Ground.phase }, { on := 9, ground := Ground.phase }, { on := 10, ground := Ground.phase }, { on := 11, ground := Ground.phase }], guard := none }) (v := ?_) rfl (by kernel_rfl) (by kernel_rfl) (by kernel_rfl) (fun _ _ _ h => h) (Or.inl ⟨by rfl, ?_⟩) hHeld ?_
            rotate_left
            · (intro w hSw; go_simp; try with_reducible rfl)
            (try simp only [Act.put, List.setIfInBounds_toArray, List.set_cons_zero, List.set_cons_succ])
            refine wpAnyH_done (by kernel_rfl) ?_ _
            first | refine hK2 _ _ (Met.intro (hJ _ _ ?_)) | refine Met.intro (hJ _ _ ?_)
            (repeat apply Exists.intro)
            refine ⟨?_, rfl⟩
            exact ⟨_, rfl, rfl, Z8, Lib.hid hHeld, HB7⟩
    case rest =>
      obtain ⟨b7, rfl, rfl, _, HB, _⟩ := hcut
      obtain ⟨w3, hw3⟩ : ∃ z, z = wc := ⟨_, rfl⟩
      rw [← hw3] at HB ⊢
      have HB3 := Lib.hid (bch HB2.out (bch HV2.out HB.out))
      have X3 := Lib.hid (XO.out.on HB.out)
      have HG3 := Lib.hid (HGV.out.on HB.out)
      clear hw3 XG HGET HB hvs hv0
      cases o with
      | some q =>
        obtain rfl : is = true := HI.out
        have HR : Hid (r = .error 5) := Lib.hid HR0.out
        go_wp2_with fail
        go_ret
        exact GrR.no HR.out HG.out HB3.out
      | none =>
        obtain rfl : is = false := HI.out
        have HF := Lib.hid (full_any B b _ l w3 HG3.out)
        by_cases hf : l.length = 2000
        · have HR : Hid (r = .error 6) := Lib.hid (by rw [HR0.out]; simp only [Option.isSome_none, Bool.false_eq_true, if_false]; rw [if_pos hf])
          have HD : Hid (decide (l.length = 2000) = true) := Lib.hid (decide_eq_true hf)
          rw [HD.out] at HF
          clear hf
          go_wp2_with fail
          refine HF.out.mono ?_
          rintro e w4 ⟨rfl, rfl⟩
          go_wp2_with fail
          go_ret
          exact GrR.no HR.out HG.out HB3.out
        · have HR : Hid (r = .ok (putL l [x] x.path)) := Lib.hid (by rw [HR0.out]; simp only [Option.isSome_none, Bool.false_eq_true, if_false]; rw [if_neg hf])
          have HD : Hid (decide (l.length = 2000) = false) := Lib.hid (decide_eq_false hf)
          rw [HD.out] at HF
          have HP := Lib.hid (put_one B b _ l x w3 HG3.out HOK.out HV.out)
          obtain ⟨c0, c1, c2⟩ := X3.out.it
          clear hf
          go_wp2_with fail
          refine HF.out.mono ?_
          rintro e w4 ⟨rfl, rfl⟩
          go_wp2_with fail
          refine HP.out.mono ?_
          rintro e w4 ⟨v', rfl, hG4, hN4⟩
          have HE := Lib.hid (GrR.yes (w := w) (v := .slice a n c) (l := l) HR.out hG4 ((Nxt.below HB3.out b _).trans hN4))
          clear hG4 hN4 c0 c1 c2
          go_wp2_with fail
          go_ret
          exact HE.out
  · have HR : Hid (r = .error z) := Lib.hid (by rw [hr]; unfold addM; rw [← hz, if_pos hz0])
    have t1 : (z == 0) = false := by simpa using hz0
    have t2 : (z != 0) = true := by simpa using hz0
    clear hz0 hz hr hv h hT hG
    go_enter Tryz.func100, Tryz.ntmps100
    go_upto_region 1 with fail
    rw [← hw1, ← hbo]
    clear hw1 hbo
    go_wp2_with fail
    refine HOP.out.mono ?_
    rintro e w2 ⟨rfl, hb⟩
    have HB2 := Lib.hid (bch HB1.out hb)
    clear hb HOP c0 c1 c2
    go_wp2_with fail
    go_ret
    exact GrR.no HR.out HG.out HB2.out
end Go.Proofs.YtjbbnecegomkcaaGreatDoor
