/- Proved here: full, open and add of package tree. -/
import Derived.Test.YtjbbnecegomkcaaGreatDoorOGrow
namespace Go.Proofs.YtjbbnecegomkcaaGreatDoor
open Go.RowKit Go.Shelf

/-- An item that was got lies in a box of its own. -/
def CutG (vs : World) (y : It) (is : Bool) (pa pf : Value) (wx : World) : Prop := ∃ b7, pa = .pointer (some ⟨b7, 0, none⟩) ∧ pf = .bool is ∧ Hid (Box wx b7 33 y.arr) ∧ Hid (Below vs.heap.size vs wx) ∧ Hid (vs.heap.size ≤ b7)
theorem wp_store_if {P : Program} {op : Oper} {a : Act} {w : World} {K : Act → World → Prop} {Q : Exit → Act → World → Prop} {ops : Array Oper} (hw : Region.wanted op (yielded ops a.tmps) = true) (ty : TypeId) (x y : Operand) (ho : op.op = .store ty x y)
    (g t : Nat) (old cells : Array Value) (hx : a.eval x = .pointer (some ⟨g, 0, none⟩)) (hy : a.eval y = .agg cells) (hg : Box w g t old) (hi : (P.info? ty).map (·.size) = some cells.size) (hsz : old.size = cells.size) (h1 : cells.all (·.oneCell') = true)
    (h : K (a.put op.dst undef) (w.setRow g cells)) : if Region.wanted op (yielded ops a.tmps) = true then op.wp P a w K Q else K (a.put op.dst undef) w := by
  rw [if_pos hw]
  exact Go.wp_store_row ty x y ho g cells hx hy t old hg hi hsz h1 h
theorem Nxt.kept {b : Nat} {v v' : Value} {w w' : World} {B : Nat} {l : List It} (h : Nxt b v v' w w') (hG : Gr w B b v l) {x : Nat} (hx : x < B) : w'.heap[x]? = w.heap[x]? := by
  have hlt := hG.box.lt
  refine h.block x (Nat.lt_of_lt_of_le hx (Nat.le_trans hG.low (Nat.le_of_lt hlt))) (by have := hG.low; omega) fun e => ?_
  rcases own_form hG.own with ⟨_, q⟩ | ⟨r, c, _, hr, _, q, _⟩
  · rw [q] at e; cases e
  · rw [q] at e; cases e; omega
theorem Tabs.nxt {b : Nat} {v v' : Value} {w w' : World} {B : Nat} {l : List It} (h : Tabs w) (k : Nxt b v v' w w') (hG : Gr w B b v l) (hB : 3 ≤ B) : Tabs w' :=
  have q : ∀ g o u, g < 3 → w.cell? ⟨g, o, none⟩ = some u → w'.cell? ⟨g, o, none⟩ = some u := fun g o u hg hu => (World.cell?_of_block (k.kept hG (x := g) (by omega))).trans hu
  ⟨q _ _ _ (by omega) h.r0, q _ _ _ (by omega) h.r1, q _ _ _ (by omega) h.r2, h.max.imp fun _ p => q _ _ _ (by omega) p, Nat.le_trans h.one k.size⟩
theorem Nxt.below' {w w0 w' : World} (h0 : Below w.heap.size w w0) (h : Below w0.heap.size w0 w') (b : Nat) (v : Value) : Nxt b v v w w' := Nxt.below (bch h0 h) b v
theorem tree_sz {l : List It} (h : TreeOk l) : ∀ x ∈ l, x.path.length ≤ 140737488355328 := fun x hx => Nat.le_trans (valid_len x.path (h.kid x hx).1.1) (by decide)
theorem srt_of {l : List It} (h : TreeOk l) : Srt l := h.sorted
def openO : Option It → Int
  | none => 4
  | some d => if d.kind = 1 then 0 else 161
theorem open_o (l : List It) (p : Str) : openM l p = openO (getI l (upL p)) := by
  unfold openM openO
  cases getI l (upL p) <;> rfl
def resO (l : List It) : Except Int (List It) → List It × Int
  | .error z => (l, z)
  | .ok l' => (l', 0)
/-- The end of a step that answers an error, or none. -/
def GrR (B b : Nat) (v : Value) (l : List It) (r : Except Int (List It)) (w : World) (e : Ending) (w' : World) : Prop := ∃ v', e = .returned (.int .i64 (resO l r).2) ∧ Gr w' B b v' (resO l r).1 ∧ Nxt b v v' w w'
theorem GrR.no {B b : Nat} {v : Value} {l : List It} {w w' : World} {z : Int} {r : Except Int (List It)} (hr : r = .error z) (hG : Gr w B b v l) (hb : Below w.heap.size w w') : GrR B b v l r w (.returned (.int .i64 z)) w' := by
  subst hr; exact ⟨v, rfl, hG.on hb, Nxt.below hb b v⟩
theorem GrR.yes {B b : Nat} {v v' : Value} {l l' : List It} {w w' : World} {r : Except Int (List It)} (hr : r = .ok l') (hG : Gr w' B b v' l') (hb : Nxt b v v' w w') : GrR B b v l r w (.returned (.int .i64 0)) w' := by
  subst hr; exact ⟨v', rfl, hG, hb⟩

set_option maxRecDepth 100000 in
set_option maxHeartbeats 1000000 in
theorem full_any (B b : Nat) (v : Value) (l : List It) (w : World) (hG : Gr w B b v l) : Calls Tryz.prog 102 #[.pointer (some ⟨b, 0, none⟩)] w fun e w' => e = .returned (.bool (decide (l.length = 2000))) ∧ w = w' := by
  obtain ⟨a, c, rfl, _⟩ := own_slice hG.own
  obtain ⟨n, hn⟩ : ∃ n, n = l.length := ⟨_, rfl⟩
  rw [← hn] at hG ⊢
  have p0 : w.cell? ⟨b, 0, none⟩ = some (.slice a n c) := hG.box.cell (k := 0) rfl
  clear hG hn
  go_enter Tryz.func102, Tryz.ntmps102
  go_wp2_with fail
  go_ret
  refine ⟨retb ?_, rfl⟩
  rw [Bool.eq_iff_iff]
  simp
  try omega

set_option maxRecDepth 100000 in
set_option maxHeartbeats 4000000 in
theorem open_any (B b : Nat) (v : Value) (l : List It) (p : Str) (w : World) (hG : Gr w B b v l) (hs : Srt l) (hn2 : l.length ≤ 2000) (hx : ∀ x ∈ l, x.path.length ≤ 140737488355328) (hp : validB p = true) (hT : Tabs w) :
    Calls Tryz.prog 101 #[.pointer (some ⟨b, 0, none⟩), .string ⟨p.toArray⟩] w fun e w' => e = .returned (.int .i64 (openM l p)) ∧ Below w.heap.size w w' := by
  obtain ⟨a, c, rfl, _⟩ := own_slice hG.own
  obtain ⟨o, ho⟩ : ∃ o, getI l (upL p) = o := ⟨_, rfl⟩
  obtain ⟨y, hy⟩ : ∃ y, y = o.getD .nil := ⟨_, rfl⟩
  obtain ⟨is, his⟩ : ∃ q, q = o.isSome := ⟨_, rfl⟩
  have hpl : p.length ≤ 140737488355328 := Nat.le_trans (valid_len p hp) (by decide)
  have hul : (upL p).length ≤ 140737488355328 := Nat.le_trans (valid_len _ (up_valid p hp).1) (by decide)
  obtain ⟨v0, hv0⟩ : ∃ z, z = World.drew w := ⟨_, rfl⟩
  obtain ⟨vs, hvs⟩ : ∃ z, z = World.drew w := ⟨_, rfl⟩
  have HG : Hid (Gr vs B b (.slice a l.length c) l) := Lib.hid (by rw [hvs]; exact hG.drew)
  have HT : Hid (Tabs vs) := Lib.hid (by rw [hvs]; exact hT.on ((Below.refl _ _).drew))
  have HGET : Hid (∀ W, Below vs.heap.size vs W → Calls Tryz.prog 48 #[.slice a l.length c, .string ⟨(upL p).toArray⟩] W fun e w' => e = .returned (.tuple #[.agg y.arr, .bool is]) ∧ Below W.heap.size W w') := Lib.hid (fun W hW => by
    have := tget_gen l (.slice a l.length c) (upL p) W hs hn2 (HG.out.on hW).rd hx hul (HT.out.on hW)
    rw [ho] at this
    rw [hy, his]
    exact this)
  have HUP : Hid (∀ W, Calls Tryz.prog 35 #[.string ⟨p.toArray⟩] W fun e w' => e = .returned (.string ⟨(upL p).toArray⟩) ∧ Below W.heap.size W w') := Lib.hid (fun W => up_any ⟨p.toArray⟩ (by show p.toArray.size ≤ _; rw [List.size_toArray]; exact hpl) W)
  obtain ⟨n, hn⟩ : ∃ n, n = l.length := ⟨_, rfl⟩
  rw [← hn] at HG HGET
  have XG : Hid (Box vs b 82 #[.slice a n c]) := Lib.hid HG.out.box
  have HV0 : Hid (Below w.heap.size w vs) := Lib.hid (by rw [hvs]; exact (Below.refl _ _).drew)
  have HO : Hid (openM l p = openO o) := Lib.hid (by rw [← ho]; exact open_o l p)
  have HY := Lib.hid hy
  have HI := Lib.hid his
  clear hG hs hx hT ho hy his hn
  rw [HO.out]
  go_enter Tryz.func101, Tryz.ntmps101
  go_upto_region 1 with fail
  go_cut [5, 6] (CutG vs y is)
  case first =>
    rename_i J2 K2 hJ hK2
    refine wp_region_held_drew (S := fun w' => Below vs.heap.size vs w') (by kernel_rfl) (by rw [hvs]; exact Below.refl _ _) (fun hHeld => ?_)
    rw [← hv0] at hHeld ⊢
    clear hv0 hvs
    refine wpAnyH_take (i := 0) (oi := { dst := some 8, op := Op.move (Operand.tmp 0), type := 101, pos := "op.go:151", after := #[], guard := none }) (v := ?_) rfl (by kernel_rfl) (by kernel_rfl) (by kernel_rfl) (fun _ _ _ h => h) (Or.inl ⟨by rfl, ?_⟩) hHeld ?_
    rotate_left
    · (intro w hSw; go_simp; try with_reducible rfl)
    (try simp only [Act.put, List.setIfInBounds_toArray, List.set_cons_zero, List.set_cons_succ])
    refine wpAnyH_take (i := 1) (oi := { dst := some 9, op := Op.nilCheck (Operand.tmp 8), type := 0, pos := "op.go:151", after := #[{ on := 0, ground := Ground.data }], guard := none }) (v := ?_) rfl (by kernel_rfl) (by kernel_rfl) (by kernel_rfl) (fun _ _ _ h => h) (Or.inl ⟨by rfl, ?_⟩) hHeld ?_
    rotate_left
    · (intro w hSw; go_simp; try with_reducible rfl)
    (try simp only [Act.put, List.setIfInBounds_toArray, List.set_cons_zero, List.set_cons_succ])
    refine wpAnyH_take (i := 2) (oi := { dst := some 10, op := Op.fieldAddr 82 (Operand.tmp 9) 0, type := 0, pos := "op.go:151", after := #[{ on := 1, ground := Ground.data }], guard := none }) (v := ?_) rfl (by kernel_rfl) (by kernel_rfl) (by kernel_rfl) (fun _ _ _ h => h) (Or.inl ⟨by rfl, ?_⟩) hHeld ?_
    rotate_left
    · (intro w hSw; go_simp; try with_reducible rfl)
    (try simp only [Act.put, List.setIfInBounds_toArray, List.set_cons_zero, List.set_cons_succ])
    refine wpAnyH_take (i := 3) (oi := { dst := some 11, op := Op.load 22 (Operand.tmp 10), type := 22, pos := "op.go:151", after := #[{ on := 2, ground := Ground.data }], guard := none }) (v := ?_) rfl (by kernel_rfl) (by kernel_rfl) (by kernel_rfl) (fun _ _ _ h => h) (Or.inl ⟨by rfl, ?_⟩) hHeld ?_
    rotate_left
    · (intro w hSw; have p0 : w.cell? ⟨b, 0, none⟩ = some (.slice a n c) := (XG.out.on hSw).cell (k := 0) rfl; go_simp; try with_reducible rfl)
    (try simp only [Act.put, List.setIfInBounds_toArray, List.set_cons_zero, List.set_cons_succ])
    refine wpAnyH_take (i := 4) (oi := { dst := some 12, op := Op.move (Operand.tmp 1), type := 9, pos := "op.go:151", after := #[], guard := none }) (v := ?_) rfl (by kernel_rfl) (by kernel_rfl) (by kernel_rfl) (fun _ _ _ h => h) (Or.inl ⟨by rfl, ?_⟩) hHeld ?_
    rotate_left
    · (intro w hSw; go_simp; try with_reducible rfl)
    (try simp only [Act.put, List.setIfInBounds_toArray, List.set_cons_zero, List.set_cons_succ])
    refine wpAnyH_ready (rs := [5, 10]) (by kernel_rfl) (by simp) (AllReadyH.cons (o := { dst := some 13, op := Op.call { callee := Callee.value (Operand.func 35), args := #[Operand.tmp 12], argTypes := #[9] }, type := 9, pos := "op.go:151", after := #[{ on := 4, ground := Ground.data }], guard := none }) rfl (fun K hK => ?_) (AllReadyH.cons (o := { dst := some 5, op := Op.alloc 33, type := 0, pos := "op.go:151", after := #[], guard := none }) rfl (fun K hK => ?_) AllReadyH.nil))
    · go_simp
      refine (HUP.out _).mono ?_
      rintro e v105 ⟨rfl, hba⟩
      refine hK.out _ _ (bch hHeld hba) (fun hHeld => ?_)
      clear hba
      (try simp only [Act.put, List.setIfInBounds_toArray, List.set_cons_zero, List.set_cons_succ])
      refine wpAnyH_ready (rs := [6, 10]) (by kernel_rfl) (by simp) (AllReadyH.cons (o := { dst := some 14, op := Op.call { callee := Callee.value (Operand.func 48), args := #[Operand.tmp 11, Operand.tmp 13], argTypes := #[22, 9] }, type := 43, pos := "op.go:151", after := #[{ on := 3, ground := Ground.data }, { on := 5, ground := Ground.data }, { on := 5, ground := Ground.chain }], guard := none }) rfl (fun K hK => ?_) (AllReadyH.cons (o := { dst := some 5, op := Op.alloc 33, type := 0, pos := "op.go:151", after := #[], guard := none }) rfl (fun K hK => ?_) AllReadyH.nil))
      · go_simp
        refine (HGET.out _ hHeld).mono ?_
        rintro e v106 ⟨rfl, hba⟩
        refine hK.out _ _ (bch hHeld hba) (fun hHeld => ?_)
        clear hba
        (try simp only [Act.put, List.setIfInBounds_toArray, List.set_cons_zero, List.set_cons_succ])
        refine wpAnyH_take (i := 7) (oi := { dst := some 7, op := Op.move (Operand.tmp 14), type := 43, pos := "op.go:151", after := #[{ on := 6, ground := Ground.data }], guard := none }) (v := ?_) rfl (by kernel_rfl) (by kernel_rfl) (by kernel_rfl) (fun _ _ _ h => h) (Or.inl ⟨by rfl, ?_⟩) hHeld ?_
        rotate_left
        · (intro w hSw; go_simp; try with_reducible rfl)
        (try simp only [Act.put, List.setIfInBounds_toArray, List.set_cons_zero, List.set_cons_succ])
        refine wpAnyH_take (i := 8) (oi := { dst := some 15, op := Op.extract (Operand.tmp 7) 0, type := 33, pos := "op.go:151", after := #[{ on := 7, ground := Ground.data }], guard := none }) (v := ?_) rfl (by kernel_rfl) (by kernel_rfl) (by kernel_rfl) (fun _ _ _ h => h) (Or.inl ⟨by rfl, ?_⟩) hHeld ?_
        rotate_left
        · (intro w hSw; go_simp; try with_reducible rfl)
        (try simp only [Act.put, List.setIfInBounds_toArray, List.set_cons_zero, List.set_cons_succ])
        refine wpAnyH_take (i := 9) (oi := { dst := some 16, op := Op.extract (Operand.tmp 7) 1, type := 4, pos := "op.go:151", after := #[{ on := 7, ground := Ground.data }, { on := 11, ground := Ground.gcOnly Departure.lateStores }], guard := none }) (v := ?_) rfl (by kernel_rfl) (by kernel_rfl) (by kernel_rfl) (fun _ _ _ h => h) (Or.inl ⟨by rfl, ?_⟩) hHeld ?_
        rotate_left
        · (intro w hSw; go_simp; try with_reducible rfl)
        (try simp only [Act.put, List.setIfInBounds_toArray, List.set_cons_zero, List.set_cons_succ])
        refine wpAnyH_ready (rs := [10]) (by kernel_rfl) (by simp) (AllReadyH.cons (o := { dst := some 5, op := Op.alloc 33, type := 0, pos := "op.go:151", after := #[], guard := none }) rfl (fun K hK => ?_) AllReadyH.nil)
        · go_simp
          have hba : Below v106.heap.size v106 (v106.alloc (.cells #[.string ⟨#[]⟩, .int .i64 0, .string ⟨#[]⟩] 33)) := below_new _ _
          have Z7 : Hid (Box (v106.alloc (.cells #[.string ⟨#[]⟩, .int .i64 0, .string ⟨#[]⟩] 33)) v106.heap.size 33 It.nil.arr) := Lib.hid box_new
          have HB7 : Hid (vs.heap.size ≤ v106.heap.size) := Lib.hid hHeld.size
          obtain ⟨v110, hv9⟩ : ∃ q, q = (v106.alloc (.cells #[.string ⟨#[]⟩, .int .i64 0, .string ⟨#[]⟩] 33)) := ⟨_, rfl⟩
          refine hK.out _ _ (bch hHeld hba) (fun hHeld => ?_)
          clear hba
          rw [← hv9] at Z7 hHeld ⊢
          clear hv9
          obtain ⟨b7, hg9⟩ : ∃ q, q = v106.heap.size := ⟨_, rfl⟩
          rw [← hg9] at Z7 HB7 ⊢
          clear hg9
          (try simp only [Act.put, List.setIfInBounds_toArray, List.set_cons_zero, List.set_cons_succ])
          refine wpAnyH_ready (rs := [11]) (by kernel_rfl) (by simp) (AllReadyH.cons (o := { dst := none, op := Op.store 33 (Operand.tmp 5) (Operand.tmp 15), type := 0, pos := "op.go:151", after := #[{ on := 10, ground := Ground.data }, { on := 8, ground := Ground.data }, { on := 6, ground := Ground.chain }, { on := 0, ground := Ground.phase }, { on := 1, ground := Ground.phase }, { on := 2, ground := Ground.phase }, { on := 3, ground := Ground.phase }, { on := 4, ground := Ground.phase }, { on := 5, ground := Ground.phase }, { on := 6, ground := Ground.phase }, { on := 7, ground := Ground.phase }, { on := 8, ground := Ground.phase }, { on := 9, ground := Ground.textOnly Departure.lateStores }, { on := 10, ground := Ground.phase }], guard := none }) rfl (fun K hK => ?_) AllReadyH.nil)
          · refine wp_store_if (by rfl) 33 (.tmp 5) (.tmp 15) rfl b7 33 It.nil.arr y.arr rfl rfl Z7.out (info35 _) rfl (iarr_one _) ?_
            have Z8 : Hid (Box (v110.setRow b7 y.arr) b7 33 y.arr) := Lib.hid (Z7.out.row _)
            refine hK.out _ _ (below_row hHeld HB7.out _) (fun hHeld => ?_)
            clear Z7
            (try simp only [Act.put])
            refine wpAnyH_take (i := 12) (oi := { dst := some 6, op := Op.assign (Operand.tmp 16), type := 4, pos := "op.go:151", after := #[{ on := 9, ground := Ground.data }, { on := 11, ground := Ground.chain }, { on := 0, ground := Ground.phase }, { on := 1, ground := Ground.phase }, { on := 2, ground := Ground.phase }, { on := 3, ground := Ground.phase }, { on := 4, ground := Ground.phase }, { on := 5, ground := Ground.phase }, { on := 6, ground := Ground.phase }, { on := 7, ground := Ground.phase }, { on := 8, ground := Ground.phase }, { on := 9, ground := Ground.phase }, { on := 10, ground := Ground.phase }, { on := 11, ground := Ground.phase }], guard := none }) (v := ?_) rfl (by kernel_rfl) (by kernel_rfl) (by kernel_rfl) (fun _ _ _ h => h) (Or.inl ⟨by rfl, ?_⟩) hHeld ?_
            rotate_left
            · (intro w hSw; go_simp; try with_reducible rfl)
            (try simp only [Act.put, List.setIfInBounds_toArray, List.set_cons_zero, List.set_cons_succ])
            refine wpAnyH_done (by kernel_rfl) ?_ _
            first | refine hK2 _ _ (Met.intro (hJ _ _ ?_)) | refine Met.intro (hJ _ _ ?_)
            (repeat apply Exists.intro)
            refine ⟨?_, rfl⟩
            exact ⟨_, rfl, rfl, Z8, Lib.hid hHeld, HB7⟩
      · go_simp
        have hba : Below v105.heap.size v105 (v105.alloc (.cells #[.string ⟨#[]⟩, .int .i64 0, .string ⟨#[]⟩] 33)) := below_new _ _
        have Z7 : Hid (Box (v105.alloc (.cells #[.string ⟨#[]⟩, .int .i64 0, .string ⟨#[]⟩] 33)) v105.heap.size 33 It.nil.arr) := Lib.hid box_new
        have HB7 : Hid (vs.heap.size ≤ v105.heap.size) := Lib.hid hHeld.size
        obtain ⟨v110, hv9⟩ : ∃ q, q = (v105.alloc (.cells #[.string ⟨#[]⟩, .int .i64 0, .string ⟨#[]⟩] 33)) := ⟨_, rfl⟩
        refine hK.out _ _ (bch hHeld hba) (fun hHeld => ?_)
        clear hba
        rw [← hv9] at Z7 hHeld ⊢
        clear hv9
        obtain ⟨b7, hg9⟩ : ∃ q, q = v105.heap.size := ⟨_, rfl⟩
        rw [← hg9] at Z7 HB7 ⊢
        clear hg9
        (try simp only [Act.put, List.setIfInBounds_toArray, List.set_cons_zero, List.set_cons_succ])
        refine wpAnyH_ready (rs := [6]) (by kernel_rfl) (by simp) (AllReadyH.cons (o := { dst := some 14, op := Op.call { callee := Callee.value (Operand.func 48), args := #[Operand.tmp 11, Operand.tmp 13], argTypes := #[22, 9] }, type := 43, pos := "op.go:151", after := #[{ on := 3, ground := Ground.data }, { on := 5, ground := Ground.data }, { on := 5, ground := Ground.chain }], guard := none }) rfl (fun K hK => ?_) AllReadyH.nil)
        · go_simp
          refine (HGET.out _ hHeld).mono ?_
          rintro e v106 ⟨rfl, hba⟩
          have Z7 := Lib.hid (Z7.out.on hba)
          refine hK.out _ _ (bch hHeld hba) (fun hHeld => ?_)
          clear hba
          (try simp only [Act.put, List.setIfInBounds_toArray, List.set_cons_zero, List.set_cons_succ])
          refine wpAnyH_take (i := 7) (oi := { dst := some 7, op := Op.move (Operand.tmp 14), type := 43, pos := "op.go:151", after := #[{ on := 6, ground := Ground.data }], guard := none }) (v := ?_) rfl (by kernel_rfl) (by kernel_rfl) (by kernel_rfl) (fun _ _ _ h => h) (Or.inl ⟨by rfl, ?_⟩) hHeld ?_
          rotate_left
          · (intro w hSw; go_simp; try with_reducible rfl)
          (try simp only [Act.put, List.setIfInBounds_toArray, List.set_cons_zero, List.set_cons_succ])
          refine wpAnyH_take (i := 8) (oi := { dst := some 15, op := Op.extract (Operand.tmp 7) 0, type := 33, pos := "op.go:151", after := #[{ on := 7, ground := Ground.data }], guard := none }) (v := ?_) rfl (by kernel_rfl) (by kernel_rfl) (by kernel_rfl) (fun _ _ _ h => h) (Or.inl ⟨by rfl, ?_⟩) hHeld ?_
          rotate_left
          · (intro w hSw; go_simp; try with_reducible rfl)
          (try simp only [Act.put, List.setIfInBounds_toArray, List.set_cons_zero, List.set_cons_succ])
          refine wpAnyH_take (i := 9) (oi := { dst := some 16, op := Op.extract (Operand.tmp 7) 1, type := 4, pos := "op.go:151", after := #[{ on := 7, ground := Ground.data }, { on := 11, ground := Ground.gcOnly Departure.lateStores }], guard := none }) (v := ?_) rfl (by kernel_rfl) (by kernel_rfl) (by kernel_rfl) (fun _ _ _ h => h) (Or.inl ⟨by rfl, ?_⟩) hHeld ?_
          rotate_left
          · (intro w hSw; go_simp; try with_reducible rfl)
          (try simp only [Act.put, List.setIfInBounds_toArray, List.set_cons_zero, List.set_cons_succ])
          refine wpAnyH_ready (rs := [11]) (by kernel_rfl) (by simp) (AllReadyH.cons (o := { dst := none, op := Op.store 33 (Operand.tmp 5) (Operand.tmp 15), type := 0, pos := "op.go:151", after := #[{ on := 10, ground := Ground.data }, { on := 8, ground := Ground.data }, { on := 6, ground := Ground.chain }, { on := 0, ground := Ground.phase }, { on := 1, ground := Ground.phase }, { on := 2, ground := Ground.phase }, { on := 3, ground := Ground.phase }, { on := 4, ground := Ground.phase }, { on := 5, ground := Ground.phase }, { on := 6, ground := Ground.phase }, { on := 7, ground := Ground.phase }, { on := 8, ground := Ground.phase }, { on := 9, ground := Ground.textOnly Departure.lateStores }, { on := 10, ground := Ground.phase }], guard := none }) rfl (fun K hK => ?_) AllReadyH.nil)
          · refine wp_store_if (by rfl) 33 (.tmp 5) (.tmp 15) rfl b7 33 It.nil.arr y.arr rfl rfl Z7.out (info35 _) rfl (iarr_one _) ?_
            have Z8 : Hid (Box (v106.setRow b7 y.arr) b7 33 y.arr) := Lib.hid (Z7.out.row _)
            refine hK.out _ _ (below_row hHeld HB7.out _) (fun hHeld => ?_)
            clear Z7
            (try simp only [Act.put])
            refine wpAnyH_take (i := 12) (oi := { dst := some 6, op := Op.assign (Operand.tmp 16), type := 4, pos := "op.go:151", after := #[{ on := 9, ground := Ground.data }, { on := 11, ground := Ground.chain }, { on := 0, ground := Ground.phase }, { on := 1, ground := Ground.phase }, { on := 2, ground := Ground.phase }, { on := 3, ground := Ground.phase }, { on := 4, ground := Ground.phase }, { on := 5, ground := Ground.phase }, { on := 6, ground := Ground.phase }, { on := 7, ground := Ground.phase }, { on := 8, ground := Ground.phase }, { on := 9, ground := Ground.phase }, { on := 10, ground := Ground.phase }, { on := 11, ground := Ground.phase }], guard := none }) (v := ?_) rfl (by kernel_rfl) (by kernel_rfl) (by kernel_rfl) (fun _ _ _ h => h) (Or.inl ⟨by rfl, ?_⟩) hHeld ?_
            rotate_left
            · (intro w hSw; go_simp; try with_reducible rfl)
            (try simp only [Act.put, List.setIfInBounds_toArray, List.set_cons_zero, List.set_cons_succ])
            refine wpAnyH_done (by kernel_rfl) ?_ _
            first | refine hK2 _ _ (Met.intro (hJ _ _ ?_)) | refine Met.intro (hJ _ _ ?_)
            (repeat apply Exists.intro)
            refine ⟨?_, rfl⟩
            exact ⟨_, rfl, rfl, Z8, Lib.hid hHeld, HB7⟩
    · go_simp
      have hba : Below v0.heap.size v0 (v0.alloc (.cells #[.string ⟨#[]⟩, .int .i64 0, .string ⟨#[]⟩] 33)) := below_new _ _
      have Z7 : Hid (Box (v0.alloc (.cells #[.string ⟨#[]⟩, .int .i64 0, .string ⟨#[]⟩] 33)) v0.heap.size 33 It.nil.arr) := Lib.hid box_new
      have HB7 : Hid (vs.heap.size ≤ v0.heap.size) := Lib.hid hHeld.size
      obtain ⟨v110, hv9⟩ : ∃ q, q = (v0.alloc (.cells #[.string ⟨#[]⟩, .int .i64 0, .string ⟨#[]⟩] 33)) := ⟨_, rfl⟩
      refine hK.out _ _ (bch hHeld hba) (fun hHeld => ?_)
      clear hba
      rw [← hv9] at Z7 hHeld ⊢
      clear hv9
      obtain ⟨b7, hg9⟩ : ∃ q, q = v0.heap.size := ⟨_, rfl⟩
      rw [← hg9] at Z7 HB7 ⊢
      clear hg9
      (try simp only [Act.put, List.setIfInBounds_toArray, List.set_cons_zero, List.set_cons_succ])
      refine wpAnyH_ready (rs := [5]) (by kernel_rfl) (by simp) (AllReadyH.cons (o := { dst := some 13, op := Op.call { callee := Callee.value (Operand.func 35), args := #[Operand.tmp 12], argTypes := #[9] }, type := 9, pos := "op.go:151", after := #[{ on := 4, ground := Ground.data }], guard := none }) rfl (fun K hK => ?_) AllReadyH.nil)
      · go_simp
        refine (HUP.out _).mono ?_
        rintro e v105 ⟨rfl, hba⟩
        have Z7 := Lib.hid (Z7.out.on hba)
        refine hK.out _ _ (bch hHeld hba) (fun hHeld => ?_)
        clear hba
        (try simp only [Act.put, List.setIfInBounds_toArray, List.set_cons_zero, List.set_cons_succ])
        refine wpAnyH_ready (rs := [6]) (by kernel_rfl) (by simp) (AllReadyH.cons (o := { dst := some 14, op := Op.call { callee := Callee.value (Operand.func 48), args := #[Operand.tmp 11, Operand.tmp 13], argTypes := #[22, 9] }, type := 43, pos := "op.go:151", after := #[{ on := 3, ground := Ground.data }, { on := 5, ground := Ground.data }, { on := 5, ground := Ground.chain }], guard := none }) rfl (fun K hK => ?_) AllReadyH.nil)
        · go_simp
          refine (HGET.out _ hHeld).mono ?_
          rintro e v106 ⟨rfl, hba⟩
          have Z7 := Lib.hid (Z7.out.on hba)
          refine hK.out _ _ (bch hHeld hba) (fun hHeld => ?_)
          clear hba
          (try simp only [Act.put, List.setIfInBounds_toArray, List.set_cons_zero, List.set_cons_succ])
          refine wpAnyH_take (i := 7) (oi := { dst := some 7, op := Op.move (Operand.tmp 14), type := 43, pos := "op.go:151", after := #[{ on := 6, ground := Ground.data }], guard := none }) (v := ?_) rfl (by kernel_rfl) (by kernel_rfl) (by kernel_rfl) (fun _ _ _ h => h) (Or.inl ⟨by rfl, ?_⟩) hHeld ?_
          rotate_left
          · (intro w hSw; go_simp; try with_reducible rfl)
          (try simp only [Act.put, List.setIfInBounds_toArray, List.set_cons_zero, List.set_cons_succ])
          refine wpAnyH_take (i := 8) (oi := { dst := some 15, op := Op.extract (Operand.tmp 7) 0, type := 33, pos := "op.go:151", after := #[{ on := 7, ground := Ground.data }], guard := none }) (v := ?_) rfl (by kernel_rfl) (by kernel_rfl) (by kernel_rfl) (fun _ _ _ h => h) (Or.inl ⟨by rfl, ?_⟩) hHeld ?_
          rotate_left
          · (intro w hSw; go_simp; try with_reducible rfl)
          (try simp only [Act.put, List.setIfInBounds_toArray, List.set_cons_zero, List.set_cons_succ])
          refine wpAnyH_take (i := 9) (oi := { dst := some 16, op := Op.extract (Operand.tmp 7) 1, type := 4, pos := "op.go:151", after := #[{ on := 7, ground := Ground.data }, { on := 11, ground := Ground.gcOnly Departure.lateStores }], guard := none }) (v := ?_) rfl (by kernel_rfl) (by kernel_rfl) (by kernel_rfl) (fun _ _ _ h => h) (Or.inl ⟨by rfl, ?_⟩) hHeld ?_
          rotate_left
          · (intro w hSw; go_simp; try with_reducible rfl)
          (try simp only [Act.put, List.setIfInBounds_toArray, List.set_cons_zero, List.set_cons_succ])
          refine wpAnyH_ready (rs := [11]) (by kernel_rfl) (by simp) (AllReadyH.cons (o := { dst := none, op := Op.store 33 (Operand.tmp 5) (Operand.tmp 15), type := 0, pos := "op.go:151", after := #[{ on := 10, ground := Ground.data }, { on := 8, ground := Ground.data }, { on := 6, ground := Ground.chain }, { on := 0, ground := Ground.phase }, { on := 1, ground := Ground.phase }, { on := 2, ground := Ground.phase }, { on := 3, ground := Ground.phase }, { on := 4, ground := Ground.phase }, { on := 5, ground := Ground.phase }, { on := 6, ground := Ground.phase }, { on := 7, ground := Ground.phase }, { on := 8, ground := Ground.phase }, { on := 9, ground := Ground.textOnly Departure.lateStores }, { on := 10, ground := Ground.phase }], guard := none }) rfl (fun K hK => ?_) AllReadyH.nil)
          · refine wp_store_if (by rfl) 33 (.tmp 5) (.tmp 15) rfl b7 33 It.nil.arr y.arr rfl rfl Z7.out (info35 _) rfl (iarr_one _) ?_
            have Z8 : Hid (Box (v106.setRow b7 y.arr) b7 33 y.arr) := Lib.hid (Z7.out.row _)
            refine hK.out _ _ (below_row hHeld HB7.out _) (fun hHeld => ?_)
            clear Z7
            (try simp only [Act.put])
            refine wpAnyH_take (i := 12) (oi := { dst := some 6, op := Op.assign (Operand.tmp 16), type := 4, pos := "op.go:151", after := #[{ on := 9, ground := Ground.data }, { on := 11, ground := Ground.chain }, { on := 0, ground := Ground.phase }, { on := 1, ground := Ground.phase }, { on := 2, ground := Ground.phase }, { on := 3, ground := Ground.phase }, { on := 4, ground := Ground.phase }, { on := 5, ground := Ground.phase }, { on := 6, ground := Ground.phase }, { on := 7, ground := Ground.phase }, { on := 8, ground := Ground.phase }, { on := 9, ground := Ground.phase }, { on := 10, ground := Ground.phase }, { on := 11, ground := Ground.phase }], guard := none }) (v := ?_) rfl (by kernel_rfl) (by kernel_rfl) (by kernel_rfl) (fun _ _ _ h => h) (Or.inl ⟨by rfl, ?_⟩) hHeld ?_
            rotate_left
            · (intro w hSw; go_simp; try with_reducible rfl)
            (try simp only [Act.put, List.setIfInBounds_toArray, List.set_cons_zero, List.set_cons_succ])
            refine wpAnyH_done (by kernel_rfl) ?_ _
            first | refine hK2 _ _ (Met.intro (hJ _ _ ?_)) | refine Met.intro (hJ _ _ ?_)
            (repeat apply Exists.intro)
            refine ⟨?_, rfl⟩
            exact ⟨_, rfl, rfl, Z8, Lib.hid hHeld, HB7⟩
  case rest =>
    obtain ⟨b7, rfl, rfl, Z7, HB, _⟩ := hcut
    obtain ⟨w2, hw2⟩ : ∃ z, z = wc := ⟨_, rfl⟩
    rw [← hw2] at Z7 HB ⊢
    have HB2 := Lib.hid (bch HV0.out HB.out)
    obtain ⟨c0, c1, c2⟩ := Z7.out.it
    clear hw2 HG XG HGET HUP HT HB
    cases o with
    | none =>
      obtain rfl : is = false := HI.out
      go_wp2_with fail
      go_ret
      exact ⟨rfl, HB2.out⟩
    | some z =>
      obtain rfl : is = true := HI.out
      obtain rfl : y = z := HY.out
      by_cases hk : y.kind = 1
      · have t1 : (y.kind == 1) = true := by simp [hk]
        have t2 : (y.kind != 1) = false := by simp [hk]
        have HK : Hid (openO (some y) = 0) := Lib.hid (if_pos hk)
        clear hk
        go_wp2_with fail
        go_ret
        exact ⟨by rw [HK.out]; rfl, HB2.out⟩
      · have t1 : (y.kind == 1) = false := by simp [hk]
        have t2 : (y.kind != 1) = true := by simp [hk]
        have HK : Hid (openO (some y) = 161) := Lib.hid (if_neg hk)
        clear hk
        go_wp2_with fail
        go_ret
        exact ⟨by rw [HK.out]; rfl, HB2.out⟩
end Go.Proofs.YtjbbnecegomkcaaGreatDoor
