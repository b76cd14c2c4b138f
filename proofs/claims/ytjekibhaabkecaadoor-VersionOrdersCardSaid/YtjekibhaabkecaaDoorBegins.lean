/- Proved here: Begins of package version. -/
import Derived.Test.YtjekibhaabkecaaDoorText
import Derived.Test.YtjekibhaabkecaaDoorBehind
namespace Go.Proofs.YtjekibhaabkecaaDoor
open Go.RowKit Go.Shelf

/-- What Begins tells. -/
def Ver.begins (v a : Ver) : Bool := if v.ok = true ∧ a.ok = true ∧ ¬ v.many < a.many then decide (v.first a.many.toNat = a) else false
theorem begin_m (v a : Ver) (ha : a.ok = true) (W : World) : Calls Tryd.prog 31 #[.agg v.arr, .int .i64 a.many] W fun e w' => e = .returned (.agg (v.first a.many.toNat).arr) ∧ Below W.heap.size W w' := by
  obtain ⟨h1, h4⟩ := ok_many ha
  have e : a.many = (a.many.toNat : Int) := by omega
  have := begin_any v a.many.toNat (by omega) (by omega) W
  rwa [← e] at this

set_option maxRecDepth 100000 in
set_option maxHeartbeats 2000000 in
theorem begins_any (v a : Ver) (w : World) : Calls Tryd.prog 20 #[.agg v.arr, .agg a.arr] w fun e w' => e = .returned (.bool (v.begins a)) ∧ Below w.heap.size w w' := by
  have X1 : Box ((w.alloc (.cells v.arr 26)).alloc (.cells a.arr 26)) w.heap.size 26 v.arr := box_new.alloc _
  have X2 : Box ((w.alloc (.cells v.arr 26)).alloc (.cells a.arr 26)) (w.heap.size + 1) 26 a.arr := heap_alloc2_new w _ _
  have k0 : Two v a w.heap.size (w.heap.size + 1) w ((w.alloc (.cells v.arr 26)).alloc (.cells a.arr 26)) := ⟨X1.ver, X2.ver, ((Below.refl w.heap.size w).alloc (Nat.le_refl _) (.cells v.arr 26)).alloc (by simp) (.cells a.arr 26)⟩
  obtain ⟨p0, p1, p2, p3, p4, p5, p6⟩ := k0.l
  have HK := Lib.hid k0
  clear k0 X1 X2
  obtain ⟨o, ho⟩ : ∃ o, o = v.ok := ⟨_, rfl⟩
  obtain ⟨oa, hoa⟩ : ∃ o, o = a.ok := ⟨_, rfl⟩
  have HA := Lib.hid (tells_of ho)
  have HB := Lib.hid (tells_of hoa)
  cases o with
  | false =>
    have HR : Hid (v.begins a = false) := Lib.hid (if_neg (fun h => by rw [← ho] at h; exact absurd h.1 (by decide)))
    clear ho hoa
    go_enter Tryd.func20, Tryd.ntmps20
    go_wp2_with fail
    refine (HA.out _).mono ?_
    rintro e w1 ⟨rfl, hb⟩
    have H1 := Lib.hid (HK.out.on hb)
    clear hb
    go_wp2_with fail
    go_ret
    exact ⟨ret_bool HR.out.symm, H1.out.low⟩
  | true =>
  cases oa with
  | false =>
    have HR : Hid (v.begins a = false) := Lib.hid (if_neg (fun h => by rw [← hoa] at h; exact absurd h.2.1 (by decide)))
    clear ho hoa
    go_enter Tryd.func20, Tryd.ntmps20
    go_wp2_with fail
    refine (HA.out _).mono ?_
    rintro e w1 ⟨rfl, hb⟩
    have H1 := Lib.hid (HK.out.on hb)
    clear hb p0 p1 p2 p3 p4 p5 p6
    obtain ⟨q0, q1, q2, q3, q4, q5, q6⟩ := H1.out.r
    go_wp2_with fail
    refine (HB.out _).mono ?_
    rintro e w2 ⟨rfl, hb⟩
    have H2 := Lib.hid (H1.out.on hb)
    clear hb q0 q1 q2 q3 q4 q5 q6
    go_wp2_with fail
    go_ret
    exact ⟨ret_bool HR.out.symm, H2.out.low⟩
  | true =>
    obtain ⟨l, hl⟩ : ∃ l, l = decide (v.many < a.many) := ⟨_, rfl⟩
    have HC := Lib.hid (begin_m v a hoa.symm)
    have HE := Lib.hid (eq26 (v.first a.many.toNat) a)
    cases l with
    | true =>
      have HR : Hid (v.begins a = false) := Lib.hid (if_neg (fun h => h.2.2 (of_decide_eq_true hl.symm)))
      have hl' := hl.symm
      clear ho hoa hl
      go_enter Tryd.func20, Tryd.ntmps20
      go_wp2_with fail
      refine (HA.out _).mono ?_
      rintro e w1 ⟨rfl, hb⟩
      have H1 := Lib.hid (HK.out.on hb)
      clear hb p0 p1 p2 p3 p4 p5 p6
      obtain ⟨q0, q1, q2, q3, q4, q5, q6⟩ := H1.out.r
      go_wp2_with fail
      refine (HB.out _).mono ?_
      rintro e w2 ⟨rfl, hb⟩
      have H2 := Lib.hid (H1.out.on hb)
      clear hb q0 q1 q2 q3 q4 q5 q6
      obtain ⟨p0, p1, p2, p3, p4, p5, p6⟩ := H2.out.l
      obtain ⟨q0, q1, q2, q3, q4, q5, q6⟩ := H2.out.r
      go_wp2_with fail
      go_ret
      exact ⟨ret_bool HR.out.symm, H2.out.low⟩
    | false =>
      have HR : Hid (v.begins a = decide (v.first a.many.toNat = a)) := Lib.hid (if_pos ⟨ho.symm, hoa.symm, of_decide_eq_false hl.symm⟩)
      have hl' := hl.symm
      clear ho hoa hl
      go_enter Tryd.func20, Tryd.ntmps20
      go_wp2_with fail
      refine (HA.out _).mono ?_
      rintro e w1 ⟨rfl, hb⟩
      have H1 := Lib.hid (HK.out.on hb)
      clear hb p0 p1 p2 p3 p4 p5 p6
      obtain ⟨q0, q1, q2, q3, q4, q5, q6⟩ := H1.out.r
      go_wp2_with fail
      refine (HB.out _).mono ?_
      rintro e w2 ⟨rfl, hb⟩
      have H2 := Lib.hid (H1.out.on hb)
      clear hb q0 q1 q2 q3 q4 q5 q6
      obtain ⟨p0, p1, p2, p3, p4, p5, p6⟩ := H2.out.l
      obtain ⟨q0, q1, q2, q3, q4, q5, q6⟩ := H2.out.r
      go_wp2_with fail
      clear p0 p1 p2 p3 p4 p5 p6 q0 q1 q2 q3 q4 q5 q6
      refine wp_region_held_drew (S := fun w' => Two v a w.heap.size (w.heap.size + 1) w w') (by kernel_rfl) H2.out.drew (fun hHeld => ?_)
      refine wpAnyH_take (i := 0) (oi := { dst := some 20, op := Op.load 26 (Operand.tmp 2), type := 26, pos := "version.go:53", after := #[], guard := none }) (v := ?_) rfl (by kernel_rfl) (by kernel_rfl) (by kernel_rfl) (fun _ _ _ h => h) (Or.inl ⟨by rfl, ?_⟩) hHeld ?_
      rotate_left
      · (intro w hSw; obtain ⟨p0, p1, p2, p3, p4, p5, p6⟩ := hSw.l; go_simp; try with_reducible rfl)
      (try simp only [Act.put, List.setIfInBounds_toArray, List.set_cons_zero, List.set_cons_succ])
      refine wpAnyH_take (i := 1) (oi := { dst := some 21, op := Op.fieldAddr 26 (Operand.tmp 3) 1, type := 0, pos := "version.go:53", after := #[], guard := none }) (v := ?_) rfl (by kernel_rfl) (by kernel_rfl) (by kernel_rfl) (fun _ _ _ h => h) (Or.inl ⟨by rfl, ?_⟩) hHeld ?_
      rotate_left
      · (intro w hSw; go_simp; try with_reducible rfl)
      (try simp only [Act.put, List.setIfInBounds_toArray, List.set_cons_zero, List.set_cons_succ])
      refine wpAnyH_take (i := 2) (oi := { dst := some 22, op := Op.load 3 (Operand.tmp 21), type := 3, pos := "version.go:53", after := #[{ on := 1, ground := Ground.data }], guard := none }) (v := ?_) rfl (by kernel_rfl) (by kernel_rfl) (by kernel_rfl) (fun _ _ _ h => h) (Or.inl ⟨by rfl, ?_⟩) hHeld ?_
      rotate_left
      · (intro w hSw; obtain ⟨p0, p1, p2, p3, p4, p5, p6⟩ := hSw.r; go_simp; try with_reducible rfl)
      (try simp only [Act.put, List.setIfInBounds_toArray, List.set_cons_zero, List.set_cons_succ])
      refine wpAnyH_take (i := 4) (oi := { dst := some 24, op := Op.load 26 (Operand.tmp 3), type := 26, pos := "version.go:53", after := #[], guard := none }) (v := .agg a.arr) rfl (by kernel_rfl) (by kernel_rfl) (by kernel_rfl) (fun _ _ _ h => h) (Or.inl ⟨by rfl, ?_⟩) hHeld ?_
      · (intro w hSw; obtain ⟨p0, p1, p2, p3, p4, p5, p6⟩ := hSw.r; go_simp; try rfl)
      (try simp only [Act.put, List.setIfInBounds_toArray, List.set_cons_zero, List.set_cons_succ])
      refine wpAnyH_ready (rs := [3]) (by kernel_rfl) (by simp) (AllReadyH.cons (o := { dst := some 23, op := Op.call { callee := Callee.value (Operand.func 31), args := #[Operand.tmp 20, Operand.tmp 22], argTypes := #[26, 3] }, type := 26, pos := "version.go:53", after := #[{ on := 0, ground := Ground.data }, { on := 2, ground := Ground.data }], guard := none }) rfl (fun K hK => ?_) AllReadyH.nil)
      · go_simp
        refine (HC.out _).mono ?_
        rintro e wa ⟨rfl, hba⟩
        refine hK.out _ _ (hHeld.on hba) (fun hHeld => ?_)
        (try simp only [Act.put, List.setIfInBounds_toArray, List.set_cons_zero, List.set_cons_succ])
        refine wpAnyH_take (i := 5) (oi := { dst := some 25, op := Op.binOp BinOp.eql 26 (Operand.tmp 23) (Operand.tmp 24) 26, type := 4, pos := "version.go:53", after := #[{ on := 3, ground := Ground.data }, { on := 4, ground := Ground.data }], guard := none }) (v := ?_) rfl (by kernel_rfl) (by kernel_rfl) (by kernel_rfl) (fun _ _ _ h => h) (Or.inl ⟨by rfl, ?_⟩) hHeld ?_
        rotate_left
        · (intro w hSw; have eqf := HE.out; have hgd : Tryd.prog.eqGuardType Tryd.prog.depth 26 = false := (by kernel_rfl); go_simp; try with_reducible rfl)
        (try simp only [Act.put, List.setIfInBounds_toArray, List.set_cons_zero, List.set_cons_succ])
        refine wpAnyH_take (i := 6) (oi := { dst := some 4, op := Op.assign (Operand.tmp 25), type := 4, pos := "version.go:53", after := #[{ on := 5, ground := Ground.data }, { on := 3, ground := Ground.chain }, { on := 0, ground := Ground.phase }, { on := 1, ground := Ground.phase }, { on := 2, ground := Ground.phase }, { on := 3, ground := Ground.phase }, { on := 4, ground := Ground.phase }, { on := 5, ground := Ground.phase }], guard := none }) (v := ?_) rfl (by kernel_rfl) (by kernel_rfl) (by kernel_rfl) (fun _ _ _ h => h) (Or.inl ⟨by rfl, ?_⟩) hHeld ?_
        rotate_left
        · (intro w hSw; go_simp; try with_reducible rfl)
        (try simp only [Act.put, List.setIfInBounds_toArray, List.set_cons_zero, List.set_cons_succ])
        refine wpAnyH_done (by kernel_rfl) ?_ _
        obtain ⟨⟨p0, p1, p2, p3, p4, p5, p6⟩, ⟨q0, q1, q2, q3, q4, q5, q6⟩, hlow⟩ := hHeld
        have HL := Lib.hid hlow
        clear hlow
        go_wp2_with fail
        go_ret
        exact ⟨ret_bool HR.out.symm, HL.out⟩
end Go.Proofs.YtjekibhaabkecaaDoor
