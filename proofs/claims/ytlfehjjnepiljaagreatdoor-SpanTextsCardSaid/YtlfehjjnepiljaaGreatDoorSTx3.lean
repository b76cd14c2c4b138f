/- Proved here: bound of puncheonref05: the bound of a text, for texts of few bytes. -/
import Derived.Test.YtlfehjjnepiljaaGreatDoorSTx2
import Derived.Test.YtlfehjjnepiljaaGreatDoorMRRd
import Derived.Great.BuildSlice
namespace Go.Proofs.YtlfehjjnepiljaaGreatDoor
open Go.RowKit Go.Shelf

theorem filledB (k : Int) (v : Ver) : Instr.fill (fun i => some (i * 8, 8)) ((Array.range (1 * 8)).map ((Value.agg Bd.zero.arr).cells[· % (Value.agg Bd.zero.arr).cells.size]!)) [(0, .agg (Bd.arr ⟨k, v⟩))] = some (Bd.arr ⟨k, v⟩) := by kernel_rfl
theorem gbuildS57 {ops : Array Oper} {rest : List Oper} {o : Oper} {a : Act} {w : World} {Q : Exit → Act → World → Prop} (hw : Region.wanted o (yielded ops a.tmps) = true) (x : Operand) (ho : o.op = .buildSlice 55 1 #[(0, x)]) (k : Int) (v : Ver) (hx : a.eval x = .agg (Bd.arr ⟨k, v⟩))
    (h : wpList Tryz.prog ops Q rest (a.put o.dst (.slice (some ⟨w.heap.size, 0, none⟩) 1 1)) (w.alloc (.cells (Bd.arr ⟨k, v⟩) 57))) : wpList Tryz.prog ops Q (o :: rest) a w := by
  obtain ⟨i0, hi, hz0, hz1, hz2⟩ := info_parts info57z
  refine wpList_step fun K hK => ?_
  rw [if_pos hw]
  refine wp_buildSlice 55 57 1 _ ho (Bd.arr ⟨k, v⟩) i0 (.agg Bd.zero.arr) Tryz.underlying55 hi hz0 (by rw [hz1]; decide) (by rw [hz1]; decide) ?_ (hK _ _ h)
  rw [hz1]
  refine Eq.trans ?_ (filledB k v)
  simp [hx]
theorem gbuild27 {ops : Array Oper} {rest : List Oper} {o : Oper} {ac : Act} {w : World} {Q : Exit → Act → World → Prop} (hw : Region.wanted o (yielded ops ac.tmps) = true) (x : Operand) (ho : o.op = .build 27 #[(0, x)]) (a : Option Addr) (n c : Nat) (hx : ac.eval x = .slice a n c)
    (h : wpList Tryz.prog ops Q rest (ac.put o.dst (.agg #[.slice a n c])) w) : wpList Tryz.prog ops Q (o :: rest) ac w := by
  have e : Tryz.prog.built 27 ((#[(0, x)] : Array (Nat × Operand)).map fun (i, x) => (i, ac.eval x)).toList = some #[.slice a n c] := by
    refine Eq.trans (congrArg (Tryz.prog.built 27) ?_) (built27s a n c)
    simp [hx]
  refine wpList_step fun K hK => ?_
  rw [if_pos hw]
  exact wp_build 27 _ ho (by rw [e]; rfl) (hK _ _ (by rw [e]; exact h))
theorem one_span {b : Bd} (h : b.ok = true) : spanOk [[b]] = true := by
  unfold spanOk rowOk
  simp [h]
theorem one_spanT (b : Bd) : spanT [[b]] = b.text := by
  unfold spanT rowT
  simp [joinD, joinL]
/-- Where a bound's text is cut. -/
theorem bound_at {b : Bd} {S : Str} (h : b.text = S) : (aheadL b.kind).length + (behindL b.kind).length ≤ S.length ∧ S.take (aheadL b.kind).length = aheadL b.kind ∧ (S.drop (aheadL b.kind).length).take (S.length - (behindL b.kind).length - (aheadL b.kind).length) = b.ver.text := by
  subst h
  unfold Bd.text
  refine ⟨by simp only [List.length_append]; omega, ?_, ?_⟩
  · rw [List.append_assoc, List.take_left]
  · rw [List.append_assoc, List.drop_left]
    have e : (aheadL b.kind ++ (b.ver.text ++ behindL b.kind)).length - (behindL b.kind).length - (aheadL b.kind).length = b.ver.text.length := by
      simp only [List.length_append]
      omega
    rw [e, List.take_left]
theorem kind7 (k : Nat) : (behindL (k : Int)).length = if k = 7 then 2 else 0 := by
  unfold behindL
  by_cases h : k = 7
  · subst h; rfl
  · rw [if_neg (by omega), if_neg h]; rfl

set_option maxRecDepth 100000 in
set_option maxHeartbeats 8000000 in
theorem rbound2_any (s : ByteArray) (S : Str) (N : Nat) (hS : s.data.toList = S) (hN : s.size = N) (hs : N ≤ 1000000) (w : World) : Calls Tryz.prog 44 #[.string s] w (BoundR S w) := by
  have HS := Lib.hid hS
  have HSL : Hid (S.length = N) := Lib.hid (by rw [← hS, ← hN]; rfl)
  have HSZ : Hid (s.size = N) := Lib.hid hN
  have X0 : Hid (Box (w.alloc (.cells Bd.zero.arr 57)) w.heap.size 57 Bd.zero.arr) := Lib.hid box_new
  have B0 : Hid (Below w.heap.size w (w.alloc (.cells Bd.zero.arr 57))) := Lib.hid (below_new _ _)
  clear hS
  go_enter Tryz.func44, Tryz.ntmps44
  go_wp2_with (with_reducible refine wpList_zero rfl 57 rfl Bd.zero.arr zero57 ?_)
  go_loopw [4] (fun i W => ∃ k : Nat, 1 ≤ k ∧ k ≤ 8 ∧ i = .int .i64 k ∧ Hid (∀ y : Bd, y.ok = true → y.kind < (k : Int) → y.text ≠ S) ∧ Hid (Box W w.heap.size 57 Bd.zero.arr) ∧ Hid (Below w.heap.size w W)) (fun i _ => 9 - (Lib.intOf i).toNat)
  case atStart => exact ⟨1, by omega, by omega, rfl, Lib.hid (fun y hy hk => by have := (bd_ok hy).1; omega), X0, B0⟩
  case round =>
    clear X0 B0
    obtain ⟨k, hk1, hk8, rfl, HK, X0, HB⟩ := hrel
    obtain ⟨wo, hwo⟩ : ∃ q, q = wr := ⟨_, rfl⟩
    rw [← hwo] at HB X0 ⊢
    clear hwo
    by_cases hlt : k < 8
    · have k1 : decide ((k : Int) ≤ 7) = true := decide_eq_true (by omega)
      have k2 : (0 : Int) ≤ (k : Int) := by omega
      have k3 : (k : Int) < 8 := by omega
      have k5 : (k : Int) ≤ 7 := by omega
      have k4 : IntKind.i64.wrap ((k : Int) + 1) = (k : Int) + 1 := IntWalk.i64_in _ (by omega)
      have CS : Hid (∀ W, Calls Tryz.prog 37 #[.int .i64 k] W fun e w' => e = .returned (.string (ofB (aheadL k))) ∧ Below W.heap.size W w') := Lib.hid (fun W => rsign_any (k : Int) (by omega) W)
      obtain ⟨A, hA⟩ : ∃ q, q = aheadL (k : Int) := ⟨_, rfl⟩
      obtain ⟨na, hna⟩ : ∃ q, q = A.length := ⟨_, rfl⟩
      obtain ⟨z, hz⟩ : ∃ q, q = (behindL (k : Int)).length := ⟨_, rfl⟩
      have hna2 : na ≤ 2 := by rw [hna, hA]; exact aheadl_len _
      have hz2 : z ≤ 2 := by rw [hz]; exact behindl_len _
      have hz7 : z = if k = 7 then 2 else 0 := by rw [hz, kind7]
      rw [← hA] at CS
      have HA := Lib.hid hA
      have HNA : Hid ((ofB A).size = na) := Lib.hid hna.symm
      have hnsz : (ofB A).size = na := hna.symm
      have HAT : Hid (∀ y : Bd, y.text = S → y.kind = (k : Int) → na + z ≤ N ∧ S.take na = A ∧ (S.drop na).take (N - z - na) = y.ver.text) := Lib.hid (fun y hy hk => by
        have h := bound_at hy
        rw [hk, ← hA, ← hna, ← hz, HSL.out] at h
        exact h)
      clear hA hna hz
      obtain ⟨E, hE⟩ : ∃ q : Int, q = (N : Int) - (z : Int) := ⟨_, rfl⟩
      have e1 : IntKind.i64.wrap ((N : Int) - 2) = (N : Int) - 2 := IntWalk.i64_in _ (by omega)
      go_wp2_with (fail)
      refine (CS.out _).mono ?_
      rintro e w2 ⟨rfl, hb⟩
      have X2 := Lib.hid (X0.out.on hb)
      have B2 := Lib.hid (bch HB.out hb)
      clear X0 HB hb
      go_upto_if 20 with fail
      go_cut [6] (fun e wx => e = .int .i64 E ∧ wx = w2)
      case first =>
        rename_i J2 K2 hJ hK2
        by_cases h7 : k = 7
        · have d7 : ((k : Int) == 7) = true := by rw [h7]; rfl
          have hE2 : (N : Int) - 2 = E := by rw [hE, hz7, if_pos h7]; rfl
          have HE2 := Lib.hid hE2
          clear hE2 hE h7
          go_wp2_with fail
          first | refine hK2 _ _ (Met.intro (hJ _ _ ?_)) | refine Met.intro (hJ _ _ ?_)
          (repeat apply Exists.intro)
          refine ⟨?_, rfl⟩
          exact ⟨by rw [HE2.out], rfl⟩
        · have d7 : ((k : Int) == 7) = false := by rw [beq_eq_false_iff_ne]; omega
          have hE2 : (N : Int) = E := by rw [hE, hz7, if_neg h7]; simp
          have HE2 := Lib.hid hE2
          clear hE2 hE h7
          go_wp2_with fail
          first | refine hK2 _ _ (Met.intro (hJ _ _ ?_)) | refine Met.intro (hJ _ _ ?_)
          (repeat apply Exists.intro)
          refine ⟨?_, rfl⟩
          exact ⟨by rw [← HE2.out], rfl⟩
      case rest =>
      obtain ⟨rfl, hwc⟩ := hcut
      replace hwc := hwc.symm
      subst hwc
      have HEE := Lib.hid hE
      clear hE hz7 e1
      by_cases hge : (na : Int) > E
      · have d1 : decide ((na : Int) > E) = true := decide_eq_true hge
        have HNO : Hid (∀ y : Bd, y.ok = true → y.kind = (k : Int) → y.text ≠ S) := Lib.hid (fun y _ hk ht => by have := (HAT.out y ht hk).1; have := HEE.out; omega)
        go_upto_region 8 with fail
        go_cut [34] (fun b wx => b = .bool true ∧ Hid (Below w2.heap.size w2 wx))
        case first =>
          rename_i J2 K2 hJ hK2
          refine wp_region_held_drew (S := fun w' => Below w2.heap.size w2 w') (by kernel_rfl) (Below.refl _ _).drew (fun hHeld => ?_)
          refine wpAnyH_take (i := 0) (oi := { dst := some 24, op := Op.move (Operand.tmp 5), type := 3, pos := "ref.go:117", after := #[], guard := none }) (v := ?_) rfl (by kernel_rfl) (by kernel_rfl) (by kernel_rfl) (fun _ _ _ h => h) (Or.inl ⟨by rfl, ?_⟩) hHeld ?_
          rotate_left
          · (intro w hSw; go_simp; try with_reducible rfl)
          (try simp only [Act.put, List.setIfInBounds_toArray, List.set_cons_zero, List.set_cons_succ])
          refine wpAnyH_take (i := 1) (oi := { dst := some 25, op := Op.move (Operand.tmp 6), type := 3, pos := "ref.go:117", after := #[], guard := none }) (v := ?_) rfl (by kernel_rfl) (by kernel_rfl) (by kernel_rfl) (fun _ _ _ h => h) (Or.inl ⟨by rfl, ?_⟩) hHeld ?_
          rotate_left
          · (intro w hSw; go_simp; try with_reducible rfl)
          (try simp only [Act.put, List.setIfInBounds_toArray, List.set_cons_zero, List.set_cons_succ])
          refine wpAnyH_take (i := 2) (oi := { dst := some 26, op := Op.binOp BinOp.gtr 3 (Operand.tmp 24) (Operand.tmp 25) 3, type := 4, pos := "ref.go:117", after := #[{ on := 0, ground := Ground.data }, { on := 1, ground := Ground.data }], guard := none }) (v := ?_) rfl (by kernel_rfl) (by kernel_rfl) (by kernel_rfl) (fun _ _ _ h => h) (Or.inl ⟨by rfl, ?_⟩) hHeld ?_
          rotate_left
          · (intro w hSw; go_simp; try with_reducible rfl)
          (try simp only [Act.put, List.setIfInBounds_toArray, List.set_cons_zero, List.set_cons_succ])
          refine wpAnyH_take (i := 3) (oi := { dst := some 27, op := Op.move (Operand.tmp 26), type := 4, pos := "ref.go:117", after := #[{ on := 2, ground := Ground.data }], guard := none }) (v := ?_) rfl (by kernel_rfl) (by kernel_rfl) (by kernel_rfl) (fun _ _ _ h => h) (Or.inl ⟨by rfl, ?_⟩) hHeld ?_
          rotate_left
          · (intro w hSw; go_simp; try with_reducible rfl)
          (try simp only [Act.put, List.setIfInBounds_toArray, List.set_cons_zero, List.set_cons_succ])
          refine wpAnyH_take (i := 4) (oi := { dst := some 28, op := Op.move (Operand.tmp 0), type := 9, pos := "ref.go:117", after := #[{ on := 3, ground := Ground.guard }], guard := some (3, false) }) (v := undef) rfl (by kernel_rfl) (by kernel_rfl) (by kernel_rfl) (fun _ _ _ h => h) (Or.inr ⟨by rfl, rfl⟩) hHeld ?_
          (try simp only [Act.put, List.setIfInBounds_toArray, List.set_cons_zero, List.set_cons_succ])
          refine wpAnyH_take (i := 5) (oi := { dst := some 29, op := Op.move (Operand.tmp 5), type := 3, pos := "ref.go:117", after := #[{ on := 3, ground := Ground.guard }], guard := some (3, false) }) (v := undef) rfl (by kernel_rfl) (by kernel_rfl) (by kernel_rfl) (fun _ _ _ h => h) (Or.inr ⟨by rfl, rfl⟩) hHeld ?_
          (try simp only [Act.put, List.setIfInBounds_toArray, List.set_cons_zero, List.set_cons_succ])
          refine wpAnyH_take (i := 6) (oi := { dst := some 30, op := Op.slice 9 (Operand.tmp 28) none (some (Operand.tmp 29)) none, type := 9, pos := "ref.go:117", after := #[{ on := 4, ground := Ground.data }, { on := 5, ground := Ground.data }, { on := 3, ground := Ground.guard }], guard := some (3, false) }) (v := undef) rfl (by kernel_rfl) (by kernel_rfl) (by kernel_rfl) (fun _ _ _ h => h) (Or.inr ⟨by rfl, rfl⟩) hHeld ?_
          (try simp only [Act.put, List.setIfInBounds_toArray, List.set_cons_zero, List.set_cons_succ])
          refine wpAnyH_take (i := 7) (oi := { dst := some 31, op := Op.move (Operand.tmp 4), type := 3, pos := "ref.go:117", after := #[{ on := 3, ground := Ground.guard }], guard := some (3, false) }) (v := undef) rfl (by kernel_rfl) (by kernel_rfl) (by kernel_rfl) (fun _ _ _ h => h) (Or.inr ⟨by rfl, rfl⟩) hHeld ?_
          (try simp only [Act.put, List.setIfInBounds_toArray, List.set_cons_zero, List.set_cons_succ])
          refine wpAnyH_take (i := 8) (oi := { dst := some 32, op := Op.call { callee := Callee.value (Operand.func 37), args := #[Operand.tmp 31], argTypes := #[3] }, type := 9, pos := "ref.go:117", after := #[{ on := 7, ground := Ground.data }, { on := 3, ground := Ground.chain }, { on := 3, ground := Ground.guard }], guard := some (3, false) }) (v := undef) rfl (by kernel_rfl) (by kernel_rfl) (by kernel_rfl) (fun _ _ _ h => h) (Or.inr ⟨by rfl, rfl⟩) hHeld ?_
          (try simp only [Act.put, List.setIfInBounds_toArray, List.set_cons_zero, List.set_cons_succ])
          refine wpAnyH_take (i := 9) (oi := { dst := some 33, op := Op.binOp BinOp.neq 9 (Operand.tmp 30) (Operand.tmp 32) 9, type := 4, pos := "ref.go:117", after := #[{ on := 6, ground := Ground.data }, { on := 8, ground := Ground.data }, { on := 3, ground := Ground.guard }], guard := some (3, false) }) (v := undef) rfl (by kernel_rfl) (by kernel_rfl) (by kernel_rfl) (fun _ _ _ h => h) (Or.inr ⟨by rfl, rfl⟩) hHeld ?_
          (try simp only [Act.put, List.setIfInBounds_toArray, List.set_cons_zero, List.set_cons_succ])
          refine wpAnyH_take (i := 10) (oi := { dst := some 34, op := Op.pick (Operand.tmp 27) (Operand.const (Value.bool true)) (Operand.tmp 33), type := 4, pos := "ref.go:117", after := #[{ on := 3, ground := Ground.data }, { on := 9, ground := Ground.data }], guard := none }) (v := ?_) rfl (by kernel_rfl) (by kernel_rfl) (by kernel_rfl) (fun _ _ _ h => h) (Or.inl ⟨by rfl, ?_⟩) hHeld ?_
          rotate_left
          · (intro w hSw; go_simp; try with_reducible rfl)
          (try simp only [Act.put, List.setIfInBounds_toArray, List.set_cons_zero, List.set_cons_succ])
          refine wpAnyH_done (by kernel_rfl) ?_ _
          first | refine hK2 _ _ (Met.intro (hJ _ _ ?_)) | refine Met.intro (hJ _ _ ?_)
          (repeat apply Exists.intro)
          refine ⟨?_, rfl⟩
          exact ⟨rfl, Lib.hid hHeld⟩
        case rest =>
          obtain ⟨rfl, HD⟩ := hcut
          obtain ⟨wx, hwx⟩ : ∃ q, q = wc := ⟨_, rfl⟩
          rw [← hwx] at HD ⊢
          have XX := Lib.hid (X2.out.on HD.out)
          have BX := Lib.hid (bch B2.out HD.out)
          clear hwx HD X2 B2 HAT CS
          go_wp2_with fail
          go_roundw
          case rel =>
            refine ⟨k + 1, by omega, by omega, by go_num, Lib.hid (fun y hy hk => ?_), XX, BX⟩
            by_cases hyk : y.kind < (k : Int)
            · exact HK.out y hy hyk
            · exact HNO.out y hy (by omega)
          case measure => simp [Lib.intOf]; omega
      · have d1 : decide ((na : Int) > E) = false := decide_eq_false hge
        obtain ⟨Z, hZ⟩ : ∃ q : Nat, E = (q : Int) := ⟨E.toNat, by have := HEE.out; omega⟩
        have HZN : Hid (Z + z = N) := Lib.hid (by have := HEE.out; omega)
        have hnZ : na ≤ Z := by omega
        subst hZ
        clear HEE hz2
        have n1 : (na : Int) ≤ (N : Int) := by have := HZN.out; omega
        have n2 : (0 : Int) ≤ (na : Int) := by omega
        have n3 : (na : Int) ≤ (Z : Int) := by omega
        have n4 : (Z : Int) ≤ (N : Int) := by have := HZN.out; omega
        obtain ⟨q, hq⟩ : ∃ q, q = ((s.extract 0 na).toList == (ofB A).toList) := ⟨_, rfl⟩
        have hq' := hq.symm
        have HQ := Lib.hid hq
        clear hq
        go_upto_region 8 with fail
        go_cut [34] (fun b wx => b = .bool (!q) ∧ Hid (Below w2.heap.size w2 wx))
        case first =>
          rename_i J2 K2 hJ hK2
          refine wp_region_held_drew (S := fun w' => Below w2.heap.size w2 w') (by kernel_rfl) (Below.refl _ _).drew (fun hHeld => ?_)
          refine wpAnyH_take (i := 0) (oi := { dst := some 24, op := Op.move (Operand.tmp 5), type := 3, pos := "ref.go:117", after := #[], guard := none }) (v := ?_) rfl (by kernel_rfl) (by kernel_rfl) (by kernel_rfl) (fun _ _ _ h => h) (Or.inl ⟨by rfl, ?_⟩) hHeld ?_
          rotate_left
          · (intro w hSw; go_simp; try with_reducible rfl)
          (try simp only [Act.put, List.setIfInBounds_toArray, List.set_cons_zero, List.set_cons_succ])
          refine wpAnyH_take (i := 1) (oi := { dst := some 25, op := Op.move (Operand.tmp 6), type := 3, pos := "ref.go:117", after := #[], guard := none }) (v := ?_) rfl (by kernel_rfl) (by kernel_rfl) (by kernel_rfl) (fun _ _ _ h => h) (Or.inl ⟨by rfl, ?_⟩) hHeld ?_
          rotate_left
          · (intro w hSw; go_simp; try with_reducible rfl)
          (try simp only [Act.put, List.setIfInBounds_toArray, List.set_cons_zero, List.set_cons_succ])
          refine wpAnyH_take (i := 2) (oi := { dst := some 26, op := Op.binOp BinOp.gtr 3 (Operand.tmp 24) (Operand.tmp 25) 3, type := 4, pos := "ref.go:117", after := #[{ on := 0, ground := Ground.data }, { on := 1, ground := Ground.data }], guard := none }) (v := ?_) rfl (by kernel_rfl) (by kernel_rfl) (by kernel_rfl) (fun _ _ _ h => h) (Or.inl ⟨by rfl, ?_⟩) hHeld ?_
          rotate_left
          · (intro w hSw; go_simp; try with_reducible rfl)
          (try simp only [Act.put, List.setIfInBounds_toArray, List.set_cons_zero, List.set_cons_succ])
          refine wpAnyH_take (i := 3) (oi := { dst := some 27, op := Op.move (Operand.tmp 26), type := 4, pos := "ref.go:117", after := #[{ on := 2, ground := Ground.data }], guard := none }) (v := ?_) rfl (by kernel_rfl) (by kernel_rfl) (by kernel_rfl) (fun _ _ _ h => h) (Or.inl ⟨by rfl, ?_⟩) hHeld ?_
          rotate_left
          · (intro w hSw; go_simp; try with_reducible rfl)
          (try simp only [Act.put, List.setIfInBounds_toArray, List.set_cons_zero, List.set_cons_succ])
          refine wpAnyH_take (i := 4) (oi := { dst := some 28, op := Op.move (Operand.tmp 0), type := 9, pos := "ref.go:117", after := #[{ on := 3, ground := Ground.guard }], guard := some (3, false) }) (v := ?_) rfl (by kernel_rfl) (by kernel_rfl) (by kernel_rfl) (fun _ _ _ h => h) (Or.inl ⟨by rfl, ?_⟩) hHeld ?_
          rotate_left
          · (intro w hSw; go_simp; try with_reducible rfl)
          (try simp only [Act.put, List.setIfInBounds_toArray, List.set_cons_zero, List.set_cons_succ])
          refine wpAnyH_take (i := 5) (oi := { dst := some 29, op := Op.move (Operand.tmp 5), type := 3, pos := "ref.go:117", after := #[{ on := 3, ground := Ground.guard }], guard := some (3, false) }) (v := ?_) rfl (by kernel_rfl) (by kernel_rfl) (by kernel_rfl) (fun _ _ _ h => h) (Or.inl ⟨by rfl, ?_⟩) hHeld ?_
          rotate_left
          · (intro w hSw; go_simp; try with_reducible rfl)
          (try simp only [Act.put, List.setIfInBounds_toArray, List.set_cons_zero, List.set_cons_succ])
          refine wpAnyH_take (i := 6) (oi := { dst := some 30, op := Op.slice 9 (Operand.tmp 28) none (some (Operand.tmp 29)) none, type := 9, pos := "ref.go:117", after := #[{ on := 4, ground := Ground.data }, { on := 5, ground := Ground.data }, { on := 3, ground := Ground.guard }], guard := some (3, false) }) (v := ?_) rfl (by kernel_rfl) (by kernel_rfl) (by kernel_rfl) (fun _ _ _ h => h) (Or.inl ⟨by rfl, ?_⟩) hHeld ?_
          rotate_left
          · (intro w hSw; go_simp; try with_reducible rfl)
          (try simp only [Act.put, List.setIfInBounds_toArray, List.set_cons_zero, List.set_cons_succ])
          refine wpAnyH_take (i := 7) (oi := { dst := some 31, op := Op.move (Operand.tmp 4), type := 3, pos := "ref.go:117", after := #[{ on := 3, ground := Ground.guard }], guard := some (3, false) }) (v := ?_) rfl (by kernel_rfl) (by kernel_rfl) (by kernel_rfl) (fun _ _ _ h => h) (Or.inl ⟨by rfl, ?_⟩) hHeld ?_
          rotate_left
          · (intro w hSw; go_simp; try with_reducible rfl)
          (try simp only [Act.put, List.setIfInBounds_toArray, List.set_cons_zero, List.set_cons_succ])
          refine wpAnyH_ready (rs := [8]) (by kernel_rfl) (by simp) (AllReadyH.cons (o := { dst := some 32, op := Op.call { callee := Callee.value (Operand.func 37), args := #[Operand.tmp 31], argTypes := #[3] }, type := 9, pos := "ref.go:117", after := #[{ on := 7, ground := Ground.data }, { on := 3, ground := Ground.chain }, { on := 3, ground := Ground.guard }], guard := some (3, false) }) rfl (fun K hK => ?_) AllReadyH.nil)
          · go_simp
            refine (CS.out _).mono ?_
            rintro e wa ⟨rfl, hba⟩
            refine hK.out _ _ (bch hHeld hba) (fun hHeld => ?_)
            clear hba
            (try simp only [Act.put, List.setIfInBounds_toArray, List.set_cons_zero, List.set_cons_succ])
            refine wpAnyH_take (i := 9) (oi := { dst := some 33, op := Op.binOp BinOp.neq 9 (Operand.tmp 30) (Operand.tmp 32) 9, type := 4, pos := "ref.go:117", after := #[{ on := 6, ground := Ground.data }, { on := 8, ground := Ground.data }, { on := 3, ground := Ground.guard }], guard := some (3, false) }) (v := ?_) rfl (by kernel_rfl) (by kernel_rfl) (by kernel_rfl) (fun _ _ _ h => h) (Or.inl ⟨by rfl, ?_⟩) hHeld ?_
            rotate_left
            · (intro w hSw; go_simp; try with_reducible rfl)
            (try simp only [Act.put, List.setIfInBounds_toArray, List.set_cons_zero, List.set_cons_succ])
            refine wpAnyH_take (i := 10) (oi := { dst := some 34, op := Op.pick (Operand.tmp 27) (Operand.const (Value.bool true)) (Operand.tmp 33), type := 4, pos := "ref.go:117", after := #[{ on := 3, ground := Ground.data }, { on := 9, ground := Ground.data }], guard := none }) (v := ?_) rfl (by kernel_rfl) (by kernel_rfl) (by kernel_rfl) (fun _ _ _ h => h) (Or.inl ⟨by rfl, ?_⟩) hHeld ?_
            rotate_left
            · (intro w hSw; go_simp; try with_reducible rfl)
            (try simp only [Act.put, List.setIfInBounds_toArray, List.set_cons_zero, List.set_cons_succ])
            refine wpAnyH_done (by kernel_rfl) ?_ _
            first | refine hK2 _ _ (Met.intro (hJ _ _ ?_)) | refine Met.intro (hJ _ _ ?_)
            (repeat apply Exists.intro)
            refine ⟨?_, rfl⟩
            exact ⟨rfl, Lib.hid hHeld⟩
        case rest =>
        obtain ⟨rfl, HD⟩ := hcut
        obtain ⟨w3, hw3⟩ : ∃ q, q = wc := ⟨_, rfl⟩
        rw [← hw3] at HD ⊢
        have X3 := Lib.hid (X2.out.on HD.out)
        have B3 := Lib.hid (bch B2.out HD.out)
        clear hw3 HD X2 B2 CS hq' hnsz d1 hge
        cases q with
        | false =>
          have HNO : Hid (∀ y : Bd, y.ok = true → y.kind = (k : Int) → y.text ≠ S) := Lib.hid (fun y _ hk ht => by
            have h := (HAT.out y ht hk).2.1
            have h2 := HQ.out
            rw [Lib.toList_data, Lib.toList_data, ext_ofB, HS.out, Nat.sub_zero, List.drop_zero, h] at h2
            simp at h2)
          go_wp2_with fail
          go_roundw
          case rel =>
            refine ⟨k + 1, by omega, by omega, by go_num, Lib.hid (fun y hy hk => ?_), X3, B3⟩
            by_cases hyk : y.kind < (k : Int)
            · exact HK.out y hy hyk
            · exact HNO.out y hy (by omega)
          case measure => simp [Lib.intOf]; omega
        | true =>
          have HRD := Lib.hid (rread_any (s.extract na Z) (by rw [ByteArray.size_extract]; have := HSZ.out; omega) w3)
          have HV0 : Hid (∀ y : Bd, y.ok = true → y.kind = (k : Int) → y.text = S → readV (s.extract na Z) = some y.ver) := Lib.hid (fun y hy hk ht => by
            have h := (HAT.out y ht hk).2.2
            have e : N - z - na = Z - na := by have := HZN.out; omega
            rw [e] at h
            rw [ext_ofB, HS.out, h]
            exact read_text (bd_ok hy).2.1)
          go_wp2_with fail
          refine HRD.out.mono ?_
          rintro e w4 ⟨v, o, rfl, hv, -, hb⟩
          have HV := Lib.hid hv
          have X4 := Lib.hid (X3.out.on hb)
          have B4 := Lib.hid (bch B3.out hb)
          have l4 := X4.out.lt
          clear HRD hv hb X3 B3 HAT
          have Y0 : Hid (Box (w4.alloc (.cells Ver.zero.arr 45)) w4.heap.size 45 Ver.zero.arr) := Lib.hid box_new
          obtain ⟨w5, hw5⟩ : ∃ q, q = (w4.alloc (.cells Ver.zero.arr 45)).setRow w4.heap.size v.arr := ⟨_, rfl⟩
          have Y5 : Hid (Box w5 w4.heap.size 45 v.arr) := Lib.hid (by rw [hw5]; exact Y0.out.row _)
          have X5 : Hid (Box w5 w.heap.size 57 Bd.zero.arr) := Lib.hid (by rw [hw5]; exact (X4.out.alloc _).far_row (by omega) _)
          have B5 : Hid (Below w.heap.size w w5) := Lib.hid (by rw [hw5]; exact below_row (B4.out.alloc B4.out.size _) B4.out.size _)
          go_upto_region 10 with (first
            | (with_reducible refine wpList_zero rfl 45 rfl Ver.zero.arr zero26 ?_)
            | (refine wpList_store_row rfl 45 (.tmp 7) (.tmp 41) rfl w4.heap.size v.arr rfl rfl 45 _ Y0.out (info26 _) rfl (arr_one _) ?_))
          rw [← hw5]
          (try go_frame)
          clear hw5 Y0 X4 B4
          have Z0 : Hid (Box (w5.alloc (.cells Bd.zero.arr 57)) w5.heap.size 57 Bd.zero.arr) := Lib.hid box_new
          obtain ⟨w6, hw6⟩ : ∃ q, q = (w5.alloc (.cells Bd.zero.arr 57)).setRow w5.heap.size (Bd.arr ⟨k, v⟩) := ⟨_, rfl⟩
          have Z6 : Hid (Box w6 w5.heap.size 57 (Bd.arr ⟨k, v⟩)) := Lib.hid (by rw [hw6]; exact Z0.out.row _)
          have X6 : Hid (Box w6 w.heap.size 57 Bd.zero.arr) := Lib.hid (by rw [hw6]; exact (X5.out.alloc _).far_row (by have := X5.out.lt; omega) _)
          have B6 : Hid (Below w.heap.size w w6) := Lib.hid (by rw [hw6]; exact below_row (B5.out.alloc B5.out.size _) B5.out.size _)
          go_upto_region 11 with (first
            | (with_reducible refine wpList_zero rfl 57 rfl Bd.zero.arr zero57 ?_)
            | (refine wpList_load_row rfl 45 (.tmp 7) rfl w4.heap.size rfl 45 v.arr (0, 0) _ Y5.out Tryz.underlying45 rfl (info26 _) ?_)
            | (refine builds57 rfl (.tmp 43) (.tmp 44) rfl (k : Int) v rfl rfl ?_)
            | (refine wpList_store_row rfl 57 (.tmp 9) (.tmp 45) rfl w5.heap.size (Bd.arr ⟨k, v⟩) rfl rfl 57 _ Z0.out (info57 _) rfl (barr_one _) ?_))
          rw [← hw6]
          (try go_frame)
          clear hw6 Z0 X5 B5 Y5
          obtain ⟨g9, hg9⟩ : ∃ q, q = w5.heap.size := ⟨_, rfl⟩
          rw [← hg9] at Z6 ⊢
          clear hg9
          cases o with
          | false =>
            have HNO : Hid (∀ y : Bd, y.ok = true → y.kind = (k : Int) → y.text ≠ S) := Lib.hid (fun y hy hk ht => by
              have h := HV.out
              rw [HV0.out y hy hk ht] at h
              cases h)
            go_wp2_with fail
            go_roundw
            case rel =>
              refine ⟨k + 1, by omega, by omega, by go_num, Lib.hid (fun y hy hk => ?_), X6, B6⟩
              by_cases hyk : y.kind < (k : Int)
              · exact HK.out y hy hyk
              · exact HNO.out y hy (by omega)
            case measure => simp [Lib.intOf]; omega
          | true =>
            have HYV : Hid (∀ y : Bd, y.ok = true → y.kind = (k : Int) → y.text = S → y = ⟨k, v⟩) := Lib.hid (fun y hy hk ht => by
              have h := HV.out
              rw [HV0.out y hy hk ht, if_pos rfl] at h
              have h2 := Option.some.inj h
              cases y
              simp only at hk h2
              rw [hk, h2])
            obtain ⟨p, hp⟩ : ∃ p, p = (⟨k, v⟩ : Bd).ok := ⟨_, rfl⟩
            have HT := Lib.hid (fun W => rbounds_of hp W)
            have HP := Lib.hid hp
            obtain ⟨p0, p1, p2, p3, p4, p5, p6, p7⟩ := Z6.out.bd
            clear hp HV HV0
            go_wp2_with fail
            refine (HT.out _).mono ?_
            rintro e w7 ⟨rfl, hb⟩
            have Z7 := Lib.hid (Z6.out.on hb)
            have X7 := Lib.hid (X6.out.on hb)
            have B7 := Lib.hid (bch B6.out hb)
            clear Z6 X6 B6 HT hb p0 p1 p2 p3 p4 p5 p6 p7
            cases p with
            | false =>
              have HNO : Hid (∀ y : Bd, y.ok = true → y.kind = (k : Int) → y.text ≠ S) := Lib.hid (fun y hy hk ht => by
                have h := HYV.out y hy hk ht
                rw [h, ← HP.out] at hy
                cases hy)
              go_wp2_with fail
              go_roundw
              case rel =>
                refine ⟨k + 1, by omega, by omega, by go_num, Lib.hid (fun y hy hk => ?_), X7, B7⟩
                by_cases hyk : y.kind < (k : Int)
                · exact HK.out y hy hyk
                · exact HNO.out y hy (by omega)
              case measure => simp [Lib.intOf]; omega
            | true =>
              obtain ⟨w8, hw8⟩ : ∃ q, q = (w7.alloc (.cells (Bd.arr ⟨k, v⟩) 57)).alloc (.cells #[.slice (some ⟨w7.heap.size, 0, none⟩) 1 1] 55) := ⟨_, rfl⟩
              have b8 : Below w7.heap.size w7 w8 := by rw [hw8]; exact ((Below.refl _ _).alloc (Nat.le_refl _) _).alloc (by simp) _
              have RP : Hid (RdR w8 (.slice (some ⟨w7.heap.size + 1, 0, none⟩) 1 1) [[⟨k, v⟩]]) := Lib.hid (rdR_one (g1 := w7.heap.size) (by rw [hw8]; exact box_new.alloc _) (by rw [hw8]; exact heap_alloc2_new w7 _ _))
              have HTX := Lib.hid (rstext_any [[⟨k, v⟩]] _ w8 RP.out (one_span HP.out.symm))
              rw [one_spanT] at HTX
              obtain ⟨p0, p1, p2, p3, p4, p5, p6, p7⟩ := Z7.out.bd
              have Z8 := Lib.hid (Z7.out.on b8)
              have X8 := Lib.hid (X7.out.on b8)
              have B8 := Lib.hid (bch B7.out b8)
              go_wp2_with (first
                | (refine gbuildS57 (by rfl) (.tmp 52) rfl (k : Int) v rfl ?_)
                | (refine gbuild27 (by rfl) (.tmp 54) rfl _ 1 1 rfl ?_))
              rw [← hw8]
              refine HTX.out.mono ?_
              rintro e w9 ⟨rfl, hb⟩
              have Z9 := Lib.hid (Z8.out.on hb)
              have X9 := Lib.hid (X8.out.on hb)
              have B9 := Lib.hid (bch B8.out hb)
              obtain ⟨t, ht⟩ : ∃ q, q = ((ofB (Bd.text ⟨k, v⟩)).toList == s.toList) := ⟨_, rfl⟩
              have ht' := ht.symm
              have HTT : Hid (t = true ↔ Bd.text ⟨k, v⟩ = S) := Lib.hid (by rw [ht, Lib.toList_data, Lib.toList_data, HS.out, beq_iff_eq]; exact Iff.rfl)
              clear ht Z7 X7 B7 Z8 X8 B8 RP HTX hw8 b8 hb p0 p1 p2 p3 p4 p5 p6 p7
              cases t with
              | false =>
                have HNO : Hid (∀ y : Bd, y.ok = true → y.kind = (k : Int) → y.text ≠ S) := Lib.hid (fun y hy hk ht => by
                  have h := HYV.out y hy hk ht
                  rw [h] at ht
                  have := HTT.out.2 ht
                  cases this)
                go_wp2_with fail
                go_roundw
                case rel =>
                  refine ⟨k + 1, by omega, by omega, by go_num, Lib.hid (fun y hy hk => ?_), X9, B9⟩
                  by_cases hyk : y.kind < (k : Int)
                  · exact HK.out y hy hyk
                  · exact HNO.out y hy (by omega)
                case measure => simp [Lib.intOf]; omega
              | true =>
                have HT2 : Hid (Bd.text ⟨k, v⟩ = S) := Lib.hid (HTT.out.1 rfl)
                go_wp2_with (first
                  | (refine wpList_load_row rfl 57 (.tmp 9) rfl g9 rfl 57 (Bd.arr ⟨k, v⟩) (0, 0) _ Z9.out Tryz.underlying57 rfl (info57 _) ?_)
                  | (refine wpList_store_row rfl 57 (.tmp 2) (.tmp 60) rfl w.heap.size (Bd.arr ⟨k, v⟩) rfl rfl 57 _ X9.out (info57 _) rfl (barr_one _) ?_))
                refine bodyPost_ret (results_ver rfl _ _ w.heap.size rfl (Bd.arr ⟨k, v⟩) (run_loadVar_row _ w.heap.size 57 57 (Bd.arr ⟨k, v⟩) (0, 0) _ (X9.out.row _) Tryz.underlying57 rfl (info57 _))) rfl ⟨⟨k, v⟩, true, rfl, fun _ => ⟨HP.out.symm, HT2.out⟩, fun h => (by cases h), below_row B9.out (Nat.le_refl _) _⟩
    · have k1 : decide ((k : Int) ≤ 7) = false := decide_eq_false (by omega)
      have k5 : ¬ (k : Int) ≤ 7 := by omega
      have HNO : Hid (∀ y : Bd, y.ok = true → y.text ≠ S) := Lib.hid (fun y hy => HK.out y hy (by have := (bd_ok hy).1; omega))
      go_wp2_with (first
        | (refine builds_none57 rfl rfl ?_)
        | (refine wpList_store_row rfl 57 (.tmp 2) (.tmp 61) rfl w.heap.size Bd.zero.arr rfl rfl 57 _ X0.out (info57 _) rfl (barr_one _) ?_))
      refine bodyPost_ret (results_ver rfl _ _ w.heap.size rfl Bd.zero.arr (run_loadVar_row _ w.heap.size 57 57 Bd.zero.arr (0, 0) _ (X0.out.row _) Tryz.underlying57 rfl (info57 _))) rfl ⟨Bd.zero, false, rfl, fun h => (by cases h), fun _ => HNO.out, below_row HB.out (Nat.le_refl _) _⟩
end Go.Proofs.YtlfehjjnepiljaaGreatDoor
