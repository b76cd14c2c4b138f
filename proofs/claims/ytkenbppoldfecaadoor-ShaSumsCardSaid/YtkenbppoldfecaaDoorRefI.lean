/- Proved here: Block of puncheonref03: a block is taken in. -/
import Derived.Test.YtkenbppoldfecaaDoorRefB
import Derived.Test.YtkenbppoldfecaaDoorRefN
namespace Go.Proofs.YtkenbppoldfecaaDoor
open Go.RowKit Go.Shelf

theorem turned_int (x : Wd) (i : Int) (h0 : 0 ≤ i) (hn : i < 32) (w : World) : Calls Tryd.prog 54 #[u x, .int .i64 i] w fun e w' => e = .returned (u (rot x i.toNat)) ∧ ∃ k, w' = w.drewN k := by
  obtain ⟨n, rfl⟩ : ∃ n : Nat, i = (n : Int) := ⟨i.toNat, by omega⟩
  refine (turned_any x n (by omega) w).mono ?_
  rintro e w' ⟨rfl, rfl⟩
  exact ⟨by rw [Int.toNat_natCast], 0, rfl⟩
theorem turned_q (x : Wd) (n : Nat) (i : Int) (hi : i = (n : Int)) (hn : n < 32) (w : World) : Calls Tryd.prog 54 #[u x, .int .i64 i] w fun e w' => e = .returned (u (rot x n)) ∧ w = w' := by rw [hi]; exact turned_any x n hn w
theorem sum4_eq (a b c d : UInt8) : ((a.toNat : Int) % 4294967296 * 16777216 + (b.toNat : Int) % 4294967296 * 65536 + (c.toNat : Int) % 4294967296 * 256 + (d.toNat : Int)) % 4294967296 = ((w4 a b c d).toNat : Int) := by
  rw [w4_sum]
  have ha := a.toNat_lt
  have hb := b.toNat_lt
  have hc := c.toNat_lt
  have hd := d.toNat_lt
  omega
theorem p_eq2 (k w : Wd) (s : St) : (((s.h.toNat : Int) + bits .xor .u32 (bits .xor .u32 ((rot s.e 6).toNat : Int) ((rot s.e 11).toNat : Int)) ((rot s.e 25).toNat : Int) + bits .xor .u32 (bits .and .u32 (s.e.toNat : Int) (s.f.toNat : Int)) (bits .and .u32 (bits .xor .u32 4294967295 (s.e.toNat : Int)) (s.g.toNat : Int)) + (k.toNat : Int)) % 4294967296 + (w.toNat : Int)) % 4294967296 = ((pOf k w s).toNat : Int) := by
  rw [← p_eq k w s]
  omega
theorem each_at {k : Nat} (hk : k < 64) : tabA[8 + k]? = some (u (consts.getD k 0)) := by
  unfold tabA
  rw [Array.getElem?_append_right (by rw [stA_size]; omega), stA_size, Nat.add_sub_cancel_left]
  unfold constsA constsV
  rw [List.getElem?_toArray, List.getElem?_map, get_getD consts 0 hk]
  rfl

set_option maxRecDepth 100000 in
set_option maxHeartbeats 8000000 in
theorem block_any (s : St) (l : Bytes) (g o c : Nat) (w : World) (hg : g < w.heap.size) (hcell : ∀ j, j < 64 → w.cell? ⟨g, o + j, none⟩ = some (b8 (l.getD j 0))) :
    Calls Tryd.prog 46 #[.agg tabA, .agg (stA s), .slice (some ⟨g, o, none⟩) 64 c] w fun e w' => e = .returned (.agg (stA (mixS consts s l))) ∧ Below w.heap.size w w' := by
  have HC := Lib.hid hcell
  clear hcell
  obtain ⟨w2, hw2⟩ : ∃ q, q = (((w.alloc (.cells tabA 35)).alloc (.cells (stA s) 33)).alloc (.cells (part z32 [] 8 0) 33)).alloc (.cells (part z32 (spreadV l) 64 0) 31) := ⟨_, rfl⟩
  have X0 : Hid (Box w2 w.heap.size 35 tabA) := Lib.hid (by rw [hw2]; exact (((show Box _ _ _ _ from heap_alloc_new w _).alloc _).alloc _).alloc _)
  have X1 : Hid (Box w2 (w.heap.size + 1) 33 (stA s)) := Lib.hid (by rw [hw2]; exact ((show Box _ _ _ _ from heap_alloc2_new w _ _).alloc _).alloc _)
  have X2 : Hid (Box w2 (w.heap.size + 1 + 1) 33 (part z32 [] 8 0)) := Lib.hid (by rw [hw2]; exact (box_new _ _ _ (by simp)).alloc _)
  have X3 : Hid (Box w2 (w.heap.size + 1 + 1 + 1) 31 (part z32 (spreadV l) 64 0)) := Lib.hid (by rw [hw2]; exact box_new _ _ _ (by simp))
  have B2 : Hid (Below w.heap.size w w2) := Lib.hid (by rw [hw2]; exact ((((Below.refl _ _).alloc (Nat.le_refl _) _).alloc (by simp) _).alloc (by simp; omega) _).alloc (by simp; omega) _)
  go_enter Tryd.func46, Tryd.ntmps46
  go_wp2_with (first
    | (with_reducible refine wpList_zero rfl 33 rfl (part z32 [] 8 0) (zero33 _) ?_)
    | (with_reducible refine wpList_zero rfl 31 rfl (part z32 (spreadV l) 64 0) (zero31 _) ?_))
  rw [← hw2]
  clear hw2
  go_loopw [8, 9, 10, 11, 12, 18, 19, 20, 21, 22, 23, 24, 25, 26, 27, 28, 29, 30, 31, 32, 33, 34, 35, 36, 37, 38, 39, 40, 41, 42, 43, 44, 45, 46, 47, 48, 49, 50, 51, 52, 53, 54, 55, 56, 57, 58, 59, 60, 61, 62, 63, 64, 65, 66, 67, 68, 69, 70, 71, 72, 73, 74, 75, 76, 77, 78, 79, 80, 81, 82, 83, 84, 85, 86, 87, 88, 89, 90, 91, 92, 93, 94, 95, 96, 97] (fun _ _ _ _ _ i _ _ _ _ _ _ _ _ _ _ _ _ _ _ _ _ _ _ _ _ _ _ _ _ _ _ _ _ _ _ _ _ _ _ _ _ _ _ _ _ _ _ _ _ _ _ _ _ _ _ _ _ _ _ _ _ _ _ _ _ _ _ _ _ _ _ _ _ _ _ _ _ _ _ _ _ _ _ _ wr => ∃ k : Nat, k ≤ 64 ∧ i = .int .i64 k ∧ Hid (Box wr w.heap.size 35 tabA) ∧ Hid (Box wr (w.heap.size + 1) 33 (stA s)) ∧ Hid (Box wr (w.heap.size + 1 + 1) 33 (part z32 [] 8 0)) ∧ Hid (Box wr (w.heap.size + 1 + 1 + 1) 31 (part z32 (spreadV l) 64 k)) ∧ Hid (Below w.heap.size w wr)) (fun _ _ _ _ _ i _ _ _ _ _ _ _ _ _ _ _ _ _ _ _ _ _ _ _ _ _ _ _ _ _ _ _ _ _ _ _ _ _ _ _ _ _ _ _ _ _ _ _ _ _ _ _ _ _ _ _ _ _ _ _ _ _ _ _ _ _ _ _ _ _ _ _ _ _ _ _ _ _ _ _ _ _ _ _ _ => 64 - (Lib.intOf i).toNat)
  case atStart => exact ⟨0, Nat.zero_le _, rfl, X0, X1, X2, X3, B2⟩
  case round =>
    clear X0 X1 X2 X3 B2
    obtain ⟨k, hk, rfl, X0, X1, X2, X3, B2⟩ := hrel
    obtain ⟨wq, hwq⟩ : ∃ q, q = wr := ⟨_, rfl⟩
    rw [← hwq] at X0 X1 X2 X3 B2 ⊢
    clear hwq
    by_cases hlt : k < 64
    · have k1 : (k : Int) < 64 := by omega
      have k0 : (0 : Int) ≤ (k : Int) := by omega
      have c1 := X3.out.cell (part_next (z := z32) (l := spreadV l) (n := 64) (k := k) (by omega) (by rw [spreadV_len]; omega))
      have f1 := X3.out.frozen k
      by_cases h16 : k < 16
      · have k16 : (k : Int) < 16 := by omega
        obtain ⟨q0, hq0⟩ : ∃ q, q = 4 * k := ⟨_, rfl⟩
        obtain ⟨q1, hq1⟩ : ∃ q, q = q0 + 1 := ⟨_, rfl⟩
        obtain ⟨q2, hq2⟩ : ∃ q, q = q0 + 2 := ⟨_, rfl⟩
        obtain ⟨q3, hq3⟩ : ∃ q, q = q0 + 3 := ⟨_, rfl⟩
        have d0 := (B2.out.cell (p := ⟨g, _, none⟩) hg).trans (HC.out q0 (by omega))
        have d1 := (B2.out.cell (p := ⟨g, _, none⟩) hg).trans (HC.out q1 (by omega))
        have d2 := (B2.out.cell (p := ⟨g, _, none⟩) hg).trans (HC.out q2 (by omega))
        have d3 := (B2.out.cell (p := ⟨g, _, none⟩) hg).trans (HC.out q3 (by omega))
        obtain ⟨x0, hx0⟩ : ∃ x, x = l.getD q0 0 := ⟨_, rfl⟩
        obtain ⟨x1, hx1⟩ : ∃ x, x = l.getD q1 0 := ⟨_, rfl⟩
        obtain ⟨x2, hx2⟩ : ∃ x, x = l.getD q2 0 := ⟨_, rfl⟩
        obtain ⟨x3, hx3⟩ : ∃ x, x = l.getD q3 0 := ⟨_, rfl⟩
        rw [← hx0] at d0
        rw [← hx1] at d1
        rw [← hx2] at d2
        rw [← hx3] at d3
        have HX := Lib.hid (show Wrapped (w4 x0 x1 x2 x3 = wordAt l k) from Wrapped.mk (by rw [hx0, hx1, hx2, hx3, hq1, hq2, hq3, hq0]; rfl))
        have e0 : 4 * (k : Int) = (q0 : Int) := by omega
        have e1 : (q0 : Int) + 1 = (q1 : Int) := by omega
        have e2 : (q0 : Int) + 2 = (q2 : Int) := by omega
        have e3 : (q0 : Int) + 3 = (q3 : Int) := by omega
        have i0 : IntKind.i64.wrap (q0 : Int) = (q0 : Int) := IntWalk.i64_in _ (by omega)
        have i1 : IntKind.i64.wrap (q1 : Int) = (q1 : Int) := IntWalk.i64_in _ (by omega)
        have i2 : IntKind.i64.wrap (q2 : Int) = (q2 : Int) := IntWalk.i64_in _ (by omega)
        have i3 : IntKind.i64.wrap (q3 : Int) = (q3 : Int) := IntWalk.i64_in _ (by omega)
        have j0 : (q0 : Int) < 64 := by omega
        have j1 : (q1 : Int) < 64 := by omega
        have j2 : (q2 : Int) < 64 := by omega
        have j3 : (q3 : Int) < 64 := by omega
        have n0 : q0 < 64 := by omega
        have n1 : q1 < 64 := by omega
        have n2 : q2 < 64 := by omega
        have n3 : q3 < 64 := by omega
        clear hx0 hx1 hx2 hx3 hq0 hq1 hq2 hq3
        go_wp2_with fail
        go_still_tail 35, (by kernel_rfl)
        change wpList _ _ _ _ _ wq.drew
        have Y0 := Lib.hid X0.out.drew
        have Y1 := Lib.hid X1.out.drew
        have Y2 := Lib.hid X2.out.drew
        have Y3 := Lib.hid X3.out.drew
        have YB := Lib.hid B2.out.drew
        obtain ⟨wd, hwd⟩ : ∃ wd, wq.drew = wd := ⟨_, rfl⟩
        rw [hwd] at Y0 Y1 Y2 Y3 YB ⊢
        have c1' := Y3.out.cell (part_next (z := z32) (l := spreadV l) (n := 64) (k := k) (by omega) (by rw [spreadV_len]; omega))
        have f1' := Y3.out.frozen k
        have k64 : k < 64 := hlt
        clear c1 f1 d0 d1 d2 d3 hwd X0 X1 X2 X3 B2 e0 e1 e2 e3 i0 i1 i2 i3 j0 j1 j2 j3 n0 n1 n2 n3
        go_wp2
        go_roundw
        case rel =>
          refine ⟨k + 1, hlt, by go_num, Lib.hid (Y0.out.far (by dsimp only; omega) _), Lib.hid (Y1.out.far (by dsimp only; omega) _), Lib.hid (Y2.out.far (by dsimp only; omega) _), Lib.hid ?_, Lib.hid (YB.out.setCell (by dsimp only; omega) _)⟩
          have hv := spreadV_at l (k := k) (by omega)
          rw [spread_first l h16, ← HX.out.get] at hv
          have := Y3.out.set (k := k) (u (w4 x0 x1 x2 x3))
          rw [part_set (by omega) hv] at this
          rw [sum4_eq]
          exact this
        case measure => simp [Lib.intOf]; omega
      · have k16 : ¬ ((k : Int) < 16) := by omega
        have h16' : 16 ≤ k := by omega
        have p2 := X3.out.cell (part_old (z := z32) (n := 64) (i := k - 2) (k := k) (by omega) (spreadV_at l (by omega)))
        have p15 := X3.out.cell (part_old (z := z32) (n := 64) (i := k - 15) (k := k) (by omega) (spreadV_at l (by omega)))
        obtain ⟨x2, hx2⟩ : ∃ x, x = (spreadL l).getD (k - 2) 0 := ⟨_, rfl⟩
        obtain ⟨x7, hx7⟩ : ∃ x, x = (spreadL l).getD (k - 7) 0 := ⟨_, rfl⟩
        obtain ⟨x15, hx15⟩ : ∃ x, x = (spreadL l).getD (k - 15) 0 := ⟨_, rfl⟩
        obtain ⟨x16, hx16⟩ : ∃ x, x = (spreadL l).getD (k - 16) 0 := ⟨_, rfl⟩
        have HX := Lib.hid (show Wrapped ((spreadL l).getD k 0 = x16 + low0 x15 + x7 + low1 x2) from Wrapped.mk (by rw [spread_next l h16' hlt, hx2, hx7, hx15, hx16]))
        rw [← hx2] at p2
        rw [← hx15] at p15
        have HX7 := Lib.hid hx7.symm
        have HX16 := Lib.hid hx16.symm
        clear hx2 hx7 hx15 hx16
        have e2 : (k : Int) - 2 = ((k - 2 : Nat) : Int) := by omega
        have e15 : (k : Int) - 15 = ((k - 15 : Nat) : Int) := by omega
        have w2' : IntKind.i64.wrap ((k - 2 : Nat) : Int) = ((k - 2 : Nat) : Int) := IntWalk.i64_in _ (by omega)
        have w15 : IntKind.i64.wrap ((k - 15 : Nat) : Int) = ((k - 15 : Nat) : Int) := IntWalk.i64_in _ (by omega)
        have j2 : ((k - 2 : Nat) : Int) < 64 := by omega
        have j15 : ((k - 15 : Nat) : Int) < 64 := by omega
        have i2 : k - 2 < 64 := by omega
        have i15 : k - 15 < 64 := by omega
        go_wp2_with fail
        go_region
        go_wp2_with fail
        refine (turned_q x15 7 7 rfl (by omega) _).mono ?_
        rintro e w1 ⟨rfl, rfl⟩
        go_wp2_with fail
        refine (turned_q x15 18 18 rfl (by omega) _).mono ?_
        rintro e w1 ⟨rfl, rfl⟩
        go_wp2_with fail
        refine (turned_q x2 17 17 rfl (by omega) _).mono ?_
        rintro e w1 ⟨rfl, rfl⟩
        go_wp2_with fail
        refine (turned_q x2 19 19 rfl (by omega) _).mono ?_
        rintro e w1 ⟨rfl, rfl⟩
        go_wp2_with fail
        have Y0 := Lib.hid X0.out.drew
        have Y1 := Lib.hid X1.out.drew
        have Y2 := Lib.hid X2.out.drew
        have Y3 := Lib.hid X3.out.drew
        have YB := Lib.hid B2.out.drew
        obtain ⟨wd, hwd⟩ : ∃ wd, wq.drew = wd := ⟨_, rfl⟩
        rw [hwd] at Y0 Y1 Y2 Y3 YB ⊢
        clear c1 f1 p2 p15 hwd X0 X1 X2 X3 B2 e2 e15 w2' w15 j2 j15 i2 i15
        have q7 := Y3.out.cell (part_old (z := z32) (n := 64) (i := k - 7) (k := k) (by omega) (spreadV_at l (by omega)))
        have q16 := Y3.out.cell (part_old (z := z32) (n := 64) (i := k - 16) (k := k) (by omega) (spreadV_at l (by omega)))
        rw [HX7.out] at q7
        rw [HX16.out] at q16
        have e7 : (k : Int) - 7 = ((k - 7 : Nat) : Int) := by omega
        have e16 : (k : Int) - 16 = ((k - 16 : Nat) : Int) := by omega
        have k3 : k < 64 := hlt
        have i7 : k - 7 < 64 := by omega
        have i16 : k - 16 < 64 := by omega
        have w7 : IntKind.i64.wrap ((k - 7 : Nat) : Int) = ((k - 7 : Nat) : Int) := IntWalk.i64_in _ (by omega)
        have w16 : IntKind.i64.wrap ((k - 16 : Nat) : Int) = ((k - 16 : Nat) : Int) := IntWalk.i64_in _ (by omega)
        have j7 : ((k - 7 : Nat) : Int) < 64 := by omega
        have j16 : ((k - 16 : Nat) : Int) < 64 := by omega
        go_still_tail 15, (by kernel_rfl)
        change wpList _ _ _ _ _ wd.drew
        have Z0 := Lib.hid Y0.out.drew
        have Z1 := Lib.hid Y1.out.drew
        have Z2 := Lib.hid Y2.out.drew
        have Z3 := Lib.hid Y3.out.drew
        have ZB := Lib.hid YB.out.drew
        obtain ⟨we, hwe⟩ : ∃ we, wd.drew = we := ⟨_, rfl⟩
        rw [hwe] at Z0 Z1 Z2 Z3 ZB ⊢
        have c1' := Z3.out.cell (part_next (z := z32) (l := spreadV l) (n := 64) (k := k) (by omega) (by rw [spreadV_len]; omega))
        have f1' := Z3.out.frozen k
        clear q7 q16 hwe e7 e16 w7 w16 Y0 Y1 Y2 Y3 YB
        go_wp2
        go_roundw
        case rel =>
          refine ⟨k + 1, hlt, by go_num, Lib.hid (Z0.out.far (by dsimp only; omega) _), Lib.hid (Z1.out.far (by dsimp only; omega) _), Lib.hid (Z2.out.far (by dsimp only; omega) _), Lib.hid ?_, Lib.hid (ZB.out.setCell (by dsimp only; omega) _)⟩
          have hv := spreadV_at l hlt
          rw [HX.out.get] at hv
          have := Z3.out.set (k := k) (u (x16 + low0 x15 + x7 + low1 x2))
          rw [part_set (by omega) hv] at this
          rw [next_eq]
          exact this
        case measure => simp [Lib.intOf]; omega
    · have k1 : ¬ ((k : Int) < 64) := by omega
      obtain rfl : k = 64 := by omega
      have Y3 : Hid (Box wq (w.heap.size + 1 + 1 + 1) 31 (spreadA l)) := Lib.hid (by have := X3.out; rw [part_full (spreadV_len l)] at this; exact this)
      clear X3
      have X3 := Y3
      clear Y3
      have HN : Hid (Box (wq.alloc (.cells (part z32 [] 8 0) 33)) wq.heap.size 33 (part z32 [] 8 0)) := Lib.hid (box_new _ _ _ rfl)
      obtain ⟨gq, hgq⟩ : ∃ q, q = wq.heap.size := ⟨_, rfl⟩
      have hx3 := X3.out.lt
      have hgb : w.heap.size + 1 + 1 + 1 < gq := by omega
      obtain ⟨wa, hwa⟩ : ∃ q, q = (wq.alloc (.cells (part z32 [] 8 0) 33)).setRow gq (stA s) := ⟨_, rfl⟩
      have A0 : Hid (Box wa w.heap.size 35 tabA) := Lib.hid (by rw [hwa]; exact (X0.out.alloc _).far_row (by omega) _)
      have A1 : Hid (Box wa (w.heap.size + 1) 33 (stA s)) := Lib.hid (by rw [hwa]; exact (X1.out.alloc _).far_row (by omega) _)
      have A2 : Hid (Box wa (w.heap.size + 1 + 1) 33 (part z32 [] 8 0)) := Lib.hid (by rw [hwa]; exact (X2.out.alloc _).far_row (by omega) _)
      have A3 : Hid (Box wa (w.heap.size + 1 + 1 + 1) 31 (spreadA l)) := Lib.hid (by rw [hwa]; exact (X3.out.alloc _).far_row (by omega) _)
      have A4 : Hid (Box wa gq 33 (stA s)) := Lib.hid (by rw [hwa, hgq]; exact HN.out.row _)
      have AB : Hid (Below w.heap.size w wa) := Lib.hid (by rw [hwa]; exact below_row (B2.out.alloc B2.out.size _) (by omega) _)
      rw [← hgq] at HN
      rw [hgq] at hwa
      have HGQ := Lib.hid hgq
      have HWA := Lib.hid hwa
      clear hgq hwa
      go_wp2_with (first
        | (refine wpList_load_row rfl 33 (.tmp 4) rfl (w.heap.size + 1) rfl 33 (stA s) (0, 0) (.array 8 30) X1.out Tryd.underlying33 rfl (info33s _) ?_)
        | (with_reducible refine wpList_zero rfl 33 rfl (part z32 [] 8 0) (zero33 _) ?_)
        | (refine wpList_store_row rfl 33 (.tmp 13) (.tmp 98) rfl wq.heap.size (stA s) rfl rfl 33 (part z32 [] 8 0) (by rw [← HGQ.out]; exact HN.out) (info33s _) (zeros8s _ _) (stA_one _) ?_))
      rw [← HWA.out, ← HGQ.out]
      clear X0 X1 X2 X3 B2 HN HGQ HWA
      go_loopw [14, 15, 16, 99, 100, 101, 102, 103, 104, 105, 106, 107, 108, 109, 110, 111, 112, 113, 114, 115, 116, 117, 118, 119, 120, 121, 122, 123, 124, 125, 126, 127, 128, 129, 130, 131, 132, 133, 134, 135, 136, 137, 138, 139, 140, 141, 142, 143, 144, 145, 146, 147, 148, 149, 150, 151, 152, 153, 154, 155, 156, 157, 158, 159, 160, 161, 162, 163, 164, 165, 166, 167, 168, 169, 170, 171, 172, 173, 174, 175, 176, 177, 178, 179, 180, 181, 182, 183, 184, 185, 186, 187] (fun _ _ _ i _ _ _ _ _ _ _ _ _ _ _ _ _ _ _ _ _ _ _ _ _ _ _ _ _ _ _ _ _ _ _ _ _ _ _ _ _ _ _ _ _ _ _ _ _ _ _ _ _ _ _ _ _ _ _ _ _ _ _ _ _ _ _ _ _ _ _ _ _ _ _ _ _ _ _ _ _ _ _ _ _ _ _ _ _ _ _ _ wr => ∃ (k : Nat) (x : St), k ≤ 64 ∧ i = .int .i64 k ∧ Hid (Wrapped (after s l k = x)) ∧ Hid (Box wr w.heap.size 35 tabA) ∧ Hid (Box wr (w.heap.size + 1) 33 (stA s)) ∧ Hid (Box wr (w.heap.size + 1 + 1) 33 (part z32 [] 8 0)) ∧ Hid (Box wr (w.heap.size + 1 + 1 + 1) 31 (spreadA l)) ∧ Hid (Box wr gq 33 (stA x)) ∧ Hid (Below w.heap.size w wr)) (fun _ _ _ i _ _ _ _ _ _ _ _ _ _ _ _ _ _ _ _ _ _ _ _ _ _ _ _ _ _ _ _ _ _ _ _ _ _ _ _ _ _ _ _ _ _ _ _ _ _ _ _ _ _ _ _ _ _ _ _ _ _ _ _ _ _ _ _ _ _ _ _ _ _ _ _ _ _ _ _ _ _ _ _ _ _ _ _ _ _ _ _ _ => 64 - (Lib.intOf i).toNat)
      case atStart => exact ⟨0, s, Nat.zero_le _, rfl, Lib.hid (Wrapped.mk (after_zero s l)), A0, A1, A2, A3, A4, AB⟩
      case round =>
        clear A0 A1 A2 A3 A4 AB
        obtain ⟨k, x, hk, rfl, HA, X0, X1, X2, X3, X4, B2⟩ := hrel
        obtain ⟨wq2, hwq2⟩ : ∃ q, q = wr := ⟨_, rfl⟩
        rw [← hwq2] at X0 X1 X2 X3 X4 B2 ⊢
        clear hwq2
        obtain ⟨a, b, c', d, e, f, g', h⟩ := x
        by_cases hlt : k < 64
        · obtain ⟨kk, hkk⟩ : ∃ y, y = consts.getD k 0 := ⟨_, rfl⟩
          obtain ⟨ww, hww⟩ : ∃ y, y = (spreadL l).getD k 0 := ⟨_, rfl⟩
          have ck := X0.out.cell (each_at hlt)
          rw [← hkk] at ck
          have cw := X3.out.cell (show (spreadA l)[k]? = some (u ww) by unfold spreadA; rw [List.getElem?_toArray, spreadV_at l hlt, hww])
          have d0 : wq2.cell? ⟨gq, 0, none⟩ = some (u a) := X4.out.cell (k := 0) rfl
          have d1 : wq2.cell? ⟨gq, 1, none⟩ = some (u b) := X4.out.cell (k := 1) rfl
          have d2 : wq2.cell? ⟨gq, 2, none⟩ = some (u c') := X4.out.cell (k := 2) rfl
          have d3 : wq2.cell? ⟨gq, 3, none⟩ = some (u d) := X4.out.cell (k := 3) rfl
          have d4 : wq2.cell? ⟨gq, 4, none⟩ = some (u e) := X4.out.cell (k := 4) rfl
          have d5 : wq2.cell? ⟨gq, 5, none⟩ = some (u f) := X4.out.cell (k := 5) rfl
          have d6 : wq2.cell? ⟨gq, 6, none⟩ = some (u g') := X4.out.cell (k := 6) rfl
          have d7 : wq2.cell? ⟨gq, 7, none⟩ = some (u h) := X4.out.cell (k := 7) rfl
          have HN := Lib.hid (show Wrapped (after s l (k + 1) = rnd kk ww ⟨a, b, c', d, e, f, g', h⟩) from Wrapped.mk (by rw [after_succ s l hlt, hkk, hww, HA.out.get]))
          have k1 : (0 : Int) ≤ (k : Int) := by omega
          have k2 : (k : Int) < 64 := by omega
          clear hkk hww
          go_wp2_with fail
          go_quiet ((go_at_call 54; exact Calls.quiet_of (turned_int _ _ (by omega) (by omega) _)))
          obtain ⟨pp, hpp⟩ : ∃ y, y = pOf kk ww ⟨a, b, c', d, e, f, g', h⟩ := ⟨_, rfl⟩
          obtain ⟨qq, hqq⟩ : ∃ y, y = qOf ⟨a, b, c', d, e, f, g', h⟩ := ⟨_, rfl⟩
          have h1 := p_eq2 kk ww ⟨a, b, c', d, e, f, g', h⟩
          have h2 := q_eq ⟨a, b, c', d, e, f, g', h⟩
          rw [← hpp] at h1
          rw [← hqq] at h2
          dsimp only at h1 h2
          rw [max_u32, h1]
          have H2 := Lib.hid h2
          have HP := Lib.hid (Wrapped.mk hpp)
          have HQ := Lib.hid (Wrapped.mk hqq)
          have Y0 := Lib.hid (X0.out.drewN nq)
          have Y1 := Lib.hid (X1.out.drewN nq)
          have Y2 := Lib.hid (X2.out.drewN nq)
          have Y3 := Lib.hid (X3.out.drewN nq)
          have Y4 := Lib.hid (X4.out.drewN nq)
          have YB := Lib.hid (below_drewN B2.out nq)
          obtain ⟨wd, hwd⟩ : ∃ wd, wq2.drewN nq = wd := ⟨_, rfl⟩
          rw [hwd] at Y0 Y1 Y2 Y3 Y4 YB ⊢
          clear hwd ck cw d0 d1 d2 d3 d4 d5 d6 d7 X0 X1 X2 X3 X4 B2 h1 h2 hpp hqq
          have d0 : wd.cell? ⟨gq, 0, none⟩ = some (u a) := Y4.out.cell (k := 0) rfl
          have d1 : wd.cell? ⟨gq, 1, none⟩ = some (u b) := Y4.out.cell (k := 1) rfl
          have d2 : wd.cell? ⟨gq, 2, none⟩ = some (u c') := Y4.out.cell (k := 2) rfl
          have d3 : wd.cell? ⟨gq, 3, none⟩ = some (u d) := Y4.out.cell (k := 3) rfl
          have d4 : wd.cell? ⟨gq, 4, none⟩ = some (u e) := Y4.out.cell (k := 4) rfl
          have d5 : wd.cell? ⟨gq, 5, none⟩ = some (u f) := Y4.out.cell (k := 5) rfl
          have d6 : wd.cell? ⟨gq, 6, none⟩ = some (u g') := Y4.out.cell (k := 6) rfl
          have d7 : wd.cell? ⟨gq, 7, none⟩ = some (u h) := Y4.out.cell (k := 7) rfl
          go_wp2_with fail
          go_quiet ((go_at_call 54; exact Calls.quiet_of (turned_int _ _ (by omega) (by omega) _)))

          rw [H2.out]
          have Z0 := Lib.hid (Y0.out.drewN nq)
          have Z1 := Lib.hid (Y1.out.drewN nq)
          have Z2 := Lib.hid (Y2.out.drewN nq)
          have Z3 := Lib.hid (Y3.out.drewN nq)
          have Z4 := Lib.hid (Y4.out.drewN nq)
          have ZB := Lib.hid (below_drewN YB.out nq)
          obtain ⟨we, hwe⟩ : ∃ we, wd.drewN nq = we := ⟨_, rfl⟩
          rw [hwe] at Z0 Z1 Z2 Z3 Z4 ZB ⊢
          clear hwe d0 d1 d2 d3 d4 d5 d6 d7 Y0 Y1 Y2 Y3 Y4 YB H2
          have d0 : we.cell? ⟨gq, 0, none⟩ = some (u a) := Z4.out.cell (k := 0) rfl
          have d1 : we.cell? ⟨gq, 1, none⟩ = some (u b) := Z4.out.cell (k := 1) rfl
          have d2 : we.cell? ⟨gq, 2, none⟩ = some (u c') := Z4.out.cell (k := 2) rfl
          have d3 : we.cell? ⟨gq, 3, none⟩ = some (u d) := Z4.out.cell (k := 3) rfl
          have d4 : we.cell? ⟨gq, 4, none⟩ = some (u e) := Z4.out.cell (k := 4) rfl
          have d5 : we.cell? ⟨gq, 5, none⟩ = some (u f) := Z4.out.cell (k := 5) rfl
          have d6 : we.cell? ⟨gq, 6, none⟩ = some (u g') := Z4.out.cell (k := 6) rfl
          have H6 : Hid (Box (we.setRow gq #[.int .u32 (((pp.toNat : Int) + (qq.toNat : Int)) % 4294967296), u a, u b, u c', .int .u32 (((d.toNat : Int) + (pp.toNat : Int)) % 4294967296), u e, u f, u g']) gq 33 (stA (rnd kk ww ⟨a, b, c', d, e, f, g', h⟩))) := Lib.hid (by
            have := Z4.out.row (stA (rnd kk ww ⟨a, b, c', d, e, f, g', h⟩))
            rw [add_word', add_word', HP.out.get, HQ.out.get]
            rw [HP.out.get, HQ.out.get] at *
            exact this)
          go_wp2_with (refine wpList_store_row rfl 33 (.tmp 13) (.tmp 186) rfl gq _ rfl rfl 33 (stA ⟨a, b, c', d, e, f, g', h⟩) Z4.out info33 rfl (by simp [Value.oneCell']) ?_)
          go_roundw
          case rel => exact ⟨k + 1, rnd kk ww ⟨a, b, c', d, e, f, g', h⟩, hlt, by go_num, HN, Lib.hid (Z0.out.far_row (by omega) _), Lib.hid (Z1.out.far_row (by omega) _), Lib.hid (Z2.out.far_row (by omega) _), Lib.hid (Z3.out.far_row (by omega) _), H6, Lib.hid (below_row ZB.out (by omega) _)⟩
          case measure => simp [Lib.intOf]; omega
        · have k2 : ¬ ((k : Int) < 64) := by omega
          have hh : ¬ ((k : Int) < 64) := by omega
          go_wp2_with fail
          go_loopw [17, 188, 189, 190, 191, 192, 193, 194, 195, 196, 197, 198, 199] (fun _ i _ _ _ _ _ _ _ _ _ _ _ wr => ∃ j : Nat, j ≤ 8 ∧ i = .int .i64 j ∧ Hid (Box wr (w.heap.size + 1) 33 (stA s)) ∧ Hid (Box wr (w.heap.size + 1 + 1) 33 (part z32 [] 8 0)) ∧ Hid (Box wr gq 33 (half (wordsV (addS s ⟨a, b, c', d, e, f, g', h⟩)) (wordsV ⟨a, b, c', d, e, f, g', h⟩) j)) ∧ Hid (Below w.heap.size w wr)) (fun _ i _ _ _ _ _ _ _ _ _ _ _ _ => 8 - (Lib.intOf i).toNat)
          case atStart => exact ⟨0, Nat.zero_le _, rfl, X1, X2, Lib.hid (by rw [half_zero]; exact X4.out), B2⟩
          case round =>
            clear X0 X1 X2 X3 X4 B2
            obtain ⟨j, hj, rfl, X1, X2, X4, B2⟩ := hrel
            obtain ⟨wq3, hwq3⟩ : ∃ q, q = wr := ⟨_, rfl⟩
            rw [← hwq3] at X1 X2 X4 B2 ⊢
            clear hwq3
            by_cases hlt5 : j < 8
            · obtain ⟨y, hy⟩ : ∃ y, y = (St.words ⟨a, b, c', d, e, f, g', h⟩).getD j 0 := ⟨_, rfl⟩
              obtain ⟨z, hz⟩ : ∃ z, z = s.words.getD j 0 := ⟨_, rfl⟩
              have cy := X4.out.cell ((half_at (by rw [wordsV_len]; omega)).trans (words_at ⟨a, b, c', d, e, f, g', h⟩ hlt5))
              rw [← hy] at cy
              have cz : wq3.cell? ⟨w.heap.size + 1, j, none⟩ = some (u z) := X1.out.cell (by unfold stA; rw [List.getElem?_toArray, words_at s hlt5, hz])
              have hv2 : (wordsV (addS s ⟨a, b, c', d, e, f, g', h⟩))[j]? = some (u (y + z)) := by rw [words_at _ hlt5, add_at s _ hlt5, hy, hz, BitVec.add_comm]
              have HV := Lib.hid (Wrapped.mk hv2)
              have j1 : (0 : Int) ≤ (j : Int) := by omega
              have j2 : (j : Int) < 8 := by omega
              have j3 : j < 8 := hlt5
              clear hv2 hy hz
              go_wp2_with fail
              go_still_tail 8, (by kernel_rfl)
              change wpList _ _ _ _ _ wq3.drew
              have Y1 := Lib.hid X1.out.drew
              have Y2 := Lib.hid X2.out.drew
              have Y4 := Lib.hid X4.out.drew
              have YB := Lib.hid B2.out.drew
              obtain ⟨wd, hwd⟩ : ∃ wd, wq3.drew = wd := ⟨_, rfl⟩
              rw [hwd] at Y1 Y2 Y4 YB ⊢
              have c5 := Y4.out.cell ((half_at (a := wordsV (addS s ⟨a, b, c', d, e, f, g', h⟩)) (b := wordsV ⟨a, b, c', d, e, f, g', h⟩) (by rw [wordsV_len]; omega)).trans (words_at ⟨a, b, c', d, e, f, g', h⟩ hlt5))
              have f5 := Y4.out.frozen j
              clear hwd cy cz X1 X2 X4 B2
              go_wp2
              go_roundw
              case rel =>
                refine ⟨j + 1, hlt5, by go_num, Lib.hid (Y1.out.far (by dsimp only; omega) _), Lib.hid (Y2.out.far (by dsimp only; omega) _), Lib.hid ?_, Lib.hid (YB.out.setCell (by dsimp only; omega) _)⟩
                have := Y4.out.set (k := j) (u (y + z))
                rw [half_set (by rw [wordsV_len]; omega) HV.out.get] at this
                rw [add_word']
                exact this
              case measure => simp [Lib.intOf]; omega
            · obtain rfl : j = 8 := by omega
              have H6 : Hid (Box wq3 gq 33 (stA (mixS consts s l))) := Lib.hid (by
                have := X4.out
                rw [half_all (wordsV_len _) (wordsV_len _), ← HA.out.get, show k = 64 by omega, after_all] at this
                exact this)
              clear HA X4
              go_wp2_with (first
                | (refine wpList_load_row rfl 33 (.tmp 13) rfl gq rfl 33 (stA (mixS consts s l)) (0, 0) (.array 8 30) H6.out Tryd.underlying33 rfl (info33s _) ?_)
                | (refine wpList_store_row rfl 33 (.tmp 6) (.tmp 200) rfl (w.heap.size + 1 + 1) (stA (mixS consts s l)) rfl rfl 33 (part z32 [] 8 0) X2.out (info33s _) (zeros8s _ _) (stA_one _) ?_))
              exact bodyPost_ret (results_cell_row rfl _ _ (w.heap.size + 1 + 1) 33 (stA (mixS consts s l)) (0, 0) (.array 8 30) rfl (setRow_heap _ _ _ _ _ _ X2.out) Tryd.underlying33 rfl (info33s _)) rfl ⟨rfl, below_row B2.out (by omega) _⟩
end Go.Proofs.YtkenbppoldfecaaDoor
