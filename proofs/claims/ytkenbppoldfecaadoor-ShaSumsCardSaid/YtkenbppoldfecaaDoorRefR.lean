/- Proved here: Read of puncheonref03. -/
import Derived.Test.YtkenbppoldfecaaDoorRefT
namespace Go.Proofs.YtkenbppoldfecaaDoor
open Go.RowKit Go.Shelf

def readOk (s : Bytes) : Bool := decide ((readV s).2 = 0)
def RReadR (s : Bytes) (w : World) (e : Ending) (w' : World) : Prop := e = .returned (.tuple #[.agg (bytesA (readV s).1), .bool (readOk s)]) ∧ Below w.heap.size w w'
theorem ret_rgood {s b : Bytes} (h : readV s = (b, 0)) : Ending.returned (.tuple #[.agg (bytesA b), .bool true]) = .returned (.tuple #[.agg (bytesA (readV s).1), .bool (readOk s)]) := by unfold readOk; rw [h]; rfl
theorem ret_rbad {s b : Bytes} (h : readV s = (b, 130)) : Ending.returned (.tuple #[.agg (bytesA b), .bool false]) = .returned (.tuple #[.agg (bytesA (readV s).1), .bool (readOk s)]) := by unfold readOk; rw [h]; rfl
theorem info26z : (Tryd.prog.info? 26).map (·.size) = some (part z8 [] 32 0).size := info26b zero32 rfl
theorem zeros26 : Tryd.prog.built 26 [] = some (part z8 [] 32 0) := by
  rw [part_zero]
  kernel_rfl

set_option maxRecDepth 100000 in
set_option maxHeartbeats 1500000 in
theorem rread_any (s : ByteArray) (w : World) : Calls Tryd.prog 18 #[.string s] w (RReadR s.data.toList w) := by
  have hl : s.data.toList.length = s.size := rfl
  have HX0 : Hid (Box ((w.alloc (.cells (part z8 [] 32 0) 26)).alloc (.cells (part z8 [] 32 0) 26)) w.heap.size 26 (part z8 [] 32 0)) := Lib.hid ((box_new w 26 _ rfl).alloc _)
  have HX1 : Hid (Box ((w.alloc (.cells (part z8 [] 32 0) 26)).alloc (.cells (part z8 [] 32 0) 26)) (w.heap.size + 1) 26 (part z8 [] 32 0)) := Lib.hid (heap_alloc2_new w _ _)
  have HB0 : Below w.heap.size w ((w.alloc (.cells (part z8 [] 32 0) 26)).alloc (.cells (part z8 [] 32 0) 26)) := ((Below.refl _ _).alloc (Nat.le_refl _) _).alloc (by simp) _
  have HL := Lib.hid hl
  clear hl
  by_cases h64 : s.size = 64
  · have n1 : ((s.size : Int) == 64) = true := by rw [beq_iff_eq]; omega
    have n2 : ((s.size : Int) != 64) = false := by rw [bne, n1]; rfl
    have H64 := Lib.hid h64
    clear h64
    go_enter Tryd.func18, Tryd.ntmps18
    go_wp2_with (with_reducible refine wpList_zero rfl 26 rfl (part z8 [] 32 0) (zero26 _) ?_)
    go_loopw [5, 6, 7, 12, 13, 14, 15, 16, 17, 18, 19, 20, 21, 22, 23, 24, 25, 26, 27, 28, 29, 30, 31, 33, 34, 35, 36, 37, 38, 39, 40] (fun _ _ _ i _ _ _ _ _ _ _ _ _ _ _ _ _ _ _ _ _ _ _ _ _ _ _ _ _ _ _ wr => ∃ k : Nat, k ≤ 32 ∧ i = .int .i64 k ∧ Hid (Wrapped (∀ j, j < 2 * k → 0 ≤ dv (s.data.toList.getD j 0))) ∧ Hid (Box wr w.heap.size 26 (part z8 [] 32 0)) ∧ Hid (Box wr (w.heap.size + 1) 26 (part z8 (bytesV (bytesOf s.data.toList)) 32 k)) ∧ Below w.heap.size w wr) (fun _ _ _ i _ _ _ _ _ _ _ _ _ _ _ _ _ _ _ _ _ _ _ _ _ _ _ _ _ _ _ _ => 32 - (Lib.intOf i).toNat)
    case atStart => exact ⟨0, Nat.zero_le _, rfl, Lib.hid (Wrapped.mk fun j hj => by omega), HX0, HX1, HB0⟩
    case round =>
      obtain ⟨k, hk, rfl, HA, H0, H1, hB⟩ := hrel
      by_cases hlt : k < 32
      · obtain ⟨x, hx⟩ : ∃ x, x = s.data.toList.getD (2 * k) 0 := ⟨_, rfl⟩
        obtain ⟨y, hy⟩ : ∃ y, y = s.data.toList.getD (2 * k + 1) 0 := ⟨_, rfl⟩
        have i1 := fun W => run_byte_at s (2 * k) (2 * (k : Int)) (by omega) (by have := H64.out; omega) W
        have i2 := fun W => run_byte_at s (2 * k + 1) (2 * (k : Int) + 1) (by omega) (by have := H64.out; omega) W
        rw [← hx] at i1
        rw [← hy] at i2
        have gx := get_getD s.data.toList 0 (k := 2 * k) (by have := HL.out; have := H64.out; omega)
        have gy := get_getD s.data.toList 0 (k := 2 * k + 1) (by have := HL.out; have := H64.out; omega)
        rw [← hx] at gx
        rw [← hy] at gy
        have hbo : byteOf s.data.toList k = pairB x y := by rw [hx, hy]; rfl
        have rx := dv_range x
        have ry := dv_range y
        have k1 : (0 : Int) ≤ (k : Int) := by omega
        have k2 : (k : Int) < 32 := by omega
        have HXX := Lib.hid (Wrapped.mk hx)
        have HYY := Lib.hid (Wrapped.mk hy)
        have HGX := Lib.hid (Wrapped.mk gx)
        have HGY := Lib.hid (Wrapped.mk gy)
        have HBO := Lib.hid (Wrapped.mk hbo)
        obtain ⟨p, hp⟩ : ∃ p, p = dv x := ⟨_, rfl⟩
        obtain ⟨q, hq⟩ : ∃ q, q = dv y := ⟨_, rfl⟩
        rw [← hp] at rx
        rw [← hq] at ry
        have HPP := Lib.hid (Wrapped.mk hp)
        have HQQ := Lib.hid (Wrapped.mk hq)
        have px : dv x = p := hp.symm
        have qy : dv y = q := hq.symm
        clear hx hy gx gy hbo hp hq
        by_cases hp0 : p < 0
        · have d1 : decide (p < 0) = true := decide_eq_true hp0
          go_wp2_with fail
          go_quiet ((go_at_call 37; exact Calls.quiet_of_same (digit_any _ _)))
          go_wp2_with (first
            | (refine builds_none rfl 26 rfl (part z8 [] 32 0) zeros26 ?_)
            | (refine wpList_store_row rfl 26 (.tmp 2) (.tmp 32) rfl w.heap.size (part z8 [] 32 0) rfl rfl 26 (part z8 [] 32 0) (H0.out.drewN _) info26z rfl (bytesA_one zero32) ?_))
          refine bodyPost_ret (results_two rfl _ _ w.heap.size rfl (part z8 [] 32 0) (run_loadVar_row _ w.heap.size 26 26 (part z8 [] 32 0) (0, 0) (.array 32 5) (setRow_heap _ _ _ _ _ _ (H0.out.drewN _)) Tryd.underlying26 rfl info26z)) rfl ?_
          exact ⟨ret_rbad (readV_bad HGX.out.get (by rw [← HPP.out.get]; exact hp0)), below_row (below_drewN hB _) (Nat.le_refl _) _⟩
        · by_cases hq0 : q < 0
          · have d1 : decide (p < 0) = false := decide_eq_false hp0
            have d2 : decide (q < 0) = true := decide_eq_true hq0
            go_wp2_with fail
            go_quiet ((go_at_call 37; exact Calls.quiet_of_same (digit_any _ _)))
            go_wp2_with (first
              | (refine builds_none rfl 26 rfl (part z8 [] 32 0) zeros26 ?_)
              | (refine wpList_store_row rfl 26 (.tmp 2) (.tmp 32) rfl w.heap.size (part z8 [] 32 0) rfl rfl 26 (part z8 [] 32 0) (H0.out.drewN _) info26z rfl (bytesA_one zero32) ?_))
            refine bodyPost_ret (results_two rfl _ _ w.heap.size rfl (part z8 [] 32 0) (run_loadVar_row _ w.heap.size 26 26 (part z8 [] 32 0) (0, 0) (.array 32 5) (setRow_heap _ _ _ _ _ _ (H0.out.drewN _)) Tryd.underlying26 rfl info26z)) rfl ?_
            exact ⟨ret_rbad (readV_bad HGY.out.get (by rw [← HQQ.out.get]; exact hq0)), below_row (below_drewN hB _) (Nat.le_refl _) _⟩
          · obtain ⟨pn, rfl⟩ : ∃ pn : Nat, p = (pn : Int) := ⟨p.toNat, by omega⟩
            obtain ⟨qn, rfl⟩ : ∃ qn : Nat, q = (qn : Int) := ⟨q.toNat, by omega⟩
            have d1 : decide ((pn : Int) < 0) = false := decide_eq_false hp0
            have d2 : decide ((qn : Int) < 0) = false := decide_eq_false hq0
            have hor : (16 : Int) * (pn : Int) + (qn : Int) = ((16 * pn + qn : Nat) : Int) := by omega
            have HEB : Hid (Wrapped (b8 (byteOf s.data.toList k) = .int .u8 (((16 * pn + qn : Nat) : Int) % 256))) := Lib.hid (Wrapped.mk (by
              rw [HBO.out.get]
              unfold pairB
              rw [← HPP.out.get, ← HQQ.out.get, Int.toNat_natCast, Int.toNat_natCast]
              show Value.int .u8 _ = _
              rw [byte_of]))
            obtain ⟨z, hz⟩ : ∃ z, z = 16 * pn + qn := ⟨_, rfl⟩
            rw [← hz] at hor HEB
            have z1 : (z : Int) < 256 := by omega
            have c1 := H1.out.cell (part_next (z := z8) (l := bytesV (bytesOf s.data.toList)) (n := 32) hlt (by rw [bytesV_len, bytesOf_len]; omega))
            have f1 := H1.out.frozen k
            clear hz
            go_wp2_with fail
            go_quiet ((go_at_call 37; exact Calls.quiet_of_same (digit_any _ _)))
            go_wp2_with fail
            go_roundw
            case rel =>
              refine ⟨k + 1, hlt, by go_num, Lib.hid (Wrapped.mk fun j hj => ?_), Lib.hid ((H0.out.far (by dsimp only; omega) _).drewN _), Lib.hid ?_, below_drewN (hB.setCell (by dsimp only; omega) _) _⟩
              · by_cases hj2 : j < 2 * k
                · exact HA.out.get j hj2
                · rcases (by omega : j = 2 * k ∨ j = 2 * k + 1) with rfl | rfl
                  · rw [← HXX.out.get, ← HPP.out.get]; omega
                  · rw [← HYY.out.get, ← HQQ.out.get]; omega
              · have h3 := H1.out.set (k := k) (b8 (byteOf s.data.toList k))
                rw [part_set hlt (bytesOf_at _ hlt), HEB.out.get] at h3
                first
                  | exact h3
                  | (rw [Int.emod_eq_of_lt (by omega) (by omega)] at h3; exact h3)
            case measure => simp [Lib.intOf]; omega
      · have hk2 : ¬ ((k : Int) < 32) := by omega
        have HE : Hid (k = 32) := Lib.hid (by omega)
        have hall : allD s.data.toList = true := by
          unfold allD
          rw [List.all_eq_true]
          intro c hc
          obtain ⟨i, hi⟩ := List.mem_iff_getElem?.1 hc
          have hil := (List.getElem?_eq_some_iff.1 hi).1
          have h1 := HA.out.get i (by have := HL.out; have := H64.out; omega)
          have e : s.data.toList.getD i 0 = c := by rw [List.getD_eq_getElem?_getD, hi]; rfl
          rw [e] at h1
          exact decide_eq_true h1
        have HALL := Lib.hid hall
        have H2 : Hid (Box wr (w.heap.size + 1) 26 (bytesA (bytesOf s.data.toList))) := Lib.hid (by have := H1.out; rw [HE.out, part_full (by rw [bytesV_len, bytesOf_len])] at this; exact this)
        have HI2 := Lib.hid (info26b _ (bytesOf_len s.data.toList))
        have HI3 := Lib.hid (zeros32 _ (bytesOf_len s.data.toList))
        clear hall
        go_wp2_with (first
          | (refine wpList_load_row rfl 26 (.tmp 4) rfl (w.heap.size + 1) rfl 26 (bytesA (bytesOf s.data.toList)) (0, 0) (.array 32 5) H2.out Tryd.underlying26 rfl HI2.out ?_)
          | (refine wpList_store_row rfl 26 (.tmp 2) (.tmp 41) rfl w.heap.size (bytesA (bytesOf s.data.toList)) rfl rfl 26 (part z8 [] 32 0) H0.out HI2.out HI3.out (bytesA_one _) ?_))
        refine bodyPost_ret (results_two rfl _ _ w.heap.size rfl (bytesA (bytesOf s.data.toList)) (run_loadVar_row _ w.heap.size 26 26 (bytesA (bytesOf s.data.toList)) (0, 0) (.array 32 5) (setRow_heap _ _ _ _ _ _ H0.out) Tryd.underlying26 rfl HI2.out)) rfl ?_
        exact ⟨ret_rgood (readV_good (by have := HL.out; have := H64.out; omega) HALL.out), below_row hB (Nat.le_refl _) _⟩
  · have n1 : ((s.size : Int) == 64) = false := by rw [beq_eq_false_iff_ne]; omega
    have n2 : ((s.size : Int) != 64) = true := by rw [bne, n1]; rfl
    have HR := Lib.hid (readV_long (s := s.data.toList) (by have := HL.out; omega))
    clear h64
    go_enter Tryd.func18, Tryd.ntmps18
    go_wp2_with (first
      | (with_reducible refine wpList_zero rfl 26 rfl (part z8 [] 32 0) (zero26 _) ?_)
      | (refine wpList_load_row rfl 26 (.tmp 4) rfl (w.heap.size + 1) rfl 26 (part z8 [] 32 0) (0, 0) (.array 32 5) HX1.out Tryd.underlying26 rfl info26z ?_)
      | (refine wpList_store_row rfl 26 (.tmp 2) (.tmp 11) rfl w.heap.size (part z8 [] 32 0) rfl rfl 26 (part z8 [] 32 0) HX0.out info26z rfl (bytesA_one zero32) ?_))
    refine bodyPost_ret (results_two rfl _ _ w.heap.size rfl (part z8 [] 32 0) (run_loadVar_row _ w.heap.size 26 26 (part z8 [] 32 0) (0, 0) (.array 32 5) (setRow_heap _ _ _ _ _ _ HX0.out) Tryd.underlying26 rfl info26z)) rfl ?_
    exact ⟨ret_rbad HR.out, below_row HB0 (Nat.le_refl _) _⟩
end Go.Proofs.YtkenbppoldfecaaDoor
