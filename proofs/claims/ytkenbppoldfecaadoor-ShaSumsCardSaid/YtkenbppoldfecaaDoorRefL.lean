/- Proved here: less of puncheonref03: two numbers of three parts compared. -/
import Derived.Test.YtkenbppoldfecaaDoorRefQ
import Derived.Test.YtkenbppoldfecaaDoorArr
import Derived.StillTailTactics
import Derived.RegionTactic
import Derived.BigRegion
import Derived.Deep.DeepCutAuto
namespace Go.Proofs.YtkenbppoldfecaaDoor
open Go.RowKit Go.Shelf

/-- A number of three parts, the lowest first. -/
def tri (a b c : Nat) : Array Value := #[.int .u64 (a : Int), .int .u64 (b : Int), .int .u64 (c : Int)]

set_option maxHeartbeats 4000000 in
theorem less_any (a0 a1 a2 b0 b1 b2 : Nat) (w : World) : Calls Tryd.prog 49 #[.agg (tri a0 a1 a2), .agg (tri b0 b1 b2)] w fun e w' => e = .returned (.bool (decide (a2 < b2 ∨ a2 = b2 ∧ (a1 < b1 ∨ a1 = b1 ∧ a0 < b0)))) ∧ Below w.heap.size w w' := by
  unfold tri
  obtain ⟨w2, hw2⟩ : ∃ q, q = (w.alloc (.cells (tri a0 a1 a2) 89)).alloc (.cells (tri b0 b1 b2) 89) := ⟨_, rfl⟩
  have X2 : Hid (Box w2 w.heap.size 89 (tri a0 a1 a2)) := Lib.hid (by rw [hw2]; exact (show Box _ _ _ _ from heap_alloc_new w _).alloc _)
  have X3 : Hid (Box w2 (w.heap.size + 1) 89 (tri b0 b1 b2)) := Lib.hid (by rw [hw2]; exact heap_alloc2_new w _ _)
  have B2 : Hid (Below w.heap.size w w2) := Lib.hid (by rw [hw2]; exact ((Below.refl w.heap.size w).alloc (Nat.le_refl _) _).alloc (by simp) _)
  unfold tri at hw2
  go_enter Tryd.func49, Tryd.ntmps49
  go_upto_region 1 with fail
  rw [← hw2]
  clear hw2
  go_wp2
  go_loopw [5, 6, 7, 8, 9, 10, 11, 12, 13, 14, 15, 16, 17, 18, 19, 20, 21, 22, 23] (fun i _ _ _ _ _ _ _ _ _ _ _ _ _ _ _ _ _ _ W => ∃ (k : Int), Hid (Box W w.heap.size 89 (tri a0 a1 a2)) ∧ Hid (Box W (w.heap.size + 1) 89 (tri b0 b1 b2)) ∧ Hid (Below w.heap.size w W) ∧ i = .int .i64 k ∧ (k = 2 ∨ (k = 1 ∧ Hid (a2 = b2)) ∨ (k = 0 ∧ Hid (a2 = b2 ∧ a1 = b1)) ∨ (k = -1 ∧ Hid (a2 = b2 ∧ a1 = b1 ∧ a0 = b0)))) (fun i _ _ _ _ _ _ _ _ _ _ _ _ _ _ _ _ _ _ _ => (Lib.intOf i + 1).toNat)
  case atStart => exact ⟨2, X2, X3, B2, rfl, .inl rfl⟩
  case round =>
    clear X2 X3 B2
    obtain ⟨k, X2, X3, B2, rfl, hk⟩ := hrel
    obtain ⟨wq, hwq⟩ : ∃ q, q = wr := ⟨_, rfl⟩
    rw [← hwq] at X2 X3 B2 ⊢
    clear hwq
    have c0 : wq.cell? ⟨w.heap.size, 0, none⟩ = some (.int .u64 (a0 : Int)) := X2.out.cell rfl
    have c1 : wq.cell? ⟨w.heap.size, 1, none⟩ = some (.int .u64 (a1 : Int)) := X2.out.cell rfl
    have c2 : wq.cell? ⟨w.heap.size, 2, none⟩ = some (.int .u64 (a2 : Int)) := X2.out.cell rfl
    have d0 : wq.cell? ⟨w.heap.size + 1, 0, none⟩ = some (.int .u64 (b0 : Int)) := X3.out.cell rfl
    have d1 : wq.cell? ⟨w.heap.size + 1, 1, none⟩ = some (.int .u64 (b1 : Int)) := X3.out.cell rfl
    have d2 : wq.cell? ⟨w.heap.size + 1, 2, none⟩ = some (.int .u64 (b2 : Int)) := X3.out.cell rfl
    rcases hk with rfl | ⟨rfl, H1⟩ | ⟨rfl, H2⟩ | ⟨rfl, H3⟩
    · by_cases he : a2 = b2
      · have HE := Lib.hid he
        have t1 : ((a2 : Int) == (b2 : Int)) = true := by rw [beq_iff_eq]; omega
        have t2 : ((a2 : Int) != (b2 : Int)) = false := by rw [bne, t1]; rfl
        clear he
        go_wp2
        go_region
        go_wp2
        go_roundw
        case rel => exact ⟨1, X2, X3, Lib.hid (B2.out.drew), by go_num, .inr (.inl ⟨rfl, HE⟩)⟩
        case measure => simp [Lib.intOf]
      · have HE := Lib.hid he
        have t1 : ((a2 : Int) == (b2 : Int)) = false := by rw [beq_eq_false_iff_ne]; omega
        have t2 : ((a2 : Int) != (b2 : Int)) = true := by rw [bne, t1]; rfl
        clear he
        go_wp2
        go_region
        go_wp2
        go_region
        go_wp2
        go_ret
        exact ⟨ret_b (by rw [decide_eq_decide]; have := HE.out; omega), B2.out.drew.drew⟩
    · by_cases he : a1 = b1
      · have HE := Lib.hid he
        have t1 : ((a1 : Int) == (b1 : Int)) = true := by rw [beq_iff_eq]; omega
        have t2 : ((a1 : Int) != (b1 : Int)) = false := by rw [bne, t1]; rfl
        clear he
        go_wp2
        go_region
        go_wp2
        go_roundw
        case rel => exact ⟨0, X2, X3, Lib.hid (B2.out.drew), by go_num, .inr (.inr (.inl ⟨rfl, Lib.hid ⟨H1.out, HE.out⟩⟩))⟩
        case measure => simp [Lib.intOf]
      · have HE := Lib.hid he
        have t1 : ((a1 : Int) == (b1 : Int)) = false := by rw [beq_eq_false_iff_ne]; omega
        have t2 : ((a1 : Int) != (b1 : Int)) = true := by rw [bne, t1]; rfl
        clear he
        go_wp2
        go_region
        go_wp2
        go_region
        go_wp2
        go_ret
        exact ⟨ret_b (by rw [decide_eq_decide]; have := HE.out; have := H1.out; omega), B2.out.drew.drew⟩
    · by_cases he : a0 = b0
      · have HE := Lib.hid he
        have t1 : ((a0 : Int) == (b0 : Int)) = true := by rw [beq_iff_eq]; omega
        have t2 : ((a0 : Int) != (b0 : Int)) = false := by rw [bne, t1]; rfl
        clear he
        go_wp2
        go_region
        go_wp2
        go_roundw
        case rel => exact ⟨-1, X2, X3, Lib.hid (B2.out.drew), by go_num, .inr (.inr (.inr ⟨rfl, Lib.hid ⟨H2.out.1, H2.out.2, HE.out⟩⟩))⟩
        case measure => simp [Lib.intOf]
      · have HE := Lib.hid he
        have t1 : ((a0 : Int) == (b0 : Int)) = false := by rw [beq_eq_false_iff_ne]; omega
        have t2 : ((a0 : Int) != (b0 : Int)) = true := by rw [bne, t1]; rfl
        clear he
        go_wp2
        go_region
        go_wp2
        go_region
        go_wp2
        go_ret
        exact ⟨ret_b (by rw [decide_eq_decide]; have := HE.out; have := H2.out; omega), B2.out.drew.drew⟩
    · go_wp2
      go_ret
      refine ⟨ret_b ?_, B2.out⟩
      have := H3.out
      symm
      rw [decide_eq_false_iff_not]
      omega
end Go.Proofs.YtkenbppoldfecaaDoor
