/- Proved here: times of puncheonref03: a number of three parts times another one. -/
import Derived.Test.YtkenbppoldfecaaDoorRefL
import Derived.Shelf.Spec.BitsCarry
namespace Go.Proofs.YtkenbppoldfecaaDoor
open Go.RowKit Go.Shelf

def addRen : Go.Shelf.Ren := ⟨fun | 25 => 55 | n => n, fun | 22 => 50 | n => n, fun n => n⟩
theorem addLays : Lays7.n25 Tryd.prog addRen := {
  mixed := by kernel_rfl
  f25 := Tryd.func55.trans (congrArg some (by kernel_rfl))
  t22 := Tryd.underlying50
  a22 := Tryd.isAgg50
  z22 := Tryd.sizeOf50
  v22 := Tryd.zeroValue50
  i22 := by kernel_rfl }
/-- Add64 with no carry in, its answers named. -/
theorem add_named (x c s m : Nat) (hs : s = (x + c) % 18446744073709551616) (hm : m = (x + c) / 18446744073709551616) (w : World) : (callFunc 55 #[.int .u64 (x : Int), .int .u64 (c : Int), .int .u64 0]).run Tryd.prog w = .ok (.value (.tuple #[.int .u64 (s : Int), .int .u64 (m : Int)])) w := by
  rw [hs, hm]
  exact Any7.bits_Add64 addLays x c 0 (by omega) w
theorem info89 (cs : Array Value) (h : cs.size = 3) : (Tryd.prog.info? 89).map (·.size) = some cs.size := by
  rw [h]
  kernel_rfl
theorem add_named_0 (x s m : Nat) (hs : s = (x + 0) % 18446744073709551616) (hm : m = (x + 0) / 18446744073709551616) (w : World) : (callFunc 55 #[.int .u64 (x : Int), .int .u64 0, .int .u64 0]).run Tryd.prog w = .ok (.value (.tuple #[.int .u64 (s : Int), .int .u64 (m : Int)])) w := add_named x 0 s m hs hm w
theorem mul_named (a x h l : Nat) (ha : a < 18446744073709551616) (hx : x < 18446744073709551616) (hh : h = a * x / 18446744073709551616) (hl : l = a * x % 18446744073709551616) (w : World) : Calls Tryd.prog 47 #[.int .u64 (a : Int), .int .u64 (x : Int)] w fun e w' => e = .returned (.tuple #[.int .u64 (h : Int), .int .u64 (l : Int)]) ∧ w' = w := by
  rw [hh, hl]
  exact Tryd.bits_Mul64 a x ha hx w
theorem mul_top (a x : Nat) (ha : a < 18446744073709551616) (hx : x < 18446744073709551616) : a * x / 18446744073709551616 ≤ 18446744073709551614 := by
  have h : a * x ≤ 18446744073709551615 * 18446744073709551615 := Nat.mul_le_mul (by omega) (by omega)
  omega
/-- What goes over behind a part, and the part. -/
def over (a x c : Nat) : Nat := a * x / 18446744073709551616 + (a * x % 18446744073709551616 + c) / 18446744073709551616
def partOf (a x c : Nat) : Nat := (a * x % 18446744073709551616 + c) % 18446744073709551616
theorem over_lt (a x c : Nat) (ha : a < 18446744073709551616) (hx : x < 18446744073709551616) (hc : c < 18446744073709551616) : over a x c < 18446744073709551616 := by
  have := mul_top a x ha hx
  unfold over
  omega

set_option maxHeartbeats 8000000 in
theorem times_any (a0 a1 a2 x : Nat) (h0 : a0 < 18446744073709551616) (h1 : a1 < 18446744073709551616) (h2 : a2 < 18446744073709551616) (hx : x < 18446744073709551616) (w : World) : Calls Tryd.prog 48 #[.agg (tri a0 a1 a2), .int .u64 (x : Int)] w fun e w' => e = .returned (.agg (tri (partOf a0 x 0) (partOf a1 x (over a0 x 0)) (partOf a2 x (over a1 x (over a0 x 0))))) ∧ Below w.heap.size w w' := by
  have HX := Lib.hid hx
  obtain ⟨w2, hw2⟩ : ∃ q, q = ((w.alloc (.cells (tri a0 a1 a2) 89)).alloc (.cells #[.int .u64 0, .int .u64 0, .int .u64 0] 89)).alloc (.cells #[.int .u64 0, .int .u64 0, .int .u64 0] 89) := ⟨_, rfl⟩
  have X2 : Hid (Box w2 w.heap.size 89 (tri a0 a1 a2)) := Lib.hid (by rw [hw2]; exact ((show Box _ _ _ _ from heap_alloc_new w _).alloc _).alloc _)
  have X4 : Hid (Box w2 (w.heap.size + 1) 89 #[.int .u64 0, .int .u64 0, .int .u64 0]) := Lib.hid (by rw [hw2]; exact (show Box _ _ _ _ from heap_alloc2_new w _ _).alloc _)
  have X5 : Hid (Box w2 (w.heap.size + 1 + 1) 89 #[.int .u64 0, .int .u64 0, .int .u64 0]) := Lib.hid (by
    rw [hw2]
    have h := heap_alloc_new ((w.alloc (.cells (tri a0 a1 a2) 89)).alloc (.cells #[.int .u64 0, .int .u64 0, .int .u64 0] 89)) (.cells #[.int .u64 0, .int .u64 0, .int .u64 0] 89)
    have e : ((w.alloc (.cells (tri a0 a1 a2) 89)).alloc (.cells #[.int .u64 0, .int .u64 0, .int .u64 0] 89)).heap.size = w.heap.size + 1 + 1 := by simp
    rw [e] at h
    exact h)
  have B2 : Hid (Below w.heap.size w w2) := Lib.hid (by rw [hw2]; exact (((Below.refl w.heap.size w).alloc (Nat.le_refl _) _).alloc (by simp) _).alloc (by simp; omega) _)
  unfold tri at hw2
  obtain ⟨o0, ho0⟩ : ∃ q, q = partOf a0 x 0 := ⟨_, rfl⟩
  obtain ⟨c1, hc1⟩ : ∃ q, q = over a0 x 0 := ⟨_, rfl⟩
  rw [← ho0, ← hc1]
  obtain ⟨o1, ho1⟩ : ∃ q, q = partOf a1 x c1 := ⟨_, rfl⟩
  obtain ⟨c2, hc2⟩ : ∃ q, q = over a1 x c1 := ⟨_, rfl⟩
  rw [← ho1, ← hc2]
  obtain ⟨o2, ho2⟩ : ∃ q, q = partOf a2 x c2 := ⟨_, rfl⟩
  obtain ⟨c3, hc3⟩ : ∃ q, q = over a2 x c2 := ⟨_, rfl⟩
  rw [← ho2]
  have hl1 : c1 < 18446744073709551616 := by rw [hc1]; exact over_lt a0 x 0 h0 hx (by omega)
  have hl2 : c2 < 18446744073709551616 := by rw [hc2]; exact over_lt a1 x c1 h1 hx hl1
  have hl3 : c3 < 18446744073709551616 := by rw [hc3]; exact over_lt a2 x c2 h2 hx hl2
  have P0 := Lib.hid ho0
  have P1 := Lib.hid ho1
  have P2 := Lib.hid ho2
  have V1 := Lib.hid hc1
  have V2 := Lib.hid hc2
  have V3 := Lib.hid hc3
  clear ho0 ho1 ho2 hc1 hc2 hc3
  unfold tri
  go_enter Tryd.func48, Tryd.ntmps48
  go_upto_region 2 with fail
  rw [← hw2]
  clear hw2
  go_wp2_with fail
  go_loopw [6, 7, 8, 9, 10, 11, 12, 14, 15, 16, 17, 18, 19, 20, 21, 22, 23, 24, 25, 26, 27, 28, 29, 30, 31, 32, 33, 34, 35] (fun c _ _ _ _ _ i _ _ _ _ _ _ _ _ _ _ _ _ _ _ _ _ _ _ _ _ _ _ W => ∃ (k cc : Int) (cs : Array Value), Hid (Box W w.heap.size 89 (tri a0 a1 a2)) ∧ Hid (Box W (w.heap.size + 1) 89 #[.int .u64 0, .int .u64 0, .int .u64 0]) ∧ Hid (Box W (w.heap.size + 1 + 1) 89 cs) ∧ Hid (Below w.heap.size w W) ∧ c = .int .u64 cc ∧ i = .int .i64 k ∧ ((k = 0 ∧ cc = 0 ∧ cs = #[.int .u64 0, .int .u64 0, .int .u64 0]) ∨ (k = 1 ∧ cc = (c1 : Int) ∧ cs = #[.int .u64 (o0 : Int), .int .u64 0, .int .u64 0]) ∨ (k = 2 ∧ cc = (c2 : Int) ∧ cs = #[.int .u64 (o0 : Int), .int .u64 (o1 : Int), .int .u64 0]) ∨ (k = 3 ∧ cc = (c3 : Int) ∧ cs = #[.int .u64 (o0 : Int), .int .u64 (o1 : Int), .int .u64 (o2 : Int)]))) (fun _ _ _ _ _ _ i _ _ _ _ _ _ _ _ _ _ _ _ _ _ _ _ _ _ _ _ _ _ _ => (3 - Lib.intOf i).toNat)
  case atStart => exact ⟨0, 0, _, X2, X4, X5, B2, rfl, rfl, .inl ⟨rfl, rfl, rfl⟩⟩
  case round =>
    clear X2 X4 X5 B2
    obtain ⟨k, cc, cs, X2, X4, X5, B2, rfl, rfl, hk⟩ := hrel
    obtain ⟨wq, hwq⟩ : ∃ q, q = wr := ⟨_, rfl⟩
    rw [← hwq] at X2 X4 X5 B2 ⊢
    clear hwq
    rcases hk with ⟨rfl, rfl, rfl⟩ | ⟨rfl, rfl, rfl⟩ | ⟨rfl, rfl, rfl⟩ | ⟨rfl, rfl, rfl⟩
    · have r0 : wq.cell? ⟨w.heap.size, 0, none⟩ = some (.int .u64 (a0 : Int)) := X2.out.cell rfl
      have r1 := X5.out.cell (k := 0) rfl
      have f1 : wq.frozen? ⟨w.heap.size + 1 + 1, 0, none⟩ = false := X5.out.frozen 0
      obtain ⟨h, hh⟩ : ∃ q, q = a0 * x / 18446744073709551616 := ⟨_, rfl⟩
      obtain ⟨l, hl⟩ : ∃ q, q = a0 * x % 18446744073709551616 := ⟨_, rfl⟩
      obtain ⟨m, hm⟩ : ∃ q, q = (l + 0) / 18446744073709551616 := ⟨_, rfl⟩
      have HO : Hid (o0 = (l + 0) % 18446744073709551616) := Lib.hid (by rw [P0.out, hl]; rfl)
      have HM := Lib.hid hm
      have hsum : h + m = c1 := by rw [V1.out, hm, hl, hh]; rfl
      have v1 : IntKind.u64.wrap ((h : Int) + (m : Int)) = (c1 : Int) := by rw [wrap_u64]; omega
      have HMU := Lib.hid (mul_named a0 x h l h0 HX.out hh hl wq)
      clear hh hl hm hsum
      go_wp2_with fail
      refine HMU.out.mono ?_
      rintro e w' ⟨rfl, rfl⟩
      go_wp2_with (simp only [add_named_0 l o0 m HO.out HM.out])
      go_roundw
      case rel => exact ⟨1, c1, _, Lib.hid (X2.out.far (p := ⟨w.heap.size + 1 + 1, 0, none⟩) (by show w.heap.size ≠ w.heap.size + 1 + 1; omega) _), Lib.hid (X4.out.far (p := ⟨w.heap.size + 1 + 1, 0, none⟩) (by show w.heap.size + 1 ≠ w.heap.size + 1 + 1; omega) _), Lib.hid (X5.out.set (k := 0) _), Lib.hid (B2.out.setCell (p := ⟨w.heap.size + 1 + 1, 0, none⟩) (by show w.heap.size ≤ w.heap.size + 1 + 1; omega) _), rfl, by go_num, .inr (.inl ⟨rfl, rfl, rfl⟩)⟩
      case measure => simp [Lib.intOf]
    · have r0 : wq.cell? ⟨w.heap.size, 1, none⟩ = some (.int .u64 (a1 : Int)) := X2.out.cell rfl
      have r1 := X5.out.cell (k := 1) rfl
      have f1 : wq.frozen? ⟨w.heap.size + 1 + 1, 1, none⟩ = false := X5.out.frozen 1
      obtain ⟨h, hh⟩ : ∃ q, q = a1 * x / 18446744073709551616 := ⟨_, rfl⟩
      obtain ⟨l, hl⟩ : ∃ q, q = a1 * x % 18446744073709551616 := ⟨_, rfl⟩
      obtain ⟨m, hm⟩ : ∃ q, q = (l + c1) / 18446744073709551616 := ⟨_, rfl⟩
      have HO : Hid (o1 = (l + c1) % 18446744073709551616) := Lib.hid (by rw [P1.out, hl]; rfl)
      have HM := Lib.hid hm
      have hsum : h + m = c2 := by rw [V2.out, hm, hl, hh]; rfl
      have v1 : IntKind.u64.wrap ((h : Int) + (m : Int)) = (c2 : Int) := by rw [wrap_u64]; omega
      have HMU := Lib.hid (mul_named a1 x h l h1 HX.out hh hl wq)
      clear hh hl hm hsum
      go_wp2_with fail
      refine HMU.out.mono ?_
      rintro e w' ⟨rfl, rfl⟩
      go_wp2_with (simp only [add_named l c1 o1 m HO.out HM.out])
      go_roundw
      case rel => exact ⟨2, c2, _, Lib.hid (X2.out.far (p := ⟨w.heap.size + 1 + 1, 1, none⟩) (by show w.heap.size ≠ w.heap.size + 1 + 1; omega) _), Lib.hid (X4.out.far (p := ⟨w.heap.size + 1 + 1, 1, none⟩) (by show w.heap.size + 1 ≠ w.heap.size + 1 + 1; omega) _), Lib.hid (X5.out.set (k := 1) _), Lib.hid (B2.out.setCell (p := ⟨w.heap.size + 1 + 1, 1, none⟩) (by show w.heap.size ≤ w.heap.size + 1 + 1; omega) _), rfl, by go_num, .inr (.inr (.inl ⟨rfl, rfl, rfl⟩))⟩
      case measure => simp [Lib.intOf]
    · have r0 : wq.cell? ⟨w.heap.size, 2, none⟩ = some (.int .u64 (a2 : Int)) := X2.out.cell rfl
      have r1 := X5.out.cell (k := 2) rfl
      have f1 : wq.frozen? ⟨w.heap.size + 1 + 1, 2, none⟩ = false := X5.out.frozen 2
      obtain ⟨h, hh⟩ : ∃ q, q = a2 * x / 18446744073709551616 := ⟨_, rfl⟩
      obtain ⟨l, hl⟩ : ∃ q, q = a2 * x % 18446744073709551616 := ⟨_, rfl⟩
      obtain ⟨m, hm⟩ : ∃ q, q = (l + c2) / 18446744073709551616 := ⟨_, rfl⟩
      have HO : Hid (o2 = (l + c2) % 18446744073709551616) := Lib.hid (by rw [P2.out, hl]; rfl)
      have HM := Lib.hid hm
      have hsum : h + m = c3 := by rw [V3.out, hm, hl, hh]; rfl
      have v1 : IntKind.u64.wrap ((h : Int) + (m : Int)) = (c3 : Int) := by rw [wrap_u64]; omega
      have HMU := Lib.hid (mul_named a2 x h l h2 HX.out hh hl wq)
      clear hh hl hm hsum
      go_wp2_with fail
      refine HMU.out.mono ?_
      rintro e w' ⟨rfl, rfl⟩
      go_wp2_with (simp only [add_named l c2 o2 m HO.out HM.out])
      go_roundw
      case rel => exact ⟨3, c3, _, Lib.hid (X2.out.far (p := ⟨w.heap.size + 1 + 1, 2, none⟩) (by show w.heap.size ≠ w.heap.size + 1 + 1; omega) _), Lib.hid (X4.out.far (p := ⟨w.heap.size + 1 + 1, 2, none⟩) (by show w.heap.size + 1 ≠ w.heap.size + 1 + 1; omega) _), Lib.hid (X5.out.set (k := 2) _), Lib.hid (B2.out.setCell (p := ⟨w.heap.size + 1 + 1, 2, none⟩) (by show w.heap.size ≤ w.heap.size + 1 + 1; omega) _), rfl, by go_num, .inr (.inr (.inr ⟨rfl, rfl, rfl⟩))⟩
      case measure => simp [Lib.intOf]
    · obtain ⟨cs, hcs⟩ : ∃ q, q = #[Value.int .u64 (o0 : Int), .int .u64 (o1 : Int), .int .u64 (o2 : Int)] := ⟨_, rfl⟩
      have hsz : cs.size = 3 := by rw [hcs]; rfl
      have HCS := Lib.hid hcs
      have hone : cs.all (·.oneCell') = true := by rw [hcs]; simp [Value.oneCell']
      rw [← hcs] at X5 ⊢
      have HS := Lib.hid hsz
      have HONE := Lib.hid hone
      clear hsz hone hcs
      go_wp2_with (first
        | (refine wpList_load_row rfl 89 (.tmp 5) rfl (w.heap.size + 1 + 1) rfl 89 cs (0, 0) (.array 3 50) X5.out Tryd.underlying89 rfl (info89 _ HS.out) ?_)
        | (refine wpList_store_row rfl 89 (.tmp 4) (.tmp 36) rfl (w.heap.size + 1) cs rfl rfl 89 #[.int .u64 0, .int .u64 0, .int .u64 0] X4.out (info89 _ HS.out) HS.out.symm HONE.out ?_))

      exact bodyPost_ret (results_cell_row rfl _ _ (w.heap.size + 1) 89 cs (0, 0) (.array 3 50) rfl (setRow_heap _ _ _ _ _ _ X4.out) Tryd.underlying89 rfl (info89 _ HS.out)) rfl ⟨by rw [HCS.out], below_row B2.out (by omega) _⟩
end Go.Proofs.YtkenbppoldfecaaDoor
