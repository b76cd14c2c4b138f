/- Proved here: wakes of puncheonlaw04 returns true, wherever the table of the powers of ten stands. -/
import Derived.Test.YtjekibhaabkecaaDoorRead
import Derived.Test.YtjekibhaabkecaaDoorOne
namespace Go.Proofs.YtjekibhaabkecaaDoor
open Go.RowKit Go.Shelf

def wA : Ver := ⟨1, 20, 3, 0, 3, ⟨#[114, 99]⟩, 1⟩
def wB : Ver := ⟨1, 20, 3, 0, 3, ⟨#[]⟩, 0⟩
def wN : Ver := ⟨1, 20, 4, 0, 3, ⟨#[]⟩, 0⟩
theorem readA (W : World) : Calls Tryd.prog 10 #[.string ⟨#[49, 46, 50, 48, 46, 51, 45, 114, 99, 49]⟩] W fun e w' => e = .returned (.tuple #[.agg wA.arr, .int .i64 0]) ∧ Below W.heap.size W w' := by
  have := Read_any ⟨#[49, 46, 50, 48, 46, 51, 45, 114, 99, 49]⟩ (by decide) W
  rw [show readO ⟨#[49, 46, 50, 48, 46, 51, 45, 114, 99, 49]⟩ = (wA, 0) by decide +kernel] at this
  exact this
theorem readB (W : World) : Calls Tryd.prog 10 #[.string ⟨#[49, 46, 50, 48, 46, 51]⟩] W fun e w' => e = .returned (.tuple #[.agg wB.arr, .int .i64 0]) ∧ Below W.heap.size W w' := by
  have := Read_any ⟨#[49, 46, 50, 48, 46, 51]⟩ (by decide) W
  rw [show readO ⟨#[49, 46, 50, 48, 46, 51]⟩ = (wB, 0) by decide +kernel] at this
  exact this
theorem textA (W : World) (hT : TabW W) : Calls Tryd.prog 13 #[.agg wA.arr] W fun e w' => e = .returned (.tuple #[.string ⟨#[49, 46, 50, 48, 46, 51, 45, 114, 99, 49]⟩, .int .i64 0]) ∧ Below W.heap.size W w' := by
  have := text_any wA W hT
  rw [show wA.textR = ([49, 46, 50, 48, 46, 51, 45, 114, 99, 49], 0) by decide +kernel] at this
  exact this
theorem nextA (W : World) : Calls Tryd.prog 14 #[.agg wA.arr] W fun e w' => e = .returned (.tuple #[.agg wN.arr, .int .i64 0]) ∧ Below W.heap.size W w' := by
  have := behind_any wA W
  rw [show wA.behind = (wN, 0) by decide +kernel] at this
  exact this
theorem cmpAB : Cmps wA wB (-1) := cmps_of (by decide +kernel)

theorem eq24t (x0 x1 x2 x3 : Int) (w : World) : (Op.equalIn 10000 24 (.agg #[.int .i64 x0, .int .i64 x1, .int .i64 x2, .int .i64 x3]) (.agg #[.int .i64 x0, .int .i64 x1, .int .i64 x2, .int .i64 x3])).run Tryd.prog w = .ok true w := by
  obtain ⟨i0, hi, _⟩ := info_parts info3w
  have c3 : Tryd.prog.cellsOf 3 = 1 := by kernel_rfl
  have u3 := Tryd.underlying3
  have a3 := Tryd.isAgg3
  have z3 := Tryd.sizeOf3
  rw [show (10000 : Nat) = 9999 + 1 from rfl, run_equalIn_array w 9999 _ _ Tryd.underlying24 hi, c3]
  simp only [show List.range 4 = [0, 1, 2, 3] from rfl, Op.eqItems]
  go_simp

set_option maxRecDepth 100000 in
set_option maxHeartbeats 4000000 in
theorem wakes_any (w : World) (hT : TabW w) : Calls Tryd.prog 9 #[] w fun e w' => e = .returned (.bool true) ∧ Below w.heap.size w w' := by
  have HT := Lib.hid hT
  clear hT
  go_enter Tryd.func9, Tryd.ntmps9
  go_wp2_with fail
  refine (readA _).mono ?_
  rintro e w1 ⟨rfl, hb⟩
  have B1 := Lib.hid hb
  have T1 := Lib.hid (HT.out.below hb)
  clear hb HT
  have Y0 : Hid (Box (w1.alloc (.cells Ver.zero.arr 26)) w1.heap.size 26 Ver.zero.arr) := Lib.hid box_new
  obtain ⟨w2, hw2⟩ : ∃ q, q = (w1.alloc (.cells Ver.zero.arr 26)).setRow w1.heap.size wA.arr := ⟨_, rfl⟩
  have A2 : Hid (Box w2 w1.heap.size 26 wA.arr) := Lib.hid (by rw [hw2]; exact Y0.out.row _)
  have B2 : Hid (Below w1.heap.size w1 w2) := Lib.hid (by rw [hw2]; exact below_row ((Below.refl _ _).alloc (Nat.le_refl _) _) (Nat.le_refl _) _)
  have T2 := Lib.hid (T1.out.below B2.out)
  have L2 := Lib.hid (bch B1.out B2.out)
  go_upto_region 2 with (first
    | (with_reducible refine wpList_zero rfl 26 rfl Ver.zero.arr zero26 ?_)
    | (refine wpList_store_row rfl 26 (.tmp 1) (.tmp 11) rfl w1.heap.size wA.arr rfl rfl 26 _ Y0.out (info26 _) rfl (arr_one _) ?_))
  rw [← hw2]
  clear hw2 Y0 B1 T1 B2
  go_wp2_with (refine wpList_load_row rfl 26 (.tmp 1) rfl w1.heap.size rfl 26 wA.arr (0, 0) _ A2.out Tryd.underlying26 rfl (info26 _) ?_)
  refine (textA _ T2.out).mono ?_
  rintro e w3 ⟨rfl, hb⟩
  have A3 := Lib.hid (A2.out.on hb)
  have L3 := Lib.hid (bch L2.out hb)
  clear hb A2 L2 T2
  go_wp2_with fail
  refine (readB _).mono ?_
  rintro e w4 ⟨rfl, hb⟩
  have A4 := Lib.hid (A3.out.on hb)
  have L4 := Lib.hid (bch L3.out hb)
  clear hb A3 L3
  have l4 := A4.out.lt
  have Y0 : Hid (Box (w4.alloc (.cells Ver.zero.arr 26)) w4.heap.size 26 Ver.zero.arr) := Lib.hid box_new
  obtain ⟨w5, hw5⟩ : ∃ q, q = (w4.alloc (.cells Ver.zero.arr 26)).setRow w4.heap.size wB.arr := ⟨_, rfl⟩
  have A5 : Hid (Box w5 w1.heap.size 26 wA.arr) := Lib.hid (by rw [hw5]; exact (A4.out.alloc _).far_row (by omega) _)
  have C5 : Hid (Box w5 w4.heap.size 26 wB.arr) := Lib.hid (by rw [hw5]; exact Y0.out.row _)
  have L5 : Hid (Below w.heap.size w w5) := Lib.hid (by rw [hw5]; exact below_row (L4.out.alloc L4.out.size _) L4.out.size _)
  go_upto_region 4 with (first
    | (with_reducible refine wpList_zero rfl 26 rfl Ver.zero.arr zero26 ?_)
    | (refine wpList_store_row rfl 26 (.tmp 5) (.tmp 20) rfl w4.heap.size wB.arr rfl rfl 26 _ Y0.out (info26 _) rfl (arr_one _) ?_))
  rw [← hw5]
  clear hw5 Y0 A4 L4
  go_wp2_with (refine wpList_load_row rfl 26 (.tmp 1) rfl w1.heap.size rfl 26 wA.arr (0, 0) _ A5.out Tryd.underlying26 rfl (info26 _) ?_)
  refine (nextA _).mono ?_
  rintro e w6 ⟨rfl, hb⟩
  have A6 := Lib.hid (A5.out.on hb)
  have C6 := Lib.hid (C5.out.on hb)
  have L6 := Lib.hid (bch L5.out hb)
  clear hb A5 C5 L5
  have l6 := A6.out.lt
  have m6 := C6.out.lt
  have Y0 : Hid (Box (w6.alloc (.cells Ver.zero.arr 26)) w6.heap.size 26 Ver.zero.arr) := Lib.hid box_new
  obtain ⟨w7, hw7⟩ : ∃ q, q = (w6.alloc (.cells Ver.zero.arr 26)).setRow w6.heap.size wN.arr := ⟨_, rfl⟩
  have A7 : Hid (Box w7 w1.heap.size 26 wA.arr) := Lib.hid (by rw [hw7]; exact (A6.out.alloc _).far_row (by omega) _)
  have C7 : Hid (Box w7 w4.heap.size 26 wB.arr) := Lib.hid (by rw [hw7]; exact (C6.out.alloc _).far_row (by omega) _)
  have D7 : Hid (Box w7 w6.heap.size 26 wN.arr) := Lib.hid (by rw [hw7]; exact Y0.out.row _)
  have L7 : Hid (Below w.heap.size w w7) := Lib.hid (by rw [hw7]; exact below_row (L6.out.alloc L6.out.size _) L6.out.size _)
  go_upto_region 5 with (first
    | (with_reducible refine wpList_zero rfl 26 rfl Ver.zero.arr zero26 ?_)
    | (refine wpList_store_row rfl 26 (.tmp 7) (.tmp 25) rfl w6.heap.size wN.arr rfl rfl 26 _ Y0.out (info26 _) rfl (arr_one _) ?_))
  rw [← hw7]
  clear hw7 Y0 A6 C6 L6
  have c4 : w7.cell? ⟨w1.heap.size, 4, none⟩ = some (.int .i64 3) := A7.out.ver.c4
  have c5 : w7.cell? ⟨w1.heap.size, 5, none⟩ = some (.string ⟨#[114, 99]⟩) := A7.out.ver.c5
  have c6 : w7.cell? ⟨w1.heap.size, 6, none⟩ = some (.int .i64 1) := A7.out.ver.c6
  go_wp2_with (first
    | (refine guarded26 rfl (.tmp 1) rfl w1.heap.size rfl wA A7.out ?_)
    | (refine guarded26 rfl (.tmp 5) rfl w4.heap.size rfl wB C7.out ?_))
  refine (cmpAB _).mono ?_
  rintro e w8 ⟨rfl, hb⟩
  have D8 := Lib.hid (D7.out.on hb)
  have L8 := Lib.hid (bch L7.out hb)
  have d0 : w8.cell? ⟨w6.heap.size, 0, none⟩ = some (.int .i64 1) := D8.out.ver.c0
  have d1 : w8.cell? ⟨w6.heap.size, 1, none⟩ = some (.int .i64 20) := D8.out.ver.c1
  have d2 : w8.cell? ⟨w6.heap.size, 2, none⟩ = some (.int .i64 4) := D8.out.ver.c2
  have d3 : w8.cell? ⟨w6.heap.size, 3, none⟩ = some (.int .i64 0) := D8.out.ver.c3
  have eqf : ∀ W, (Op.equalIn 10000 24 (.agg #[.int .i64 1, .int .i64 20, .int .i64 4, .int .i64 0]) (.agg #[.int .i64 1, .int .i64 20, .int .i64 4, .int .i64 0])).run Tryd.prog W = .ok true W := fun W => (eq24t 1 20 4 0 W)
  have hgd : Tryd.prog.eqGuardType Tryd.prog.depth 24 = false := by kernel_rfl
  clear hb A7 C7 D7 L7 c4 c5 c6
  go_wp2_with fail
  go_ret
  exact ⟨rfl, L8.out⟩
end Go.Proofs.YtjekibhaabkecaaDoor
