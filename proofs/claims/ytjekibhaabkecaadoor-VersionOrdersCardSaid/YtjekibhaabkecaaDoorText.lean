/- Proved here: Text of package version; == of two versions. -/
import Derived.Test.YtjekibhaabkecaaDoorSay
import Derived.Laws.StructEq
namespace Go.Proofs.YtjekibhaabkecaaDoor
open Go.RowKit Go.Shelf

/-- What Text hands back. -/
def Ver.textR (v : Ver) : Str × Int := if v.ok = true then (v.text, 0) else ([], 140)
theorem ret_text {l : Str} {e : Int} {r : Str × Int} (h : r = (l, e)) : Ending.returned (.tuple #[.string ⟨l.toArray⟩, .int .i64 e]) = .returned (.tuple #[.string ⟨r.1.toArray⟩, .int .i64 r.2]) := by rw [h]

set_option maxRecDepth 100000 in
set_option maxHeartbeats 1000000 in
theorem text_any (v : Ver) (w : World) (hT : TabW w) : Calls Tryd.prog 13 #[.agg v.arr] w fun e w' => e = .returned (.tuple #[.string ⟨v.textR.1.toArray⟩, .int .i64 v.textR.2]) ∧ Below w.heap.size w w' := by
  have X1 : Box (w.alloc (.cells v.arr 26)) w.heap.size 26 v.arr := box_new
  have hB := below_new w (.cells v.arr 26)
  obtain ⟨o, ho⟩ : ∃ o, o = v.ok := ⟨_, rfl⟩
  have HA := Lib.hid (tells_of ho)
  have HT := Lib.hid (hT.below hB)
  have HX := Lib.hid X1
  have HB := Lib.hid hB
  clear hT hB
  cases o with
  | true =>
    have HR : Hid (v.textR = (v.text, 0)) := Lib.hid (if_pos ho.symm)
    have HO := Lib.hid ho
    clear ho X1
    go_enter Tryd.func13, Tryd.ntmps13
    go_wp2_with (refine wpList_load_row rfl 26 (.tmp 1) rfl w.heap.size rfl 26 v.arr (0, 0) _ HX.out Tryd.underlying26 rfl (info26 _) ?_)
    refine (HA.out _).mono ?_
    rintro e w1 ⟨rfl, hb⟩
    have X2 := Lib.hid (HX.out.on hb)
    have T2 := Lib.hid (HT.out.below hb)
    have B2 := Lib.hid (bch HB.out hb)
    clear hb HX HT
    go_wp2_with (refine wpList_load_row rfl 26 (.tmp 1) rfl w.heap.size rfl 26 v.arr (0, 0) _ X2.out Tryd.underlying26 rfl (info26 _) ?_)
    refine (say_any v HO.out.symm w1 T2.out).mono ?_
    rintro e w2 ⟨rfl, hb⟩
    go_wp2_with fail
    go_ret2
    exact ⟨ret_text HR.out, bch B2.out hb⟩
  | false =>
    have HR : Hid (v.textR = ([], 140)) := Lib.hid (if_neg (by rw [← ho]; decide))
    clear ho X1
    go_enter Tryd.func13, Tryd.ntmps13
    go_wp2_with (refine wpList_load_row rfl 26 (.tmp 1) rfl w.heap.size rfl 26 v.arr (0, 0) _ HX.out Tryd.underlying26 rfl (info26 _) ?_)
    refine (HA.out _).mono ?_
    rintro e w1 ⟨rfl, hb⟩
    go_wp2_with fail
    go_ret2
    exact ⟨ret_text HR.out, bch HB.out hb⟩

theorem info3w : (Tryd.prog.info? 3).map (fun i => (i.zero, i.size, i.bytes)) = some (some (.int .i64 0), 1, 8) := by kernel_rfl
theorem eq24 (x0 x1 x2 x3 y0 y1 y2 y3 : Int) (w : World) : (Op.equalIn 9999 24 (.agg #[.int .i64 x0, .int .i64 x1, .int .i64 x2, .int .i64 x3]) (.agg #[.int .i64 y0, .int .i64 y1, .int .i64 y2, .int .i64 y3])).run Tryd.prog w = .ok (decide (x0 = y0 ∧ x1 = y1 ∧ x2 = y2 ∧ x3 = y3)) w := by
  obtain ⟨i0, hi, _⟩ := info_parts info3w
  have c3 : Tryd.prog.cellsOf 3 = 1 := by kernel_rfl
  have u3 := Tryd.underlying3
  have a3 := Tryd.isAgg3
  have z3 := Tryd.sizeOf3
  rw [show (9999 : Nat) = 9998 + 1 from rfl, run_equalIn_array w 9998 _ _ Tryd.underlying24 hi, c3]
  simp only [show List.range 4 = [0, 1, 2, 3] from rfl, Op.eqItems]
  go_simp
  by_cases h0 : x0 = y0 <;> by_cases h1 : x1 = y1 <;> by_cases h2 : x2 = y2 <;> by_cases h3 : x3 = y3 <;> simp [h0, h1, h2, h3]

theorem part_arr (a : Ver) : a.arr.extract 0 4 = #[.int .i64 a.n0, .int .i64 a.n1, .int .i64 a.n2, .int .i64 a.n3] := rfl
theorem ver_eq (a b : Ver) : a = b ↔ (a.n0 = b.n0 ∧ a.n1 = b.n1 ∧ a.n2 = b.n2 ∧ a.n3 = b.n3) ∧ a.many = b.many ∧ a.tag = b.tag ∧ a.step = b.step := by
  cases a
  cases b
  simp [Ver.mk.injEq, and_assoc]

set_option maxRecDepth 100000 in
theorem eq26 (a b : Ver) (w : World) : (Op.equalIn 10000 26 (.agg a.arr) (.agg b.arr)).run Tryd.prog w = .ok (decide (a = b)) w := by
  have u3 := Tryd.underlying3
  have a3 := Tryd.isAgg3
  have z3 := Tryd.sizeOf3
  have u9 := Tryd.underlying9
  have a9 := Tryd.isAgg9
  have z9 := Tryd.sizeOf9
  have u24 := Tryd.underlying24
  have x4 : a.arr[4]? = some (.int .i64 a.many) := rfl
  have y4 : b.arr[4]? = some (.int .i64 b.many) := rfl
  have x5 : a.arr[5]? = some (.string a.tag) := rfl
  have y5 : b.arr[5]? = some (.string b.tag) := rfl
  have x6 : a.arr[6]? = some (.int .i64 a.step) := rfl
  have y6 : b.arr[6]? = some (.int .i64 b.step) := rfl
  have e24 := eq24 a.n0 a.n1 a.n2 a.n3 b.n0 b.n1 b.n2 b.n3
  have hS : Tryd.prog.underlying 26 = some (.struct (Tryd.prog.fieldsOf 26)) := by kernel_rfl
  have hp : Tryd.prog.stoodInHeld 26 = false := by kernel_rfl
  have hv := ver_eq a b
  rw [show (10000 : Nat) = 9999 + 1 from rfl, run_equalIn_agg w 9999 26 _ _ hS hp]
  simp only [Program.fieldsOf, Tryd.underlying26]
  go_simp
  simp only [part_arr, e24]
  go_simp
  have ht : a.tag.toList = b.tag.toList ↔ a.tag = b.tag := ⟨fun h => by
    rw [Lib.toList_data, Lib.toList_data] at h
    cases hx : a.tag
    cases hy : b.tag
    rw [hx, hy] at h
    simp at h
    rw [h], fun h => by rw [h]⟩
  clear hv u3 a3 z3 u9 a9 z9 u24 x4 y4 x5 y5 x6 y6 e24 hS hp
  simp only [ht]
  by_cases h0 : a.n0 = b.n0 <;> by_cases h1 : a.n1 = b.n1 <;> by_cases h2 : a.n2 = b.n2 <;> by_cases h3 : a.n3 = b.n3 <;> by_cases h4 : a.many = b.many <;> by_cases h5 : a.tag = b.tag <;> by_cases h6 : a.step = b.step <;> simp [h0, h1, h2, h3, h4, h5, h6]
end Go.Proofs.YtjekibhaabkecaaDoor
