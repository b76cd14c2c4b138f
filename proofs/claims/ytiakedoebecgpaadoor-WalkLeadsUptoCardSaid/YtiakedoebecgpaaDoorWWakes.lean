/- Proved here: wakes of puncheonlaw07 returns true, wherever the tables stand. -/
import Derived.Test.YtiakedoebecgpaaDoorWEq
namespace Go.Proofs.YtiakedoebecgpaaDoor
open Go.RowKit Go.Shelf

def yF : It := ⟨[47, 97, 47, 102], 2, [55]⟩
def yL : It := ⟨[47, 97, 47, 108], 3, [46, 46, 47, 98]⟩
theorem small_sizes : ∀ x ∈ smallL, x.path.length ≤ 140737488355328 := by decide
theorem small_res (v : Value) (s : ByteArray) (last : Bool) (y : It) (z : Int) (w : World) (hv : RdI w v smallL) (hT : Tabs w) (hy : itW (walkM smallL [47] s.data.toList last) = y) (hz : errW (walkM smallL [47] s.data.toList last) = z) :
    Calls Tryd.prog 23 #[.agg #[v], .string ⟨#[47]⟩, .string s, .bool last] w fun e w' => e = .returned (.tuple #[.agg y.arr, .int .i64 z]) ∧ Below w.heap.size w w' :=
  (resolve_any smallL v ⟨#[47]⟩ s last w hv (by decide) small_sizes hT (by decide)).mono fun e w' h => ⟨by rw [h.1]; show Ending.returned (.tuple #[.agg (itW (walkM smallL [47] s.data.toList last)).arr, _]) = _; rw [hy]; show Ending.returned (.tuple #[_, .int .i64 (errW (walkM smallL [47] s.data.toList last))]) = _; rw [hz], h.2.2⟩
theorem small_look (v dv : Value) (w : World) (hv : RdI w v smallL) (hT : Tabs w) (hd : RdS w dv [[47, 98], [47, 97]]) :
    Calls Tryd.prog 27 #[.agg #[v], dv, .string ⟨#[102]⟩] w fun e w' => e = .returned (.tuple #[.int .i64 1, .agg yF.arr, .int .i64 0]) ∧ Below w.heap.size w w' :=
  (lookup_any smallL v [[47, 98], [47, 97]] dv ⟨#[102]⟩ w hv (by decide) small_sizes hT hd (by decide) (by decide)).mono fun e w' h => ⟨by
    rw [h.1]
    show Ending.returned (.tuple #[.int .i64 (placeL (lookM smallL [[47, 98], [47, 97]] [102])), .agg (itL (lookM smallL [[47, 98], [47, 97]] [102])).arr, .int .i64 (errL (lookM smallL [[47, 98], [47, 97]] [102]))]) = _
    rw [small_four]; rfl, h.2⟩
theorem two_rd (w : World) : RdS (w.alloc (.cells #[.string ⟨#[47, 98]⟩, .string ⟨#[47, 97]⟩] 9)) (.slice (some ⟨w.heap.size, 0, none⟩) 2 2) [[47, 98], [47, 97]] :=
  ⟨_, 2, rfl, Nat.le_refl _, by unfold maxLen; decide, fun _ => ⟨_, 0, rfl, by simp, fun j x hj => by
    have X : Box (w.alloc (.cells #[.string ⟨#[47, 98]⟩, .string ⟨#[47, 97]⟩] 9)) w.heap.size 9 #[.string ⟨#[47, 98]⟩, .string ⟨#[47, 97]⟩] := box_new
    match j, hj with
    | 0, hj => cases hj; exact X.cell (k := 0) rfl
    | 1, hj => cases hj; exact X.cell (k := 1) rfl
    | _ + 2, hj => simp at hj⟩⟩

set_option maxRecDepth 100000 in
set_option maxHeartbeats 8000000 in
theorem wwakes_any (w : World) (hT : Tabs w) : Calls Tryd.prog 19 #[] w fun e w' => e = .returned (.bool true) ∧ Below w.heap.size w w' := by
  have HT := Lib.hid hT
  have HB0 : Hid (Below w.heap.size w w) := Lib.hid (Below.refl _ _)
  clear hT
  go_enter Tryd.func19, Tryd.ntmps19
  go_wp2_with fail
  refine (small_any w).mono ?_
  rintro e u1 ⟨x1, rfl, hr1, hu1⟩
  have HU1 : Hid (Below w.heap.size w u1) := Lib.hid (bch HB0.out hu1)
  have HC1 := Lib.hid (small_res x1 ⟨#[97, 47, 108, 47, 109]⟩ true yF 0 u1 hr1 (HT.out.on HU1.out) (by show itW (walkM smallL [47] [97, 47, 108, 47, 109] true) = _; rw [small_one]; rfl) (by show errW (walkM smallL [47] [97, 47, 108, 47, 109] true) = _; rw [small_one]; rfl))
  clear hr1 hu1 HB0
  go_wp2_with fail
  refine HC1.out.mono ?_
  rintro e a1 ⟨rfl, hb1⟩
  obtain ⟨g1, hg1⟩ : ∃ z, z = a1.heap.size := ⟨_, rfl⟩
  obtain ⟨v1, hv1⟩ : ∃ z, z = (a1.alloc (.cells #[.string ⟨#[]⟩, .int .i64 0, .string ⟨#[]⟩] 35)).setRow a1.heap.size yF.arr := ⟨_, rfl⟩
  have X1 : Hid (Box v1 g1 35 yF.arr) := Lib.hid (by rw [hv1, hg1]; exact Box.row (box_new (w := a1) (t := 35) (cs := It.nil.arr)) _)
  have hn1 : Below u1.heap.size u1 v1 := by rw [hv1]; exact bch hb1 (below_row (below_new _ _) (Nat.le_refl _) _)
  have HB1 : Hid (Below w.heap.size w v1) := Lib.hid (bch HU1.out hn1)
  have HV1 := Lib.hid hv1
  have HG1 := Lib.hid hg1
  clear hv1 hg1 hn1 hb1 HC1 HU1
  go_wp2_with (first
    | (refine wpList_store_row rfl 35 (.tmp 1) (.tmp 13) rfl a1.heap.size yF.arr rfl rfl 35 It.nil.arr box_new (info35 _) rfl (iarr_one _) ?_; rw [← HV1.out, ← HG1.out])
    | fail)
  refine (small_any v1).mono ?_
  rintro e u2 ⟨x2, rfl, hr2, hu2⟩
  have HU2 : Hid (Below w.heap.size w u2) := Lib.hid (bch HB1.out hu2)
  have Y1 := Lib.hid (X1.out.on hu2)
  clear X1
  have HC2 := Lib.hid (small_res x2 ⟨#[97, 47, 108]⟩ false yL 0 u2 hr2 (HT.out.on HU2.out) (by show itW (walkM smallL [47] [97, 47, 108] false) = _; rw [small_two]; rfl) (by show errW (walkM smallL [47] [97, 47, 108] false) = _; rw [small_two]; rfl))
  clear hr2 hu2 HB1
  go_wp2_with fail
  refine HC2.out.mono ?_
  rintro e a2 ⟨rfl, hb2⟩
  obtain ⟨g2, hg2⟩ : ∃ z, z = a2.heap.size := ⟨_, rfl⟩
  obtain ⟨v2, hv2⟩ : ∃ z, z = (a2.alloc (.cells #[.string ⟨#[]⟩, .int .i64 0, .string ⟨#[]⟩] 35)).setRow a2.heap.size yL.arr := ⟨_, rfl⟩
  have X2 : Hid (Box v2 g2 35 yL.arr) := Lib.hid (by rw [hv2, hg2]; exact Box.row (box_new (w := a2) (t := 35) (cs := It.nil.arr)) _)
  have hn2 : Below u2.heap.size u2 v2 := by rw [hv2]; exact bch hb2 (below_row (below_new _ _) (Nat.le_refl _) _)
  have HB2 : Hid (Below w.heap.size w v2) := Lib.hid (bch HU2.out hn2)
  have HV2 := Lib.hid hv2
  have HG2 := Lib.hid hg2
  have X1 := Lib.hid (Y1.out.on hn2)
  clear Y1
  clear hv2 hg2 hn2 hb2 HC2 HU2
  go_wp2_with (first
    | (refine wpList_store_row rfl 35 (.tmp 3) (.tmp 18) rfl a2.heap.size yL.arr rfl rfl 35 It.nil.arr box_new (info35 _) rfl (iarr_one _) ?_; rw [← HV2.out, ← HG2.out])
    | fail)
  refine (small_any v2).mono ?_
  rintro e u3 ⟨x3, rfl, hr3, hu3⟩
  have HU3 : Hid (Below w.heap.size w u3) := Lib.hid (bch HB2.out hu3)
  have Y1 := Lib.hid (X1.out.on hu3)
  clear X1
  have Y2 := Lib.hid (X2.out.on hu3)
  clear X2
  have HC3 := Lib.hid (small_res x3 ⟨#[98, 47, 111]⟩ true .nil 170 u3 hr3 (HT.out.on HU3.out) (by show itW (walkM smallL [47] [98, 47, 111] true) = _; rw [small_three]; rfl) (by show errW (walkM smallL [47] [98, 47, 111] true) = _; rw [small_three]; rfl))
  clear hr3 hu3 HB2
  go_wp2_with fail
  refine HC3.out.mono ?_
  rintro e a3 ⟨rfl, hb3⟩
  obtain ⟨g3, hg3⟩ : ∃ z, z = a3.heap.size := ⟨_, rfl⟩
  obtain ⟨v3, hv3⟩ : ∃ z, z = (a3.alloc (.cells #[.string ⟨#[]⟩, .int .i64 0, .string ⟨#[]⟩] 35)).setRow a3.heap.size It.nil.arr := ⟨_, rfl⟩
  have X3 : Hid (Box v3 g3 35 It.nil.arr) := Lib.hid (by rw [hv3, hg3]; exact Box.row (box_new (w := a3) (t := 35) (cs := It.nil.arr)) _)
  have hn3 : Below u3.heap.size u3 v3 := by rw [hv3]; exact bch hb3 (below_row (below_new _ _) (Nat.le_refl _) _)
  have HB3 : Hid (Below w.heap.size w v3) := Lib.hid (bch HU3.out hn3)
  have HV3 := Lib.hid hv3
  have HG3 := Lib.hid hg3
  have X1 := Lib.hid (Y1.out.on hn3)
  clear Y1
  have X2 := Lib.hid (Y2.out.on hn3)
  clear Y2
  clear hv3 hg3 hn3 hb3 HC3 HU3
  go_wp2_with (first
    | (refine wpList_store_row rfl 35 (.tmp 5) (.tmp 23) rfl a3.heap.size It.nil.arr rfl rfl 35 It.nil.arr box_new (info35 _) rfl (iarr_one _) ?_; rw [← HV3.out, ← HG3.out])
    | fail)
  refine (small_any v3).mono ?_
  rintro e u4 ⟨x4, rfl, hr4, hu4⟩
  have HU4 : Hid (Below w.heap.size w u4) := Lib.hid (bch HB3.out hu4)
  have Y1 := Lib.hid (X1.out.on hu4)
  have Y2 := Lib.hid (X2.out.on hu4)
  obtain ⟨d4, hd4⟩ : ∃ z, z = u4.alloc (.cells #[.string ⟨#[47, 98]⟩, .string ⟨#[47, 97]⟩] 9) := ⟨_, rfl⟩
  have hn4 : Below u4.heap.size u4 d4 := by rw [hd4]; exact below_new _ _
  have HC4 : Hid (Calls Tryd.prog 27 #[.agg #[x4], .slice (some ⟨u4.heap.size, 0, none⟩) 2 2, .string ⟨#[102]⟩] d4 fun e w' => e = .returned (.tuple #[.int .i64 1, .agg yF.arr, .int .i64 0]) ∧ Below d4.heap.size d4 w') := Lib.hid (small_look x4 _ d4 (hr4.on hn4) ((HT.out.on HU4.out).on hn4) (by rw [hd4]; exact two_rd u4))
  have HD4 := Lib.hid hd4
  have HN4 := Lib.hid hn4
  clear hr4 hu4 HB3 X1 X2 X3 hd4 hn4
  go_wp2_with fail
  rw [← HD4.out]
  refine HC4.out.mono ?_
  rintro e a4 ⟨rfl, hb4⟩
  obtain ⟨g4, hg4⟩ : ∃ z, z = a4.heap.size := ⟨_, rfl⟩
  obtain ⟨v4, hv4⟩ : ∃ z, z = (a4.alloc (.cells #[.string ⟨#[]⟩, .int .i64 0, .string ⟨#[]⟩] 35)).setRow a4.heap.size yF.arr := ⟨_, rfl⟩
  have x8 : Box v4 g4 35 yF.arr := by rw [hv4, hg4]; exact Box.row (box_new (w := a4) (t := 35) (cs := It.nil.arr)) _
  have hn4 : Below u4.heap.size u4 v4 := by rw [hv4]; exact bch HN4.out (bch hb4 (below_row (below_new _ _) (Nat.le_refl _) _))
  have HB4 : Hid (Below w.heap.size w v4) := Lib.hid (bch HU4.out hn4)
  have c10 : v4.cell? ⟨g1, 0, none⟩ = some (.string ⟨#[47, 97, 47, 102]⟩) := (Y1.out.on hn4).cell (k := 0) rfl
  have c11 : v4.cell? ⟨g1, 1, none⟩ = some (.int .i64 2) := (Y1.out.on hn4).cell (k := 1) rfl
  have c12 : v4.cell? ⟨g1, 2, none⟩ = some (.string ⟨#[55]⟩) := (Y1.out.on hn4).cell (k := 2) rfl
  have c21 : v4.cell? ⟨g2, 1, none⟩ = some (.int .i64 3) := (Y2.out.on hn4).cell (k := 1) rfl
  have c80 : v4.cell? ⟨g4, 0, none⟩ = some (.string ⟨#[47, 97, 47, 102]⟩) := x8.cell (k := 0) rfl
  have c81 : v4.cell? ⟨g4, 1, none⟩ = some (.int .i64 2) := x8.cell (k := 1) rfl
  have c82 : v4.cell? ⟨g4, 2, none⟩ = some (.string ⟨#[55]⟩) := x8.cell (k := 2) rfl
  have e35 : ∀ W, (Op.equalIn 10000 35 (.agg #[.string ⟨#[47, 97, 47, 102]⟩, .int .i64 2, .string ⟨#[55]⟩]) (.agg #[.string ⟨#[47, 97, 47, 102]⟩, .int .i64 2, .string ⟨#[55]⟩])).run Tryd.prog W = .ok true W := fun W => (eq35 yF yF W).trans (by rw [decide_eq_true rfl])
  have HV4 := Lib.hid hv4
  have HG4 := Lib.hid hg4
  clear hv4 hg4 hn4 hb4 HC4 HU4 HN4 Y1 Y2 x8
  go_wp2_with (first
    | (refine wpList_store_row rfl 35 (.tmp 8) (.tmp 30) rfl a4.heap.size yF.arr rfl rfl 35 It.nil.arr box_new (info35 _) rfl (iarr_one _) ?_; rw [← HV4.out, ← HG4.out])
    | fail)
  go_ret
  exact ⟨rfl, HB4.out⟩
end Go.Proofs.YtiakedoebecgpaaDoor
