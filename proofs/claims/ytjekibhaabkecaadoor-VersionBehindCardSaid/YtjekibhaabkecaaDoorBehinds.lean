/- Proved here: VersionBehind of puncheonlaw04 returns true for every two versions, wherever wakes does. -/
import Derived.Test.YtjekibhaabkecaaDoorOne
import Derived.Test.YtjekibhaabkecaaDoorAhead
namespace Go.Proofs.YtjekibhaabkecaaDoor
open Go.RowKit Go.Shelf

/-- A version's box, all else as it was. -/
def Begs (a b : Ver) (x : Bool) : Prop := ∀ W, Calls Tryd.prog 20 #[.agg a.arr, .agg b.arr] W fun e w' => e = .returned (.bool x) ∧ Below W.heap.size W w'
theorem begs_of {a b : Ver} {x : Bool} (h : x = a.begins b) : Begs a b x := fun W => by
  subst h
  exact begins_any a b W
def Nexts (v n : Ver) (x : Int) : Prop := ∀ W, Calls Tryd.prog 14 #[.agg v.arr] W fun e w' => e = .returned (.tuple #[.agg n.arr, .int .i64 x]) ∧ Below W.heap.size W w'
theorem nexts_of {v n : Ver} {x : Int} (h : v.behind = (n, x)) : Nexts v n x := fun W => by
  have := behind_any v W
  rw [h] at this
  exact this
structure Duo (a b : Ver) (ga gb : Nat) (w w' : World) : Prop where
  a : Box w' ga 26 a.arr
  b : Box w' gb 26 b.arr
  low : Below w.heap.size w w'
theorem Duo.on {a b : Ver} {ga gb : Nat} {w w' w'' : World} (h : Duo a b ga gb w w') (hb : Below w'.heap.size w' w'') : Duo a b ga gb w w'' := ⟨h.a.on hb, h.b.on hb, bch h.low hb⟩
structure Four (v u n b : Ver) (gv gu gn gb : Nat) (w w' : World) : Prop where
  v : Box w' gv 26 v.arr
  u : Box w' gu 26 u.arr
  n : Box w' gn 26 n.arr
  b : Box w' gb 26 b.arr
  low : Below w.heap.size w w'
theorem Four.on {v u n b : Ver} {gv gu gn gb : Nat} {w w' w'' : World} (h : Four v u n b gv gu gn gb w w') (hb : Below w'.heap.size w' w'') : Four v u n b gv gu gn gb w w'' := ⟨h.v.on hb, h.u.on hb, h.n.on hb, h.b.on hb, bch h.low hb⟩

set_option maxRecDepth 100000 in
set_option maxHeartbeats 2000000 in
theorem behind_none (v u : Ver) (x : Int) (hv : v.behind = (Ver.zero, x)) (hx : x ≠ 0) (w : World) (hwk : ∀ W, Below w.heap.size w W → Calls Tryd.prog 9 #[] W fun e w' => e = .returned (.bool true) ∧ Below W.heap.size W w') : Calls Tryd.prog 8 #[.agg v.arr, .agg u.arr] w fun e w' => e = .returned (.bool true) ∧ Below w.heap.size w w' := by
  have X1 : Box ((w.alloc (.cells v.arr 26)).alloc (.cells u.arr 26)) w.heap.size 26 v.arr := box_new.alloc _
  have X2 : Box ((w.alloc (.cells v.arr 26)).alloc (.cells u.arr 26)) (w.heap.size + 1) 26 u.arr := heap_alloc2_new w _ _
  have hB : Below w.heap.size w ((w.alloc (.cells v.arr 26)).alloc (.cells u.arr 26)) := ((Below.refl _ w).alloc (Nat.le_refl _) _).alloc (by simp) _
  have H0 : Hid (Duo v u w.heap.size (w.heap.size + 1) w ((w.alloc (.cells v.arr 26)).alloc (.cells u.arr 26))) := Lib.hid ⟨X1, X2, hB⟩
  have HW := Lib.hid (hwk _ hB)
  have HN := Lib.hid (nexts_of hv)
  have t0 : (x == 0) = false := by simp [hx]
  have t1 : (x != 0) = true := by simp [hx]
  have eqf : ∀ W, (Op.equalIn 10000 26 (.agg Ver.zero.arr) (.agg Ver.zero.arr)).run Tryd.prog W = .ok true W := fun W => (eq26 Ver.zero Ver.zero W).trans (by rw [decide_eq_true rfl])
  have hgd : Tryd.prog.eqGuardType Tryd.prog.depth 26 = false := by kernel_rfl
  clear X1 X2 hB hwk hv hx
  go_enter Tryd.func8, Tryd.ntmps8
  go_wp2_with fail
  refine HW.out.mono ?_
  rintro e w1 ⟨rfl, hb⟩
  have H1 := Lib.hid (H0.out.on hb)
  clear H0 HW hb
  go_wp2_with (refine wpList_load_row rfl 26 (.tmp 2) rfl w.heap.size rfl 26 v.arr (0, 0) _ H1.out.a Tryd.underlying26 rfl (info26 _) ?_)
  refine (HN.out _).mono ?_
  rintro e w2 ⟨rfl, hb⟩
  have H2 := Lib.hid (H1.out.on hb)
  clear H1 HN hb
  have Y0 : Hid (Box (w2.alloc (.cells Ver.zero.arr 26)) w2.heap.size 26 Ver.zero.arr) := Lib.hid box_new
  have Y1 : Hid (Box ((w2.alloc (.cells Ver.zero.arr 26)).setRow w2.heap.size Ver.zero.arr) w2.heap.size 26 Ver.zero.arr) := Lib.hid (Y0.out.row _)
  have B4 : Hid (Below w.heap.size w ((w2.alloc (.cells Ver.zero.arr 26)).setRow w2.heap.size Ver.zero.arr)) := Lib.hid (below_row (H2.out.low.alloc H2.out.low.size _) H2.out.low.size _)
  go_wp2_with (first
    | (with_reducible refine wpList_zero rfl 26 rfl Ver.zero.arr zero26 ?_)
    | (refine builds_none26 rfl rfl ?_)
    | (refine wpList_store_row rfl 26 (.tmp 5) (.tmp 13) rfl w2.heap.size Ver.zero.arr rfl rfl 26 _ Y0.out (info26 _) rfl (arr_one _) ?_)
    | (refine wpList_load_row rfl 26 (.tmp 5) rfl w2.heap.size rfl 26 Ver.zero.arr (0, 0) _ Y1.out Tryd.underlying26 rfl (info26 _) ?_))
  go_ret
  exact ⟨rfl, B4.out⟩

theorem row_bare (v : Ver) : (v.arr.setIfInBounds 5 (.string ⟨#[]⟩)).setIfInBounds 6 (.int .i64 0) = v.bare.arr := rfl

set_option maxRecDepth 100000 in
set_option maxHeartbeats 4000000 in
theorem behind_some (v u : Ver) (hv : v.ok = true) (h9 : v.num (v.many.toNat - 1) ≠ 9999) (hbh : v.behind = (v.next, 0)) (w : World) (hwk : ∀ W, Below w.heap.size w W → Calls Tryd.prog 9 #[] W fun e w' => e = .returned (.bool true) ∧ Below W.heap.size W w') : Calls Tryd.prog 8 #[.agg v.arr, .agg u.arr] w fun e w' => e = .returned (.bool true) ∧ Below w.heap.size w w' := by
  have X1 : Box ((w.alloc (.cells v.arr 26)).alloc (.cells u.arr 26)) w.heap.size 26 v.arr := box_new.alloc _
  have X2 : Box ((w.alloc (.cells v.arr 26)).alloc (.cells u.arr 26)) (w.heap.size + 1) 26 u.arr := heap_alloc2_new w _ _
  have hB : Below w.heap.size w ((w.alloc (.cells v.arr 26)).alloc (.cells u.arr 26)) := ((Below.refl _ w).alloc (Nat.le_refl _) _).alloc (by simp) _
  have H0 : Hid (Duo v u w.heap.size (w.heap.size + 1) w ((w.alloc (.cells v.arr 26)).alloc (.cells u.arr 26))) := Lib.hid ⟨X1, X2, hB⟩
  have HW := Lib.hid (hwk _ hB)
  have HN := Lib.hid (nexts_of hbh)
  obtain ⟨n, hn⟩ : ∃ n, n = v.next := ⟨_, rfl⟩
  obtain ⟨b, hb0⟩ : ∃ b, b = v.bare := ⟨_, rfl⟩
  have HK := Lib.hid (checks_of (next_ok hv h9).symm)
  have HC1 := Lib.hid (cmps_of (next_ahead hv hv h9 (fun _ _ => rfl)).symm)
  have HC2 := Lib.hid (cmps_of (next_ahead hv (bare_ok hv) h9 (fun j _ => num_bare v j)).symm)
  have HG1 := Lib.hid (begs_of (begins_bare hv).symm)
  have HG2 := Lib.hid (begs_of (next_not hv).symm)
  obtain ⟨q, hq⟩ : ∃ q, q = u.begins v.bare := ⟨_, rfl⟩
  have HG3 := Lib.hid (begs_of hq)
  have HC3 : Hid (q = true → Cmps u v.next (-1)) := Lib.hid (fun h => cmps_of (next_ahead hv (begins_has (hq.symm.trans h)).1 h9 (begins_has (hq.symm.trans h)).2).symm)
  have HRB := Lib.hid (row_bare v)
  simp only [← hn, ← hb0, if_true] at HN HK HC1 HC2 HG1 HG2 HG3 HC3 HRB
  clear X1 X2 hB hwk hv h9 hbh hq hn hb0
  go_enter Tryd.func8, Tryd.ntmps8
  go_wp2_with fail
  refine HW.out.mono ?_
  rintro e w1 ⟨rfl, hb⟩
  have H1 := Lib.hid (H0.out.on hb)
  clear H0 HW hb
  go_wp2_with (refine wpList_load_row rfl 26 (.tmp 2) rfl w.heap.size rfl 26 v.arr (0, 0) _ H1.out.a Tryd.underlying26 rfl (info26 _) ?_)
  refine (HN.out _).mono ?_
  rintro e w2 ⟨rfl, hb⟩
  have H2 := Lib.hid (H1.out.on hb)
  clear H1 HN hb
  have l1 : w.heap.size + 1 < w2.heap.size := H2.out.b.lt
  have Y0 : Hid (Box (w2.alloc (.cells Ver.zero.arr 26)) w2.heap.size 26 Ver.zero.arr) := Lib.hid box_new
  obtain ⟨w3, hw3⟩ : ∃ q, q = (w2.alloc (.cells Ver.zero.arr 26)).setRow w2.heap.size n.arr := ⟨_, rfl⟩
  have Y1 : Hid (Box w3 w2.heap.size 26 n.arr) := Lib.hid (by rw [hw3]; exact Y0.out.row _)
  have H3 : Hid (Duo v u w.heap.size (w.heap.size + 1) w w3) := Lib.hid (by
    rw [hw3]
    exact ⟨(H2.out.a.alloc _).far_row (by omega) _, (H2.out.b.alloc _).far_row (by omega) _, below_row (H2.out.low.alloc H2.out.low.size _) H2.out.low.size _⟩)
  have l2 : w2.heap.size < w3.heap.size := Y1.out.lt
  have Z0 : Hid (Box (w3.alloc (.cells Ver.zero.arr 26)) w3.heap.size 26 Ver.zero.arr) := Lib.hid box_new
  obtain ⟨w4, hw4⟩ : ∃ q, q = (w3.alloc (.cells Ver.zero.arr 26)).setRow w3.heap.size v.arr := ⟨_, rfl⟩
  have Z1 : Hid (Box w4 w3.heap.size 26 v.arr) := Lib.hid (by rw [hw4]; exact Z0.out.row _)
  have H4 : Hid (Duo v u w.heap.size (w.heap.size + 1) w w4) := Lib.hid (by
    rw [hw4]
    exact ⟨(H3.out.a.alloc _).far_row (by omega) _, (H3.out.b.alloc _).far_row (by omega) _, below_row (H3.out.low.alloc H3.out.low.size _) H3.out.low.size _⟩)
  have Y2 : Hid (Box w4 w2.heap.size 26 n.arr) := Lib.hid (by
    rw [hw4]
    exact (Y1.out.alloc _).far_row (by omega) _)
  have t0 : ((0 : Int) == 0) = true := rfl
  have t1 : ((0 : Int) != 0) = false := rfl
  go_upto_region 4 with (first
    | (with_reducible refine wpList_zero rfl 26 rfl Ver.zero.arr zero26 ?_)
    | (refine wpList_store_row rfl 26 (.tmp 5) (.tmp 13) rfl w2.heap.size n.arr rfl rfl 26 _ Y0.out (info26 _) rfl (arr_one _) ?_))
  rw [← hw3]
  clear hw3 H2 Y0
  go_upto_region 7 with (first
    | (with_reducible refine wpList_zero rfl 26 rfl Ver.zero.arr zero26 ?_)
    | (refine wpList_store_row rfl 26 (.tmp 7) (.tmp 20) rfl w3.heap.size v.arr rfl rfl 26 _ Z0.out (info26 _) rfl (arr_one _) ?_)
    | (refine wpList_load_row rfl 26 (.tmp 2) rfl w.heap.size rfl 26 v.arr (0, 0) _ H3.out.a Tryd.underlying26 rfl (info26 _) ?_))
  rw [← hw4]
  clear hw4 H3 Y1 Z0
  have Z2 : Hid (Box (w4.setCell ⟨w3.heap.size, 5, none⟩ (.string ⟨#[]⟩)) w3.heap.size 26 ({v with tag := ⟨#[]⟩} : Ver).arr) := Lib.hid (Z1.out.set (k := 5) (.string ⟨#[]⟩))
  have c5 : w4.cell? ⟨w3.heap.size, 5, none⟩ = some (.string v.tag) := Z1.out.ver.c5
  have f5 : w4.frozen? ⟨w3.heap.size, 5, none⟩ = false := frozen_of_row w4 _ 5 _ _ Z1.out
  have c6 : (w4.setCell ⟨w3.heap.size, 5, none⟩ (.string ⟨#[]⟩)).cell? ⟨w3.heap.size, 6, none⟩ = some (.int .i64 v.step) := Z2.out.ver.c6
  have f6 : (w4.setCell ⟨w3.heap.size, 5, none⟩ (.string ⟨#[]⟩)).frozen? ⟨w3.heap.size, 6, none⟩ = false := frozen_of_row _ _ 6 _ _ Z2.out
  have c6' : w4.cell? ⟨w3.heap.size, 6, none⟩ = some (.int .i64 v.step) := Z1.out.ver.c6
  have f6' : w4.frozen? ⟨w3.heap.size, 6, none⟩ = false := frozen_of_row w4 _ 6 _ _ Z1.out
  obtain ⟨w6, hw6⟩ : ∃ q, q = (w4.setCell ⟨w3.heap.size, 5, none⟩ (.string ⟨#[]⟩)).setCell ⟨w3.heap.size, 6, none⟩ (.int .i64 0) := ⟨_, rfl⟩
  have H6 : Hid (Four v u n b w.heap.size (w.heap.size + 1) w2.heap.size w3.heap.size w w6) := Lib.hid (by
    rw [hw6]
    have Z3 := Z2.out.set (k := 6) (.int .i64 0)
    have e := HRB.out
    refine ⟨(H4.out.a.far (by simp; omega) _).far (by simp; omega) _, (H4.out.b.far (by simp; omega) _).far (by simp; omega) _, (Y2.out.far (by simp; omega) _).far (by simp; omega) _, ?_, (H4.out.low.setCell (p := ⟨w3.heap.size, 5, none⟩) (by show w.heap.size ≤ w3.heap.size; omega) _).setCell (p := ⟨w3.heap.size, 6, none⟩) (by show w.heap.size ≤ w3.heap.size; omega) _⟩
    rw [← e]
    exact Z3)
  clear Z1 Z2 H4 Y2 HRB
  go_upto_region 8 with fail
  rw [← hw6]
  clear hw6 c5 f5 c6 f6 c6' f6'
  have m1 : ((-1 : Int) == -1) = true := rfl
  have m2 : ((-1 : Int) != -1) = false := rfl
  go_wp2_with (first
    | (refine guarded26 rfl (.tmp 2) rfl w.heap.size rfl v H6.out.v ?_)
    | (refine wpList_load_row rfl 26 (.tmp 2) rfl w.heap.size rfl 26 v.arr (0, 0) _ H6.out.v Tryd.underlying26 rfl (info26 _) ?_)
    | (refine guarded26 rfl (.tmp 3) rfl (w.heap.size + 1) rfl u H6.out.u ?_)
    | (refine wpList_load_row rfl 26 (.tmp 3) rfl (w.heap.size + 1) rfl 26 u.arr (0, 0) _ H6.out.u Tryd.underlying26 rfl (info26 _) ?_)
    | (refine guarded26 rfl (.tmp 5) rfl w2.heap.size rfl n H6.out.n ?_)
    | (refine wpList_load_row rfl 26 (.tmp 5) rfl w2.heap.size rfl 26 n.arr (0, 0) _ H6.out.n Tryd.underlying26 rfl (info26 _) ?_)
    | (refine guarded26 rfl (.tmp 7) rfl w3.heap.size rfl b H6.out.b ?_)
    | (refine wpList_load_row rfl 26 (.tmp 7) rfl w3.heap.size rfl 26 b.arr (0, 0) _ H6.out.b Tryd.underlying26 rfl (info26 _) ?_))
  refine (HK.out _).mono ?_
  rintro e w7 ⟨rfl, hb⟩
  have H7 := Lib.hid (H6.out.on hb)
  clear hb HK H6
  go_wp2_with (first
    | (refine guarded26 rfl (.tmp 2) rfl w.heap.size rfl v H7.out.v ?_)
    | (refine wpList_load_row rfl 26 (.tmp 2) rfl w.heap.size rfl 26 v.arr (0, 0) _ H7.out.v Tryd.underlying26 rfl (info26 _) ?_)
    | (refine guarded26 rfl (.tmp 3) rfl (w.heap.size + 1) rfl u H7.out.u ?_)
    | (refine wpList_load_row rfl 26 (.tmp 3) rfl (w.heap.size + 1) rfl 26 u.arr (0, 0) _ H7.out.u Tryd.underlying26 rfl (info26 _) ?_)
    | (refine guarded26 rfl (.tmp 5) rfl w2.heap.size rfl n H7.out.n ?_)
    | (refine wpList_load_row rfl 26 (.tmp 5) rfl w2.heap.size rfl 26 n.arr (0, 0) _ H7.out.n Tryd.underlying26 rfl (info26 _) ?_)
    | (refine guarded26 rfl (.tmp 7) rfl w3.heap.size rfl b H7.out.b ?_)
    | (refine wpList_load_row rfl 26 (.tmp 7) rfl w3.heap.size rfl 26 b.arr (0, 0) _ H7.out.b Tryd.underlying26 rfl (info26 _) ?_))
  refine (HC1.out _).mono ?_
  rintro e w8 ⟨rfl, hb⟩
  have H8 := Lib.hid (H7.out.on hb)
  clear hb HC1 H7
  go_wp2_with (first
    | (refine guarded26 rfl (.tmp 2) rfl w.heap.size rfl v H8.out.v ?_)
    | (refine wpList_load_row rfl 26 (.tmp 2) rfl w.heap.size rfl 26 v.arr (0, 0) _ H8.out.v Tryd.underlying26 rfl (info26 _) ?_)
    | (refine guarded26 rfl (.tmp 3) rfl (w.heap.size + 1) rfl u H8.out.u ?_)
    | (refine wpList_load_row rfl 26 (.tmp 3) rfl (w.heap.size + 1) rfl 26 u.arr (0, 0) _ H8.out.u Tryd.underlying26 rfl (info26 _) ?_)
    | (refine guarded26 rfl (.tmp 5) rfl w2.heap.size rfl n H8.out.n ?_)
    | (refine wpList_load_row rfl 26 (.tmp 5) rfl w2.heap.size rfl 26 n.arr (0, 0) _ H8.out.n Tryd.underlying26 rfl (info26 _) ?_)
    | (refine guarded26 rfl (.tmp 7) rfl w3.heap.size rfl b H8.out.b ?_)
    | (refine wpList_load_row rfl 26 (.tmp 7) rfl w3.heap.size rfl 26 b.arr (0, 0) _ H8.out.b Tryd.underlying26 rfl (info26 _) ?_))
  refine (HC2.out _).mono ?_
  rintro e w9 ⟨rfl, hb⟩
  have H9 := Lib.hid (H8.out.on hb)
  clear hb HC2 H8
  go_wp2_with (first
    | (refine guarded26 rfl (.tmp 2) rfl w.heap.size rfl v H9.out.v ?_)
    | (refine wpList_load_row rfl 26 (.tmp 2) rfl w.heap.size rfl 26 v.arr (0, 0) _ H9.out.v Tryd.underlying26 rfl (info26 _) ?_)
    | (refine guarded26 rfl (.tmp 3) rfl (w.heap.size + 1) rfl u H9.out.u ?_)
    | (refine wpList_load_row rfl 26 (.tmp 3) rfl (w.heap.size + 1) rfl 26 u.arr (0, 0) _ H9.out.u Tryd.underlying26 rfl (info26 _) ?_)
    | (refine guarded26 rfl (.tmp 5) rfl w2.heap.size rfl n H9.out.n ?_)
    | (refine wpList_load_row rfl 26 (.tmp 5) rfl w2.heap.size rfl 26 n.arr (0, 0) _ H9.out.n Tryd.underlying26 rfl (info26 _) ?_)
    | (refine guarded26 rfl (.tmp 7) rfl w3.heap.size rfl b H9.out.b ?_)
    | (refine wpList_load_row rfl 26 (.tmp 7) rfl w3.heap.size rfl 26 b.arr (0, 0) _ H9.out.b Tryd.underlying26 rfl (info26 _) ?_))
  refine (HG1.out _).mono ?_
  rintro e w10 ⟨rfl, hb⟩
  have H10 := Lib.hid (H9.out.on hb)
  clear hb HG1 H9
  go_wp2_with (first
    | (refine guarded26 rfl (.tmp 2) rfl w.heap.size rfl v H10.out.v ?_)
    | (refine wpList_load_row rfl 26 (.tmp 2) rfl w.heap.size rfl 26 v.arr (0, 0) _ H10.out.v Tryd.underlying26 rfl (info26 _) ?_)
    | (refine guarded26 rfl (.tmp 3) rfl (w.heap.size + 1) rfl u H10.out.u ?_)
    | (refine wpList_load_row rfl 26 (.tmp 3) rfl (w.heap.size + 1) rfl 26 u.arr (0, 0) _ H10.out.u Tryd.underlying26 rfl (info26 _) ?_)
    | (refine guarded26 rfl (.tmp 5) rfl w2.heap.size rfl n H10.out.n ?_)
    | (refine wpList_load_row rfl 26 (.tmp 5) rfl w2.heap.size rfl 26 n.arr (0, 0) _ H10.out.n Tryd.underlying26 rfl (info26 _) ?_)
    | (refine guarded26 rfl (.tmp 7) rfl w3.heap.size rfl b H10.out.b ?_)
    | (refine wpList_load_row rfl 26 (.tmp 7) rfl w3.heap.size rfl 26 b.arr (0, 0) _ H10.out.b Tryd.underlying26 rfl (info26 _) ?_))
  refine (HG2.out _).mono ?_
  rintro e w11 ⟨rfl, hb⟩
  have H11 := Lib.hid (H10.out.on hb)
  clear hb HG2 H10
  go_wp2_with (first
    | (refine guarded26 rfl (.tmp 2) rfl w.heap.size rfl v H11.out.v ?_)
    | (refine wpList_load_row rfl 26 (.tmp 2) rfl w.heap.size rfl 26 v.arr (0, 0) _ H11.out.v Tryd.underlying26 rfl (info26 _) ?_)
    | (refine guarded26 rfl (.tmp 3) rfl (w.heap.size + 1) rfl u H11.out.u ?_)
    | (refine wpList_load_row rfl 26 (.tmp 3) rfl (w.heap.size + 1) rfl 26 u.arr (0, 0) _ H11.out.u Tryd.underlying26 rfl (info26 _) ?_)
    | (refine guarded26 rfl (.tmp 5) rfl w2.heap.size rfl n H11.out.n ?_)
    | (refine wpList_load_row rfl 26 (.tmp 5) rfl w2.heap.size rfl 26 n.arr (0, 0) _ H11.out.n Tryd.underlying26 rfl (info26 _) ?_)
    | (refine guarded26 rfl (.tmp 7) rfl w3.heap.size rfl b H11.out.b ?_)
    | (refine wpList_load_row rfl 26 (.tmp 7) rfl w3.heap.size rfl 26 b.arr (0, 0) _ H11.out.b Tryd.underlying26 rfl (info26 _) ?_))
  refine (HG3.out _).mono ?_
  rintro e w12 ⟨rfl, hb⟩
  have H12 := Lib.hid (H11.out.on hb)
  clear hb HG3 H11
  cases q with
  | false =>
    go_wp2_with fail
    go_ret
    exact ⟨rfl, H12.out.low⟩
  | true =>
    have HC4 := Lib.hid (HC3.out rfl)
    clear HC3
    go_wp2_with (first
      | (refine guarded26 rfl (.tmp 2) rfl w.heap.size rfl v H12.out.v ?_)
      | (refine wpList_load_row rfl 26 (.tmp 2) rfl w.heap.size rfl 26 v.arr (0, 0) _ H12.out.v Tryd.underlying26 rfl (info26 _) ?_)
      | (refine guarded26 rfl (.tmp 3) rfl (w.heap.size + 1) rfl u H12.out.u ?_)
      | (refine wpList_load_row rfl 26 (.tmp 3) rfl (w.heap.size + 1) rfl 26 u.arr (0, 0) _ H12.out.u Tryd.underlying26 rfl (info26 _) ?_)
      | (refine guarded26 rfl (.tmp 5) rfl w2.heap.size rfl n H12.out.n ?_)
      | (refine wpList_load_row rfl 26 (.tmp 5) rfl w2.heap.size rfl 26 n.arr (0, 0) _ H12.out.n Tryd.underlying26 rfl (info26 _) ?_)
      | (refine guarded26 rfl (.tmp 7) rfl w3.heap.size rfl b H12.out.b ?_)
      | (refine wpList_load_row rfl 26 (.tmp 7) rfl w3.heap.size rfl 26 b.arr (0, 0) _ H12.out.b Tryd.underlying26 rfl (info26 _) ?_))
    refine (HC4.out _).mono ?_
    rintro e w13 ⟨rfl, hb⟩
    have H13 := Lib.hid (H12.out.on hb)
    clear hb HC4 H12
    go_wp2_with fail
    go_ret
    exact ⟨rfl, H13.out.low⟩

theorem behind_law (v u : Ver) (w : World) (hwk : ∀ W, Below w.heap.size w W → Calls Tryd.prog 9 #[] W fun e w' => e = .returned (.bool true) ∧ Below W.heap.size W w') : Calls Tryd.prog 8 #[.agg v.arr, .agg u.arr] w fun e w' => e = .returned (.bool true) ∧ Below w.heap.size w w' := by
  by_cases ho : v.ok = true
  · by_cases h9 : v.num (v.many.toNat - 1) = 9999
    · exact behind_none v u 2 (by unfold Ver.behind; rw [if_pos ho, if_pos h9]) (by decide) w hwk
    · exact behind_some v u ho h9 (by unfold Ver.behind; rw [if_pos ho, if_neg h9]; rfl) w hwk
  · exact behind_none v u 140 (by unfold Ver.behind; rw [if_neg ho]) (by decide) w hwk
end Go.Proofs.YtjekibhaabkecaaDoor
