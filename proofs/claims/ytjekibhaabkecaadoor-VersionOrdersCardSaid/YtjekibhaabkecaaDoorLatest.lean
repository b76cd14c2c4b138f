/- Proved here: Latest of package version: the last one of those that may be. -/
import Derived.Test.YtjekibhaabkecaaDoorSort
namespace Go.Proofs.YtjekibhaabkecaaDoor
open Go.RowKit Go.Shelf

/-- The last one of a row of such as may be; nothing, if there is none. -/
def LastOf (u : Ver) (L : List Ver) : Prop := (L = [] ∧ u = Ver.zero) ∨ (u ∈ L ∧ u.ok = true ∧ ∀ x ∈ L, cmpV x u ≤ 0)
theorem zero_bad : Ver.zero.ok = false := by decide
theorem last_step {u v : Ver} {L : List Ver} (h : LastOf u L) : LastOf (if cmpW u v < 0 then v else u) (L ++ (if v.ok = true then [v] else [])) := by
  cases hv : v.ok with
  | false =>
    have e : ¬ cmpW u v < 0 := by
      unfold cmpW
      rw [hv]
      cases u.ok <;> simp
    rw [if_neg e]
    simpa using h
  | true =>
    rw [if_pos rfl]
    rcases h with ⟨rfl, rfl⟩ | ⟨h1, h2, h3⟩
    · have e : cmpW Ver.zero v < 0 := by
        unfold cmpW
        rw [hv, zero_bad]
        simp
      rw [if_pos e]
      exact .inr ⟨by simp, hv, fun x hx => by simp at hx; subst hx; rw [good_cmpV.zero]; omega⟩
    · have e : cmpW u v = cmpV u v := by
        unfold cmpW
        rw [hv, h2]
        simp
      rw [e]
      by_cases hc : cmpV u v < 0
      · rw [if_pos hc]
        refine .inr ⟨by simp, hv, fun x hx => ?_⟩
        rcases List.mem_append.1 hx with hx | hx
        · exact cmpV_le x u v (h3 x hx) (by omega)
        · simp at hx; subst hx; rw [good_cmpV.zero]; omega
      · rw [if_neg hc]
        refine .inr ⟨List.mem_append_left _ h1, h2, fun x hx => ?_⟩
        rcases List.mem_append.1 hx with hx | hx
        · exact h3 x hx
        · simp at hx; subst hx
          have := cmpV_flip u x
          omega
def setB (w : World) (g : Nat) (v : Ver) : World :=
  ((((((w.setCell ⟨g, 0, none⟩ (.int .i64 v.n0)).setCell ⟨g, 1, none⟩ (.int .i64 v.n1)).setCell ⟨g, 2, none⟩ (.int .i64 v.n2)).setCell ⟨g, 3, none⟩ (.int .i64 v.n3)).setCell ⟨g, 4, none⟩ (.int .i64 v.many)).setCell ⟨g, 5, none⟩ (.string v.tag)).setCell ⟨g, 6, none⟩ (.int .i64 v.step)
theorem setB_arr (u v : Ver) : ((((((u.arr.setIfInBounds 0 (.int .i64 v.n0)).setIfInBounds 1 (.int .i64 v.n1)).setIfInBounds 2 (.int .i64 v.n2)).setIfInBounds 3 (.int .i64 v.n3)).setIfInBounds 4 (.int .i64 v.many)).setIfInBounds 5 (.string v.tag)).setIfInBounds 6 (.int .i64 v.step) = v.arr := by
  unfold Ver.arr
  simp
theorem setB_box {w : World} {g : Nat} {u : Ver} (h : Box w g 26 u.arr) (v : Ver) : Box (setB w g v) g 26 v.arr := by
  rw [← setB_arr u v]
  unfold setB
  exact ((((((h.set (k := 0) (.int .i64 v.n0)).set (k := 1) (.int .i64 v.n1)).set (k := 2) (.int .i64 v.n2)).set (k := 3) (.int .i64 v.n3)).set (k := 4) (.int .i64 v.many)).set (k := 5) (.string v.tag)).set (k := 6) (.int .i64 v.step)
theorem setB_below {B g : Nat} {a w : World} (h : Below B a w) (hg : B ≤ g) (v : Ver) : Below B a (setB w g v) :=
  ((((((h.setCell (p := ⟨g, _, none⟩) hg _).setCell (p := ⟨g, _, none⟩) hg _).setCell (p := ⟨g, _, none⟩) hg _).setCell (p := ⟨g, _, none⟩) hg _).setCell (p := ⟨g, _, none⟩) hg _).setCell (p := ⟨g, _, none⟩) hg _).setCell (p := ⟨g, _, none⟩) hg _
structure Trio (u : Ver) (w W : World) : Prop where
  res : Box W w.heap.size 26 Ver.zero.arr
  none : Box W (w.heap.size + 1) 26 Ver.zero.arr
  last : Box W (w.heap.size + 1 + 1) 26 u.arr
  low : Below w.heap.size w W
theorem Trio.on {u : Ver} {w W W' : World} (h : Trio u w W) (hb : Below W.heap.size W W') : Trio u w W' := ⟨h.res.on hb, h.none.on hb, h.last.on hb, bch h.low hb⟩
def LatestR (l : List Ver) (w : World) (e : Ending) (w' : World) : Prop := ∃ u, LastOf u (okV l) ∧ e = .returned (.tuple #[.agg u.arr, .bool (!decide (u = Ver.zero))]) ∧ Below w.heap.size w w'

set_option maxRecDepth 100000 in
set_option maxHeartbeats 4000000 in
theorem latest_any (l : List Ver) (x : Value) (w : World) (hx : RdV w x l) : Calls Tryd.prog 23 #[x] w (LatestR l w) := by
  obtain ⟨a, c, rfl, hlc, hcm, hcell⟩ := hx
  have HC := Lib.hid hcell
  obtain ⟨n, hn⟩ : ∃ n, n = l.length := ⟨_, rfl⟩
  rw [← hn] at hlc HC ⊢
  have HN := Lib.hid hn
  unfold maxLen at hcm
  obtain ⟨wz, hwz⟩ : ∃ q, q = w.alloc (.cells Ver.zero.arr 26) := ⟨_, rfl⟩
  have sz : wz.heap.size = w.heap.size + 1 := by rw [hwz]; simp
  have R0 : Hid (Box wz w.heap.size 26 Ver.zero.arr) := Lib.hid (by rw [hwz]; exact box_new)
  have BZ : Hid (Below w.heap.size w wz) := Lib.hid (by rw [hwz]; exact below_new _ _)
  obtain ⟨w1, hw1⟩ : ∃ q, q = (wz.alloc (.cells Ver.zero.arr 26)).setRow wz.heap.size Ver.zero.arr := ⟨_, rfl⟩
  have s1 : w1.heap.size = w.heap.size + 1 + 1 := by rw [hw1]; simp [sz]
  have A0 : Hid (Box (wz.alloc (.cells Ver.zero.arr 26)) wz.heap.size 26 Ver.zero.arr) := Lib.hid box_new
  have A1 : Hid (Box w1 (w.heap.size + 1) 26 Ver.zero.arr) := Lib.hid (by rw [← sz, hw1]; exact A0.out.row _)
  have R1 : Hid (Box w1 w.heap.size 26 Ver.zero.arr) := Lib.hid (by rw [hw1]; exact (R0.out.alloc _).far_row (by omega) _)
  have B1 : Hid (Below w.heap.size w w1) := Lib.hid (by rw [hw1]; exact below_row (BZ.out.alloc BZ.out.size _) (by omega) _)
  have L0 : Hid (Box (w1.alloc (.cells Ver.zero.arr 26)) w1.heap.size 26 Ver.zero.arr) := Lib.hid box_new
  obtain ⟨w2, hw2⟩ : ∃ q, q = (w1.alloc (.cells Ver.zero.arr 26)).setRow w1.heap.size Ver.zero.arr := ⟨_, rfl⟩
  have H2 : Hid (Trio Ver.zero w w2) := Lib.hid (by
    rw [hw2]
    refine ⟨(R1.out.alloc _).far_row (by omega) _, (A1.out.alloc _).far_row (by omega) _, ?_, below_row (B1.out.alloc B1.out.size _) (by omega) _⟩
    rw [← s1]
    exact L0.out.row _)
  clear hn hcell
  go_enter Tryd.func23, Tryd.ntmps23
  go_upto_region 1 with (with_reducible refine wpList_zero rfl 26 rfl Ver.zero.arr zero26 ?_)
  rw [← hwz]
  clear hwz BZ R0
  go_upto_region 2 with (first
    | (with_reducible refine wpList_zero rfl 26 rfl Ver.zero.arr zero26 ?_)
    | (refine builds_none26 rfl rfl ?_)
    | (refine wpList_store_row rfl 26 (.tmp 4) (.tmp 8) rfl wz.heap.size Ver.zero.arr rfl rfl 26 _ A0.out (info26 _) rfl (arr_one _) ?_))
  rw [← hw1, sz]
  clear sz
  go_upto_region 3 with (first
    | (with_reducible refine wpList_zero rfl 26 rfl Ver.zero.arr zero26 ?_)
    | (refine wpList_load_row rfl 26 (.tmp 4) rfl (w.heap.size + 1) rfl 26 Ver.zero.arr (0, 0) _ A1.out Tryd.underlying26 rfl (info26 _) ?_)
    | (refine wpList_store_row rfl 26 (.tmp 5) (.tmp 9) rfl w1.heap.size Ver.zero.arr rfl rfl 26 _ L0.out (info26 _) rfl (arr_one _) ?_))
  rw [← hw2]
  clear hw1 hw2 A0 A1 R1 B1 L0
  rw [s1]
  clear s1
  go_wp2_with fail
  go_loopw [7, 12, 13, 14, 15, 16, 17, 18, 19, 20, 21] (fun _ i _ _ _ _ _ _ _ _ _ W => ∃ (k : Nat) (u : Ver), k ≤ n ∧ i = .int .i64 k ∧ Hid (LastOf u (okV (l.take k))) ∧ Hid (Trio u w W)) (fun _ i _ _ _ _ _ _ _ _ _ _ => n - (Lib.intOf i).toNat)
  case atStart => exact ⟨0, Ver.zero, Nat.zero_le _, rfl, Lib.hid (.inl ⟨rfl, rfl⟩), H2⟩
  case round =>
    obtain ⟨k, u, hk, rfl, HL, HT⟩ := hrel
    obtain ⟨wq, hwq⟩ : ∃ q, q = wr := ⟨_, rfl⟩
    rw [← hwq] at HT ⊢
    clear hwq H2
    by_cases hlt : k < n
    · obtain ⟨v, hv⟩ : ∃ v, l[k]? = some v := ⟨_, List.getElem?_eq_getElem (by have := HN.out; omega)⟩
      obtain ⟨g, o, rfl, hg, hc⟩ := HC.out (by omega)
      obtain ⟨q0, q1, q2, q3, q4, q5, q6⟩ := hc k v hv
      have r0 := (HT.out.low.cell (p := ⟨g, _, none⟩) hg).trans q0
      have r1 := (HT.out.low.cell (p := ⟨g, _, none⟩) hg).trans q1
      have r2 := (HT.out.low.cell (p := ⟨g, _, none⟩) hg).trans q2
      have r3 := (HT.out.low.cell (p := ⟨g, _, none⟩) hg).trans q3
      have r4 := (HT.out.low.cell (p := ⟨g, _, none⟩) hg).trans q4
      have r5 := (HT.out.low.cell (p := ⟨g, _, none⟩) hg).trans q5
      have r6 := (HT.out.low.cell (p := ⟨g, _, none⟩) hg).trans q6
      have k1 : (k : Int) < (n : Int) := by omega
      have k2 : (0 : Int) ≤ (k : Int) := by omega
      have k4 : IntKind.i64.wrap ((k : Int) + 1) = (k : Int) + 1 := IntWalk.i64_in _ (by omega)
      have hst := last_step (v := v) HL.out
      rw [← okV_snoc hv] at hst
      have HST := Lib.hid hst
      have hll := HT.out.last.lt
      clear q0 q1 q2 q3 q4 q5 q6 hc hv hst HL
      have X0 : Hid (Box (wq.alloc (.cells Ver.zero.arr 26)) wq.heap.size 26 Ver.zero.arr) := Lib.hid box_new
      obtain ⟨w3, hw3⟩ : ∃ q, q = (wq.alloc (.cells Ver.zero.arr 26)).setRow wq.heap.size v.arr := ⟨_, rfl⟩
      have X3 : Hid (Box w3 wq.heap.size 26 v.arr) := Lib.hid (by rw [hw3]; exact X0.out.row _)
      have b3 : Below wq.heap.size wq w3 := by rw [hw3]; exact below_row ((Below.refl _ _).alloc (Nat.le_refl _) _) (Nat.le_refl _) _
      have T3 := Lib.hid (HT.out.on b3)
      obtain ⟨z, hz⟩ : ∃ z, z = cmpW u v := ⟨_, rfl⟩
      rw [← hz] at HST
      have HZ := Lib.hid (cmps_of hz)
      clear b3 hz
      go_upto_region 6 with (first
        | (with_reducible refine wpList_zero rfl 26 rfl Ver.zero.arr zero26 ?_)
        | (refine wpList_store_row rfl 26 (.tmp 7) (.tmp 15) rfl wq.heap.size v.arr rfl rfl 26 _ X0.out (info26 _) rfl (arr_one _) ?_))
      rw [← hw3]
      clear hw3 X0 r0 r1 r2 r3 r4 r5 r6 HT
      go_wp2_with (first
        | (refine wpList_load_row rfl 26 (.tmp 5) rfl (w.heap.size + 1 + 1) rfl 26 u.arr (0, 0) _ T3.out.last Tryd.underlying26 rfl (info26 _) ?_)
        | (refine wpList_load_row rfl 26 (.tmp 7) rfl wq.heap.size rfl 26 v.arr (0, 0) _ X3.out Tryd.underlying26 rfl (info26 _) ?_))
      refine (HZ.out _).mono ?_
      rintro e w4 ⟨rfl, hb⟩
      have T4 := Lib.hid (T3.out.on hb)
      have X4 := Lib.hid (X3.out.on hb)
      clear T3 X3 HZ hb
      by_cases hz0 : z < 0
      · have d1 : decide (z < 0) = true := decide_eq_true hz0
        rw [if_pos hz0] at HST
        have T5 : Hid (Trio v w (w4.setRow (w.heap.size + 1 + 1) v.arr)) := Lib.hid ⟨T4.out.res.far_row (by omega) _, T4.out.none.far_row (by omega) _, T4.out.last.row _, below_row T4.out.low (by omega) _⟩
        clear hz0
        go_wp2_with (first
          | (refine wpList_load_row rfl 26 (.tmp 7) rfl wq.heap.size rfl 26 v.arr (0, 0) _ X4.out Tryd.underlying26 rfl (info26 _) ?_)
          | (refine wpList_store_row rfl 26 (.tmp 5) (.tmp 20) rfl (w.heap.size + 1 + 1) v.arr rfl rfl 26 _ T4.out.last (info26 _) rfl (arr_one _) ?_))
        go_roundw
        case rel => exact ⟨k + 1, v, hlt, by go_num, HST, T5⟩
        case measure => simp [Lib.intOf]; omega
      · have d1 : decide (z < 0) = false := decide_eq_false hz0
        rw [if_neg hz0] at HST
        clear hz0
        go_wp2_with fail
        go_roundw
        case rel => exact ⟨k + 1, u, hlt, by go_num, HST, T4⟩
        case measure => simp [Lib.intOf]; omega
    · have HF : Hid (LastOf u (okV l)) := Lib.hid (by
        have := HL.out
        rw [List.take_of_length_le (by have := HN.out; omega)] at this
        exact this)
      have k1 : ¬ ((k : Int) < (n : Int)) := by omega
      obtain ⟨p, hp⟩ : ∃ p, p = !decide (u = Ver.zero) := ⟨_, rfl⟩
      have HP := Lib.hid hp
      have hne : ∀ W, (binOp .neq 26 (.agg #[.int .i64 u.n0, .int .i64 u.n1, .int .i64 u.n2, .int .i64 u.n3, .int .i64 u.many, .string u.tag, .int .i64 u.step]) (.agg #[.int .i64 0, .int .i64 0, .int .i64 0, .int .i64 0, .int .i64 0, .string ⟨#[]⟩, .int .i64 0])).run Tryd.prog W = .ok (.bool p) W := fun W => by
        have e : (Op.equalIn 10000 26 (.agg #[.int .i64 u.n0, .int .i64 u.n1, .int .i64 u.n2, .int .i64 u.n3, .int .i64 u.many, .string u.tag, .int .i64 u.step]) (.agg #[.int .i64 0, .int .i64 0, .int .i64 0, .int .i64 0, .int .i64 0, .string ⟨#[]⟩, .int .i64 0])).run Tryd.prog W = .ok (decide (u = Ver.zero)) W := eq26 u Ver.zero W
        rw [run_neq_struct, e, hp]
        rfl
      have hgd := guard26
      have a0 := HT.out.last.ver.c0
      have a1 := HT.out.last.ver.c1
      have a2 := HT.out.last.ver.c2
      have a3 := HT.out.last.ver.c3
      have a4 := HT.out.last.ver.c4
      have a5 := HT.out.last.ver.c5
      have a6 := HT.out.last.ver.c6
      have z0 : wq.cell? ⟨w.heap.size + 1, 0, none⟩ = some (.int .i64 0) := HT.out.none.ver.c0
      have z1 : wq.cell? ⟨w.heap.size + 1, 1, none⟩ = some (.int .i64 0) := HT.out.none.ver.c1
      have z2 : wq.cell? ⟨w.heap.size + 1, 2, none⟩ = some (.int .i64 0) := HT.out.none.ver.c2
      have z3 : wq.cell? ⟨w.heap.size + 1, 3, none⟩ = some (.int .i64 0) := HT.out.none.ver.c3
      have z4 : wq.cell? ⟨w.heap.size + 1, 4, none⟩ = some (.int .i64 0) := HT.out.none.ver.c4
      have z5 : wq.cell? ⟨w.heap.size + 1, 5, none⟩ = some (.string ⟨#[]⟩) := HT.out.none.ver.c5
      have z6 : wq.cell? ⟨w.heap.size + 1, 6, none⟩ = some (.int .i64 0) := HT.out.none.ver.c6
      have y0 : wq.cell? ⟨w.heap.size, 0, none⟩ = some (.int .i64 0) := HT.out.res.ver.c0
      have y1 : wq.cell? ⟨w.heap.size, 1, none⟩ = some (.int .i64 0) := HT.out.res.ver.c1
      have y2 : wq.cell? ⟨w.heap.size, 2, none⟩ = some (.int .i64 0) := HT.out.res.ver.c2
      have y3 : wq.cell? ⟨w.heap.size, 3, none⟩ = some (.int .i64 0) := HT.out.res.ver.c3
      have y4 : wq.cell? ⟨w.heap.size, 4, none⟩ = some (.int .i64 0) := HT.out.res.ver.c4
      have y5 : wq.cell? ⟨w.heap.size, 5, none⟩ = some (.string ⟨#[]⟩) := HT.out.res.ver.c5
      have y6 : wq.cell? ⟨w.heap.size, 6, none⟩ = some (.int .i64 0) := HT.out.res.ver.c6
      have f0 : ∀ r, wq.frozen? ⟨w.heap.size, r, none⟩ = false := fun r => frozen_of_row wq _ r _ _ HT.out.res
      obtain ⟨w5, hw5⟩ : ∃ q, q = setB wq w.heap.size u := ⟨_, rfl⟩
      have X5 : Hid (Box w5 w.heap.size 26 u.arr) := Lib.hid (by rw [hw5]; exact setB_box HT.out.res u)
      have B5 : Hid (Below w.heap.size w w5) := Lib.hid (by rw [hw5]; exact setB_below HT.out.low (Nat.le_refl _) u)
      unfold setB at hw5
      clear hp HL HT
      go_upto_region 9 with fail
      go_region
      rw [← hw5]
      clear hw5 a0 a1 a2 a3 a4 a5 a6 z0 z1 z2 z3 z4 z5 z6 y0 y1 y2 y3 y4 y5 y6 f0
      go_wp2
      have B5' : Below w.heap.size w w5.drew := B5.out.drew
      refine bodyPost_ret (results_ver rfl _ _ w.heap.size rfl u.arr (run_loadVar_row _ w.heap.size 26 26 u.arr (0, 0) _ (Box.drew X5.out) Tryd.underlying26 rfl (info26 _))) rfl ⟨u, HF.out, by rw [← HP.out]; rfl, B5'⟩
end Go.Proofs.YtjekibhaabkecaaDoor
