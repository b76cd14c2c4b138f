/- Proved here: VersionBack of puncheonlaw04 returns true for every version and text, wherever the table of the powers of ten stands. -/
import Derived.Test.YtjekibhaabkecaaDoorPure
import Derived.Test.YtjekibhaabkecaaDoorWakes
namespace Go.Proofs.YtjekibhaabkecaaDoor
open Go.RowKit Go.Shelf

def VBack (v : Ver) (s : ByteArray) (w : World) : Prop := Calls Tryd.prog 6 #[.agg v.arr, .string s] w fun e w' => e = .returned (.bool true) ∧ Below w.heap.size w w'
theorem text_bad {v : Ver} (hv : v.ok = false) (W : World) (h : TabW W) : Calls Tryd.prog 13 #[.agg v.arr] W fun e w' => e = .returned (.tuple #[.string ⟨#[]⟩, .int .i64 140]) ∧ Below W.heap.size W w' := by
  have := text_any v W h
  rw [show v.textR = ([], 140) from if_neg (by rw [hv]; decide)] at this
  exact this
theorem text_good {v : Ver} (hv : v.ok = true) (W : World) (h : TabW W) : Calls Tryd.prog 13 #[.agg v.arr] W fun e w' => e = .returned (.tuple #[.string (ofB v.text), .int .i64 0]) ∧ Below W.heap.size W w' := by
  have := text_any v W h
  rw [show v.textR = (v.text, 0) from if_pos hv] at this
  exact this
theorem read_good {s : ByteArray} (hs : s.size ≤ 140737488355328) {u : Ver} (hr : readV s = some u) (W : World) : Calls Tryd.prog 10 #[.string s] W fun e w' => e = .returned (.tuple #[.agg u.arr, .int .i64 0]) ∧ Below W.heap.size W w' := by
  have := Read_any s hs W
  rw [show readO s = (u, 0) by unfold readO; rw [hr]] at this
  exact this
theorem read_bad {s : ByteArray} (hs : s.size ≤ 140737488355328) (hr : readV s = none) (W : World) : Calls Tryd.prog 10 #[.string s] W fun e w' => e = .returned (.tuple #[.agg Ver.zero.arr, .int .i64 140]) ∧ Below W.heap.size W w' := by
  have := Read_any s hs W
  rw [show readO s = (Ver.zero, 140) by unfold readO; rw [hr]] at this
  exact this
theorem text_small {v : Ver} (hv : v.ok = true) : (ofB v.text).size ≤ 140737488355328 := by
  obtain ⟨hm1, hm4⟩ := ok_many hv
  have e : (ofB v.text).size = v.text.length := rfl
  have h1 := dots_len v.num v.many.toNat (fun j hj => ok_num hv (by omega))
  rw [e]
  unfold Ver.text
  rw [List.length_append, List.length_append]
  by_cases h0 : v.tag.data.toList = []
  · rw [if_pos h0, if_pos (ok_step0 hv h0)]
    simp
    omega
  · have h2 := ok_tag hv h0
    have h3 := ok_stepb hv h0
    have h5 : v.tag.data.toList.length = v.tag.size := rfl
    have h4 := nD_le v.step.toNat (by omega)
    rw [if_neg h0, List.length_cons]
    split <;> simp <;> omega

set_option maxRecDepth 100000 in
set_option maxHeartbeats 2000000 in
theorem back_AC (v : Ver) (s : ByteArray) (w : World) (hT : TabW w) (hv : v.ok = false) (hr : readV (s.extract 0 (min s.size 60)) = none) : VBack v s w := by
  have X0 : Hid (Box (w.alloc (.cells v.arr 26)) w.heap.size 26 v.arr) := Lib.hid box_new
  have B0 : Hid (Below w.heap.size w (w.alloc (.cells v.arr 26))) := Lib.hid (below_new _ _)
  have HT : Hid (∀ W, Below w.heap.size w W → TabW W) := Lib.hid (fun W h => hT.below h)
  have HW := Lib.hid (wakes_any _ (HT.out _ B0.out))
  obtain ⟨q, hq⟩ : ∃ q, q = min s.size 60 := ⟨_, rfl⟩
  have m1 : (0 : Int) ≤ (q : Int) := by omega
  have m2 : (q : Int) ≤ (s.size : Int) := by omega
  have m3 : min (s.size : Int) 60 = (q : Int) := by omega
  have m5 : q ≤ s.size := by omega
  have hsz : (s.extract 0 q).size ≤ 140737488355328 := by simp; omega
  rw [← hq] at hr
  have HX : Hid (∀ W, TabW W → Calls Tryd.prog 13 #[.agg v.arr] W fun e w' => e = .returned (.tuple #[.string ⟨#[]⟩, .int .i64 140]) ∧ Below W.heap.size W w') := Lib.hid (fun W h => text_bad hv W h)
  obtain ⟨u, hu⟩ : ∃ u, u = Ver.zero := ⟨_, rfl⟩
  have HU := Lib.hid hu
  have HR : Hid (∀ W, Calls Tryd.prog 10 #[.string (s.extract 0 q)] W fun e w' => e = .returned (.tuple #[.agg u.arr, .int .i64 140]) ∧ Below W.heap.size W w') := Lib.hid (fun W => by rw [hu]; exact read_bad hsz hr W)
  clear hu
  clear hT hv hr hq hsz m5
  go_enter Tryd.func6, Tryd.ntmps6
  go_wp2_with fail
  refine HW.out.mono ?_
  rintro e w1 ⟨rfl, hb⟩
  have X1 := Lib.hid (X0.out.on hb)
  have B1 := Lib.hid (bch B0.out hb)
  have T1 := Lib.hid (HT.out _ B1.out)
  clear X0 B0 HW hb
  go_wp2_with (refine wpList_load_row rfl 26 (.tmp 2) rfl w.heap.size rfl 26 v.arr (0, 0) _ X1.out Tryd.underlying26 rfl (info26 _) ?_)
  refine (HX.out _ T1.out).mono ?_
  rintro e w2 ⟨rfl, hb⟩
  have X2 := Lib.hid (X1.out.on hb)
  have B2 := Lib.hid (bch B1.out hb)
  clear X1 B1 T1 HX hb
  have X4 := X2
  have B4 := B2
  obtain ⟨w4, hw4⟩ : ∃ q, q = w2 := ⟨_, rfl⟩
  rw [← hw4] at X4 B4
  clear X2 B2
  have z0 : ((140 : Int) == 0) = false := rfl
  go_upto_region 8 with fail
  rw [← hw4]
  clear hw4 z0
  obtain ⟨w5, hw5⟩ : ∃ q, q = w4 := ⟨_, rfl⟩
  rw [← hw5] at X4 B4 ⊢
  clear hw5
  go_wp2_with fail
  refine (HR.out _).mono ?_
  rintro e w6 ⟨rfl, hb⟩
  have X6 := Lib.hid (X4.out.on hb)
  have B6 := Lib.hid (bch B4.out hb)
  clear X4 B4 HR hb
  obtain ⟨w7, hw7⟩ : ∃ q, q = w6.setRow w.heap.size u.arr := ⟨_, rfl⟩
  have X7 : Hid (Box w7 w.heap.size 26 u.arr) := Lib.hid (by rw [hw7]; exact X6.out.row _)
  have B7 : Hid (Below w.heap.size w w7) := Lib.hid (by rw [hw7]; exact below_row B6.out (Nat.le_refl _) _)
  go_upto_region 10 with (refine wpList_store_row rfl 26 (.tmp 2) (.tmp 40) rfl w.heap.size u.arr rfl rfl 26 _ X6.out (info26 _) rfl (arr_one _) ?_)
  rw [← hw7]
  clear hw7 X6 B6
  have z2 : ((140 : Int) == 0) = false := rfl
  have z3 : ((140 : Int) != 0) = true := rfl
  have eqf : ∀ W, (Op.equalIn 10000 26 (.agg u.arr) (.agg Ver.zero.arr)).run Tryd.prog W = .ok true W := fun W => (eq26 u Ver.zero W).trans (by rw [HU.out, decide_eq_true rfl])
  have hgd : Tryd.prog.eqGuardType Tryd.prog.depth 26 = false := by kernel_rfl
  go_wp2_with (first
    | (refine wpList_load_row rfl 26 (.tmp 2) rfl w.heap.size rfl 26 u.arr (0, 0) _ X7.out Tryd.underlying26 rfl (info26 _) ?_)
    | (refine builds_none26 rfl rfl ?_))
  go_ret
  exact ⟨rfl, B7.out⟩

set_option maxRecDepth 100000 in
set_option maxHeartbeats 2000000 in
theorem back_AD (v : Ver) (s : ByteArray) (w : World) (hT : TabW w) (hv : v.ok = false) (u : Ver) (hr : readV (s.extract 0 (min s.size 60)) = some u) : VBack v s w := by
  have X0 : Hid (Box (w.alloc (.cells v.arr 26)) w.heap.size 26 v.arr) := Lib.hid box_new
  have B0 : Hid (Below w.heap.size w (w.alloc (.cells v.arr 26))) := Lib.hid (below_new _ _)
  have HT : Hid (∀ W, Below w.heap.size w W → TabW W) := Lib.hid (fun W h => hT.below h)
  have HW := Lib.hid (wakes_any _ (HT.out _ B0.out))
  obtain ⟨q, hq⟩ : ∃ q, q = min s.size 60 := ⟨_, rfl⟩
  have m1 : (0 : Int) ≤ (q : Int) := by omega
  have m2 : (q : Int) ≤ (s.size : Int) := by omega
  have m3 : min (s.size : Int) 60 = (q : Int) := by omega
  have m5 : q ≤ s.size := by omega
  have hsz : (s.extract 0 q).size ≤ 140737488355328 := by simp; omega
  rw [← hq] at hr
  have HX : Hid (∀ W, TabW W → Calls Tryd.prog 13 #[.agg v.arr] W fun e w' => e = .returned (.tuple #[.string ⟨#[]⟩, .int .i64 140]) ∧ Below W.heap.size W w') := Lib.hid (fun W h => text_bad hv W h)
  obtain ⟨k1, k2⟩ := text_read hr
  have HR : Hid (∀ W, Calls Tryd.prog 10 #[.string (s.extract 0 q)] W fun e w' => e = .returned (.tuple #[.agg u.arr, .int .i64 0]) ∧ Below W.heap.size W w') := Lib.hid (fun W => read_good hsz hr W)
  have HZ : Hid (∀ W, TabW W → Calls Tryd.prog 13 #[.agg u.arr] W fun e w' => e = .returned (.tuple #[.string (s.extract 0 q), .int .i64 0]) ∧ Below W.heap.size W w') := Lib.hid (fun W h => by
    have := text_good k1 W h
    rw [k2, ← ofB_eq rfl] at this
    exact this)
  have HC : Hid (∀ W, Calls Tryd.prog 15 #[.agg u.arr] W fun e w' => e = .returned (.int .i64 0) ∧ Below W.heap.size W w') := Lib.hid (fun W => by have := check_any u W; rw [k1] at this; exact this)
  clear k1 k2
  clear hT hv hr hq hsz m5
  go_enter Tryd.func6, Tryd.ntmps6
  go_wp2_with fail
  refine HW.out.mono ?_
  rintro e w1 ⟨rfl, hb⟩
  have X1 := Lib.hid (X0.out.on hb)
  have B1 := Lib.hid (bch B0.out hb)
  have T1 := Lib.hid (HT.out _ B1.out)
  clear X0 B0 HW hb
  go_wp2_with (refine wpList_load_row rfl 26 (.tmp 2) rfl w.heap.size rfl 26 v.arr (0, 0) _ X1.out Tryd.underlying26 rfl (info26 _) ?_)
  refine (HX.out _ T1.out).mono ?_
  rintro e w2 ⟨rfl, hb⟩
  have X2 := Lib.hid (X1.out.on hb)
  have B2 := Lib.hid (bch B1.out hb)
  clear X1 B1 T1 HX hb
  have X4 := X2
  have B4 := B2
  obtain ⟨w4, hw4⟩ : ∃ q, q = w2 := ⟨_, rfl⟩
  rw [← hw4] at X4 B4
  clear X2 B2
  have z0 : ((140 : Int) == 0) = false := rfl
  go_upto_region 8 with fail
  rw [← hw4]
  clear hw4 z0
  obtain ⟨w5, hw5⟩ : ∃ q, q = w4 := ⟨_, rfl⟩
  rw [← hw5] at X4 B4 ⊢
  clear hw5
  go_wp2_with fail
  refine (HR.out _).mono ?_
  rintro e w6 ⟨rfl, hb⟩
  have X6 := Lib.hid (X4.out.on hb)
  have B6 := Lib.hid (bch B4.out hb)
  clear X4 B4 HR hb
  obtain ⟨w7, hw7⟩ : ∃ q, q = w6.setRow w.heap.size u.arr := ⟨_, rfl⟩
  have X7 : Hid (Box w7 w.heap.size 26 u.arr) := Lib.hid (by rw [hw7]; exact X6.out.row _)
  have B7 : Hid (Below w.heap.size w w7) := Lib.hid (by rw [hw7]; exact below_row B6.out (Nat.le_refl _) _)
  go_upto_region 10 with (refine wpList_store_row rfl 26 (.tmp 2) (.tmp 40) rfl w.heap.size u.arr rfl rfl 26 _ X6.out (info26 _) rfl (arr_one _) ?_)
  rw [← hw7]
  clear hw7 X6 B6
  have z2 : ((0 : Int) == 0) = true := rfl
  have z3 : ((0 : Int) != 0) = false := rfl
  have T7 := Lib.hid (HT.out _ B7.out)
  go_wp2_with (refine wpList_load_row rfl 26 (.tmp 2) rfl w.heap.size rfl 26 u.arr (0, 0) _ X7.out Tryd.underlying26 rfl (info26 _) ?_)
  refine (HZ.out _ T7.out).mono ?_
  rintro e w8 ⟨rfl, hb⟩
  have X8 := Lib.hid (X7.out.on hb)
  have B8 := Lib.hid (bch B7.out hb)
  clear X7 B7 T7 HZ hb
  go_wp2_with (refine guarded26 rfl (.tmp 2) rfl w.heap.size rfl u X8.out ?_)
  refine (HC.out _).mono ?_
  rintro e w9 ⟨rfl, hb⟩
  have B9 := Lib.hid (bch B8.out hb)
  clear X8 B8 HC hb
  go_wp2_with fail
  go_ret
  exact ⟨rfl, B9.out⟩

set_option maxRecDepth 100000 in
set_option maxHeartbeats 2000000 in
theorem back_BC (v : Ver) (s : ByteArray) (w : World) (hT : TabW w) (hv : v.ok = true) (hr : readV (s.extract 0 (min s.size 60)) = none) : VBack v s w := by
  have X0 : Hid (Box (w.alloc (.cells v.arr 26)) w.heap.size 26 v.arr) := Lib.hid box_new
  have B0 : Hid (Below w.heap.size w (w.alloc (.cells v.arr 26))) := Lib.hid (below_new _ _)
  have HT : Hid (∀ W, Below w.heap.size w W → TabW W) := Lib.hid (fun W h => hT.below h)
  have HW := Lib.hid (wakes_any _ (HT.out _ B0.out))
  obtain ⟨q, hq⟩ : ∃ q, q = min s.size 60 := ⟨_, rfl⟩
  have m1 : (0 : Int) ≤ (q : Int) := by omega
  have m2 : (q : Int) ≤ (s.size : Int) := by omega
  have m3 : min (s.size : Int) 60 = (q : Int) := by omega
  have m5 : q ≤ s.size := by omega
  have hsz : (s.extract 0 q).size ≤ 140737488355328 := by simp; omega
  rw [← hq] at hr
  have HX : Hid (∀ W, TabW W → Calls Tryd.prog 13 #[.agg v.arr] W fun e w' => e = .returned (.tuple #[.string (ofB v.text), .int .i64 0]) ∧ Below W.heap.size W w') := Lib.hid (fun W h => text_good hv W h)
  have HD : Hid (∀ W, Calls Tryd.prog 10 #[.string (ofB v.text)] W fun e w' => e = .returned (.tuple #[.agg v.arr, .int .i64 0]) ∧ Below W.heap.size W w') := Lib.hid (fun W => read_good (text_small hv) (read_text hv) W)
  obtain ⟨u, hu⟩ : ∃ u, u = Ver.zero := ⟨_, rfl⟩
  have HU := Lib.hid hu
  have HR : Hid (∀ W, Calls Tryd.prog 10 #[.string (s.extract 0 q)] W fun e w' => e = .returned (.tuple #[.agg u.arr, .int .i64 140]) ∧ Below W.heap.size W w') := Lib.hid (fun W => by rw [hu]; exact read_bad hsz hr W)
  clear hu
  clear hT hv hr hq hsz m5
  go_enter Tryd.func6, Tryd.ntmps6
  go_wp2_with fail
  refine HW.out.mono ?_
  rintro e w1 ⟨rfl, hb⟩
  have X1 := Lib.hid (X0.out.on hb)
  have B1 := Lib.hid (bch B0.out hb)
  have T1 := Lib.hid (HT.out _ B1.out)
  clear X0 B0 HW hb
  go_wp2_with (refine wpList_load_row rfl 26 (.tmp 2) rfl w.heap.size rfl 26 v.arr (0, 0) _ X1.out Tryd.underlying26 rfl (info26 _) ?_)
  refine (HX.out _ T1.out).mono ?_
  rintro e w2 ⟨rfl, hb⟩
  have X2 := Lib.hid (X1.out.on hb)
  have B2 := Lib.hid (bch B1.out hb)
  clear X1 B1 T1 HX hb
  have z0 : ((0 : Int) == 0) = true := rfl
  have z1 : ((0 : Int) != 0) = false := rfl
  go_wp2_with fail
  refine (HD.out _).mono ?_
  rintro e w3 ⟨rfl, hb⟩
  have X3 := Lib.hid (X2.out.on hb)
  have B3 := Lib.hid (bch B2.out hb)
  clear X2 B2 HD hb
  have l3 := X3.out.lt
  have Y0 : Hid (Box (w3.alloc (.cells Ver.zero.arr 26)) w3.heap.size 26 Ver.zero.arr) := Lib.hid box_new
  obtain ⟨w4, hw4⟩ : ∃ q, q = (w3.alloc (.cells Ver.zero.arr 26)).setRow w3.heap.size v.arr := ⟨_, rfl⟩
  have Y4 : Hid (Box w4 w3.heap.size 26 v.arr) := Lib.hid (by rw [hw4]; exact Y0.out.row _)
  have X4 : Hid (Box w4 w.heap.size 26 v.arr) := Lib.hid (by rw [hw4]; exact (X3.out.alloc _).far_row (by omega) _)
  have B4 : Hid (Below w.heap.size w w4) := Lib.hid (by rw [hw4]; exact below_row (B3.out.alloc B3.out.size _) B3.out.size _)
  have eqf : ∀ W, (Op.equalIn 10000 26 (.agg v.arr) (.agg v.arr)).run Tryd.prog W = .ok true W := fun W => (eq26 v v W).trans (by rw [decide_eq_true rfl])
  have hgd : Tryd.prog.eqGuardType Tryd.prog.depth 26 = false := by kernel_rfl
  go_upto_region 6 with (first
    | (with_reducible refine wpList_zero rfl 26 rfl Ver.zero.arr zero26 ?_)
    | (refine wpList_store_row rfl 26 (.tmp 7) (.tmp 23) rfl w3.heap.size v.arr rfl rfl 26 _ Y0.out (info26 _) rfl (arr_one _) ?_))
  rw [← hw4]
  clear hw4 X3 B3 Y0
  go_upto_region 8 with (first
    | (refine guarded26 rfl (.tmp 7) rfl w3.heap.size rfl v Y4.out ?_)
    | (refine guarded26 rfl (.tmp 2) rfl w.heap.size rfl v X4.out ?_))
  clear Y4 eqf hgd z0 z1
  obtain ⟨w5, hw5⟩ : ∃ q, q = w4 := ⟨_, rfl⟩
  rw [← hw5] at X4 B4 ⊢
  clear hw5
  go_wp2_with fail
  refine (HR.out _).mono ?_
  rintro e w6 ⟨rfl, hb⟩
  have X6 := Lib.hid (X4.out.on hb)
  have B6 := Lib.hid (bch B4.out hb)
  clear X4 B4 HR hb
  obtain ⟨w7, hw7⟩ : ∃ q, q = w6.setRow w.heap.size u.arr := ⟨_, rfl⟩
  have X7 : Hid (Box w7 w.heap.size 26 u.arr) := Lib.hid (by rw [hw7]; exact X6.out.row _)
  have B7 : Hid (Below w.heap.size w w7) := Lib.hid (by rw [hw7]; exact below_row B6.out (Nat.le_refl _) _)
  go_upto_region 10 with (refine wpList_store_row rfl 26 (.tmp 2) (.tmp 40) rfl w.heap.size u.arr rfl rfl 26 _ X6.out (info26 _) rfl (arr_one _) ?_)
  rw [← hw7]
  clear hw7 X6 B6
  have z2 : ((140 : Int) == 0) = false := rfl
  have z3 : ((140 : Int) != 0) = true := rfl
  have eqf : ∀ W, (Op.equalIn 10000 26 (.agg u.arr) (.agg Ver.zero.arr)).run Tryd.prog W = .ok true W := fun W => (eq26 u Ver.zero W).trans (by rw [HU.out, decide_eq_true rfl])
  have hgd : Tryd.prog.eqGuardType Tryd.prog.depth 26 = false := by kernel_rfl
  go_wp2_with (first
    | (refine wpList_load_row rfl 26 (.tmp 2) rfl w.heap.size rfl 26 u.arr (0, 0) _ X7.out Tryd.underlying26 rfl (info26 _) ?_)
    | (refine builds_none26 rfl rfl ?_))
  go_ret
  exact ⟨rfl, B7.out⟩

set_option maxRecDepth 100000 in
set_option maxHeartbeats 2000000 in
theorem back_BD (v : Ver) (s : ByteArray) (w : World) (hT : TabW w) (hv : v.ok = true) (u : Ver) (hr : readV (s.extract 0 (min s.size 60)) = some u) : VBack v s w := by
  have X0 : Hid (Box (w.alloc (.cells v.arr 26)) w.heap.size 26 v.arr) := Lib.hid box_new
  have B0 : Hid (Below w.heap.size w (w.alloc (.cells v.arr 26))) := Lib.hid (below_new _ _)
  have HT : Hid (∀ W, Below w.heap.size w W → TabW W) := Lib.hid (fun W h => hT.below h)
  have HW := Lib.hid (wakes_any _ (HT.out _ B0.out))
  obtain ⟨q, hq⟩ : ∃ q, q = min s.size 60 := ⟨_, rfl⟩
  have m1 : (0 : Int) ≤ (q : Int) := by omega
  have m2 : (q : Int) ≤ (s.size : Int) := by omega
  have m3 : min (s.size : Int) 60 = (q : Int) := by omega
  have m5 : q ≤ s.size := by omega
  have hsz : (s.extract 0 q).size ≤ 140737488355328 := by simp; omega
  rw [← hq] at hr
  have HX : Hid (∀ W, TabW W → Calls Tryd.prog 13 #[.agg v.arr] W fun e w' => e = .returned (.tuple #[.string (ofB v.text), .int .i64 0]) ∧ Below W.heap.size W w') := Lib.hid (fun W h => text_good hv W h)
  have HD : Hid (∀ W, Calls Tryd.prog 10 #[.string (ofB v.text)] W fun e w' => e = .returned (.tuple #[.agg v.arr, .int .i64 0]) ∧ Below W.heap.size W w') := Lib.hid (fun W => read_good (text_small hv) (read_text hv) W)
  obtain ⟨k1, k2⟩ := text_read hr
  have HR : Hid (∀ W, Calls Tryd.prog 10 #[.string (s.extract 0 q)] W fun e w' => e = .returned (.tuple #[.agg u.arr, .int .i64 0]) ∧ Below W.heap.size W w') := Lib.hid (fun W => read_good hsz hr W)
  have HZ : Hid (∀ W, TabW W → Calls Tryd.prog 13 #[.agg u.arr] W fun e w' => e = .returned (.tuple #[.string (s.extract 0 q), .int .i64 0]) ∧ Below W.heap.size W w') := Lib.hid (fun W h => by
    have := text_good k1 W h
    rw [k2, ← ofB_eq rfl] at this
    exact this)
  have HC : Hid (∀ W, Calls Tryd.prog 15 #[.agg u.arr] W fun e w' => e = .returned (.int .i64 0) ∧ Below W.heap.size W w') := Lib.hid (fun W => by have := check_any u W; rw [k1] at this; exact this)
  clear k1 k2
  clear hT hv hr hq hsz m5
  go_enter Tryd.func6, Tryd.ntmps6
  go_wp2_with fail
  refine HW.out.mono ?_
  rintro e w1 ⟨rfl, hb⟩
  have X1 := Lib.hid (X0.out.on hb)
  have B1 := Lib.hid (bch B0.out hb)
  have T1 := Lib.hid (HT.out _ B1.out)
  clear X0 B0 HW hb
  go_wp2_with (refine wpList_load_row rfl 26 (.tmp 2) rfl w.heap.size rfl 26 v.arr (0, 0) _ X1.out Tryd.underlying26 rfl (info26 _) ?_)
  refine (HX.out _ T1.out).mono ?_
  rintro e w2 ⟨rfl, hb⟩
  have X2 := Lib.hid (X1.out.on hb)
  have B2 := Lib.hid (bch B1.out hb)
  clear X1 B1 T1 HX hb
  have z0 : ((0 : Int) == 0) = true := rfl
  have z1 : ((0 : Int) != 0) = false := rfl
  go_wp2_with fail
  refine (HD.out _).mono ?_
  rintro e w3 ⟨rfl, hb⟩
  have X3 := Lib.hid (X2.out.on hb)
  have B3 := Lib.hid (bch B2.out hb)
  clear X2 B2 HD hb
  have l3 := X3.out.lt
  have Y0 : Hid (Box (w3.alloc (.cells Ver.zero.arr 26)) w3.heap.size 26 Ver.zero.arr) := Lib.hid box_new
  obtain ⟨w4, hw4⟩ : ∃ q, q = (w3.alloc (.cells Ver.zero.arr 26)).setRow w3.heap.size v.arr := ⟨_, rfl⟩
  have Y4 : Hid (Box w4 w3.heap.size 26 v.arr) := Lib.hid (by rw [hw4]; exact Y0.out.row _)
  have X4 : Hid (Box w4 w.heap.size 26 v.arr) := Lib.hid (by rw [hw4]; exact (X3.out.alloc _).far_row (by omega) _)
  have B4 : Hid (Below w.heap.size w w4) := Lib.hid (by rw [hw4]; exact below_row (B3.out.alloc B3.out.size _) B3.out.size _)
  have eqf : ∀ W, (Op.equalIn 10000 26 (.agg v.arr) (.agg v.arr)).run Tryd.prog W = .ok true W := fun W => (eq26 v v W).trans (by rw [decide_eq_true rfl])
  have hgd : Tryd.prog.eqGuardType Tryd.prog.depth 26 = false := by kernel_rfl
  go_upto_region 6 with (first
    | (with_reducible refine wpList_zero rfl 26 rfl Ver.zero.arr zero26 ?_)
    | (refine wpList_store_row rfl 26 (.tmp 7) (.tmp 23) rfl w3.heap.size v.arr rfl rfl 26 _ Y0.out (info26 _) rfl (arr_one _) ?_))
  rw [← hw4]
  clear hw4 X3 B3 Y0
  go_upto_region 8 with (first
    | (refine guarded26 rfl (.tmp 7) rfl w3.heap.size rfl v Y4.out ?_)
    | (refine guarded26 rfl (.tmp 2) rfl w.heap.size rfl v X4.out ?_))
  clear Y4 eqf hgd z0 z1
  obtain ⟨w5, hw5⟩ : ∃ q, q = w4 := ⟨_, rfl⟩
  rw [← hw5] at X4 B4 ⊢
  clear hw5
  go_wp2_with fail
  refine (HR.out _).mono ?_
  rintro e w6 ⟨rfl, hb⟩
  have X6 := Lib.hid (X4.out.on hb)
  have B6 := Lib.hid (bch B4.out hb)
  clear X4 B4 HR hb
  obtain ⟨w7, hw7⟩ : ∃ q, q = w6.setRow w.heap.size u.arr := ⟨_, rfl⟩
  have X7 : Hid (Box w7 w.heap.size 26 u.arr) := Lib.hid (by rw [hw7]; exact X6.out.row _)
  have B7 : Hid (Below w.heap.size w w7) := Lib.hid (by rw [hw7]; exact below_row B6.out (Nat.le_refl _) _)
  go_upto_region 10 with (refine wpList_store_row rfl 26 (.tmp 2) (.tmp 40) rfl w.heap.size u.arr rfl rfl 26 _ X6.out (info26 _) rfl (arr_one _) ?_)
  rw [← hw7]
  clear hw7 X6 B6
  have z2 : ((0 : Int) == 0) = true := rfl
  have z3 : ((0 : Int) != 0) = false := rfl
  have T7 := Lib.hid (HT.out _ B7.out)
  go_wp2_with (refine wpList_load_row rfl 26 (.tmp 2) rfl w.heap.size rfl 26 u.arr (0, 0) _ X7.out Tryd.underlying26 rfl (info26 _) ?_)
  refine (HZ.out _ T7.out).mono ?_
  rintro e w8 ⟨rfl, hb⟩
  have X8 := Lib.hid (X7.out.on hb)
  have B8 := Lib.hid (bch B7.out hb)
  clear X7 B7 T7 HZ hb
  go_wp2_with (refine guarded26 rfl (.tmp 2) rfl w.heap.size rfl u X8.out ?_)
  refine (HC.out _).mono ?_
  rintro e w9 ⟨rfl, hb⟩
  have B9 := Lib.hid (bch B8.out hb)
  clear X8 B8 HC hb
  go_wp2_with fail
  go_ret
  exact ⟨rfl, B9.out⟩

theorem back_law (v : Ver) (s : ByteArray) (_ : s.size ≤ 140737488355328) (w : World) (hT : TabW w) : Calls Tryd.prog 6 #[.agg v.arr, .string s] w fun e w' => e = .returned (.bool true) ∧ Below w.heap.size w w' := by
  cases hv : v.ok with
  | false =>
    cases hr : readV (s.extract 0 (min s.size 60)) with
    | none => exact back_AC v s w hT hv hr
    | some u => exact back_AD v s w hT hv u hr
  | true =>
    cases hr : readV (s.extract 0 (min s.size 60)) with
    | none => exact back_BC v s w hT hv hr
    | some u => exact back_BD v s w hT hv u hr
end Go.Proofs.YtjekibhaabkecaaDoor
