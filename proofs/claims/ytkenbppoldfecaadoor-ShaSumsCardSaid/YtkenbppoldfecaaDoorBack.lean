/- Proved here: ShaBack of puncheonlaw03 returns true, whatever digest and text it is called with. -/
import Derived.Test.YtkenbppoldfecaaDoorWakes
namespace Go.Proofs.YtkenbppoldfecaaDoor
open Go.RowKit Go.Shelf Go.Joins

theorem neq27 (x : Bytes) (hx : x.length = 32) (W : World) : (binOp .neq 27 (.agg (bytesA x)) (.agg (bytesA x))).run Tryd.prog W = .ok (.bool false) W := by
  have h : (Op.equalIn (9998 + 2) 27 (.agg (bytesA x)) (.agg (bytesA x))).run Tryd.prog W = .ok (x == x) W := run_equalIn_bytes W 9998 27 5 32 Tryd.underlying27 Tryd.underlying5 Tryd.sizeOf5 x x hx hx
  rw [run_neq_struct, show (10000 : Nat) = 9998 + 2 from rfl, h]
  simp
theorem eql27_self (x : Bytes) (hx : x.length = 32) (W : World) : (binOp .eql 27 (.agg (bytesA x)) (.agg (bytesA x))).run Tryd.prog W = .ok (.bool true) W := by
  rw [eql27 x x hx hx]
  simp
theorem read_text (d : Bytes) (hd : d.length = 32) (W : World) : Calls Tryd.prog 17 #[.string ⟨(textL d).toArray⟩] W fun e w' => e = .returned (.tuple #[.agg (bytesA d), .int .i64 0]) ∧ Below W.heap.size W w' := by
  have h := read_any ⟨(textL d).toArray⟩ W
  have hr := readV_good (s := textL d) (by rw [textL_len]; omega) (text_all d)
  rw [bytes_text d hd] at hr
  unfold ReadR at h
  have e : (⟨(textL d).toArray⟩ : ByteArray).data.toList = textL d := by simp
  rw [e, hr] at h
  exact h
/-- Read of a text that is a digest's, and of one that is none's. -/
theorem read_good (s : ByteArray) (h : s.data.toList.length = 64) (ha : allD s.data.toList = true) (W : World) : Calls Tryd.prog 17 #[.string s] W fun e w' => e = .returned (.tuple #[.agg (bytesA (bytesOf s.data.toList)), .int .i64 0]) ∧ Below W.heap.size W w' := by
  have h2 := read_any s W
  unfold ReadR at h2
  rw [readV_good h ha] at h2
  exact h2
theorem read_none (s : ByteArray) (h : ¬ (s.data.toList.length = 64 ∧ allD s.data.toList = true)) (W : World) : Calls Tryd.prog 17 #[.string s] W fun e w' => e = .returned (.tuple #[.agg (bytesA zero32), .int .i64 130]) ∧ Below W.heap.size W w' := by
  have h2 := read_any s W
  unfold ReadR at h2
  rw [show readV s.data.toList = (zero32, 130) from if_neg h] at h2
  exact h2
theorem text_back (s : ByteArray) (h : s.data.toList.length = 64) (ha : allD s.data.toList = true) (W : World) : Calls Tryd.prog 15 #[.agg (bytesA (bytesOf s.data.toList))] W fun e w' => e = .returned (.string s) ∧ Below W.heap.size W w' := by
  have h2 := text_any (bytesOf s.data.toList) (bytesOf_len _) W
  rw [text_bytes _ h ha] at h2
  exact h2

theorem zeros32s (l : List Value) (x : Bytes) (h : x.length = 32) : (part z8 l 32 0).size = (bytesA x).size := by
  rw [part_zero]
  simp [bytesA, bytesV_len, h]

set_option maxRecDepth 100000 in
set_option maxHeartbeats 3000000 in
theorem back_any (d : Bytes) (hd : d.length = 32) (s : ByteArray) (t : TypeId) (fr : Nat × Nat) (w : World) (hP : Prim t fr w) : Calls Tryd.prog 6 #[.agg (bytesA d), .string s] w fun e w' => e = .returned (.bool true) ∧ Below w.heap.size w w' := by
  have hB0 : Below w.heap.size w (w.alloc (.cells (bytesA d) 27)) := (Below.refl _ _).alloc (Nat.le_refl _) _
  have hX0 : Box (w.alloc (.cells (bytesA d) 27)) w.heap.size 27 (bytesA d) := box_new _ _ _ rfl
  have HP := Lib.hid hP
  have HD := Lib.hid hd
  have HI := Lib.hid (info27b d hd)
  have HZ := Lib.hid (zeros32 d hd)
  have hlen : (⟨(textL d).toArray⟩ : ByteArray).size = 64 := by
    show (textL d).toArray.size = 64
    simp [textL_len, hd]
  have HLEN := Lib.hid hlen
  clear hP hd hlen
  go_enter Tryd.func6, Tryd.ntmps6
  go_wp2_with fail
  refine (wakes_any t fr _ (HP.out.alloc _)).mono ?_
  rintro e w1 ⟨rfl, hb1⟩
  have hB1 := bch hB0 hb1
  have X1 : Hid (Box w1 w.heap.size 27 (bytesA d)) := Lib.hid (hX0.below hb1 hX0.lt)
  clear hB0 hX0 hb1
  go_wp2_with (refine wpList_load_row rfl 27 (.tmp 2) rfl w.heap.size rfl 27 (bytesA d) (0, 0) (.array 32 5) X1.out Tryd.underlying27 rfl HI.out ?_)
  refine (text_any d HD.out w1).mono ?_
  rintro e w2 ⟨rfl, hb2⟩
  have hB2 := bch hB1 hb2
  have X2 : Hid (Box w2 w.heap.size 27 (bytesA d)) := Lib.hid (X1.out.below hb2 X1.out.lt)
  clear hB1 hb2 X1
  go_wp2_with fail
  refine (read_text d HD.out w2).mono ?_
  rintro e w3 ⟨rfl, hb3⟩
  have hB3 := bch hB2 hb3
  have X3 : Box w3 w.heap.size 27 (bytesA d) := X2.out.below hb3 X2.out.lt
  have l3 := X3.lt
  have Y3 : Hid (Box (w3.alloc (.cells (part z8 [] 32 0) 27)) w3.heap.size 27 (part z8 [] 32 0)) := Lib.hid (box_new _ _ _ rfl)
  have Y4 : Hid (Box ((w3.alloc (.cells (part z8 [] 32 0) 27)).setRow w3.heap.size (bytesA d)) w3.heap.size 27 (bytesA d)) := Lib.hid (Y3.out.row _)
  have X4 : Hid (Box ((w3.alloc (.cells (part z8 [] 32 0) 27)).setRow w3.heap.size (bytesA d)) w.heap.size 27 (bytesA d)) := Lib.hid ((X3.alloc _).far_row (by omega) _)
  have hB4 : Below w.heap.size w ((w3.alloc (.cells (part z8 [] 32 0) 27)).setRow w3.heap.size (bytesA d)) := below_row (hB3.alloc hB3.size _) hB3.size _
  have hgd := guard27
  have hne := neq27 d HD.out
  have hln := HLEN.out
  clear X3 hB3 hB2 hb3 X2
  go_wp2_with (first
    | (with_reducible refine wpList_zero rfl 27 rfl (part z8 [] 32 0) (zero27 _) ?_)
    | (refine wpList_store_row rfl 27 (.tmp 6) (.tmp 16) rfl w3.heap.size (bytesA d) rfl rfl 27 (part z8 [] 32 0) Y3.out HI.out HZ.out (bytesA_one _) ?_)
    | (refine guarded_reads rfl 27 (.tmp 6) rfl w3.heap.size rfl 27 (bytesA d) 32 5 Y4.out Tryd.underlying27 HI.out ?_)
    | (refine guarded_reads rfl 27 (.tmp 2) rfl w.heap.size rfl 27 (bytesA d) 32 5 X4.out Tryd.underlying27 HI.out ?_))
  obtain ⟨w4, hw4⟩ : ∃ x, x = (w3.alloc (.cells (part z8 [] 32 0) 27)).setRow w3.heap.size (bytesA d) := ⟨_, rfl⟩
  rw [← hw4] at hB4 ⊢
  clear hw4 Y4 X4 Y3 hne hln
  by_cases hg : s.data.toList.length = 64 ∧ allD s.data.toList = true
  · refine (read_good s hg.1 hg.2 w4).mono ?_
    rintro e w5 ⟨rfl, hb5⟩
    have hB5 := bch hB4 hb5
    have HG := Lib.hid hg
    have HI2 := Lib.hid (info27b _ (bytesOf_len s.data.toList))
    have HZ2 := Lib.hid (zeros32 _ (bytesOf_len s.data.toList))
    have Y5 : Hid (Box (w5.alloc (.cells (part z8 [] 32 0) 27)) w5.heap.size 27 (part z8 [] 32 0)) := Lib.hid (box_new _ _ _ rfl)
    have Y6 : Hid (Box ((w5.alloc (.cells (part z8 [] 32 0) 27)).setRow w5.heap.size (bytesA (bytesOf s.data.toList))) w5.heap.size 27 (bytesA (bytesOf s.data.toList))) := Lib.hid (Y5.out.row _)
    have hB6 : Below w.heap.size w ((w5.alloc (.cells (part z8 [] 32 0) 27)).setRow w5.heap.size (bytesA (bytesOf s.data.toList))) := below_row (hB5.alloc hB5.size _) hB5.size _
    clear hg hB4 hb5 hB5
    go_wp2_with (first
      | (with_reducible refine wpList_zero rfl 27 rfl (part z8 [] 32 0) (zero27 _) ?_)
      | (refine wpList_store_row rfl 27 (.tmp 8) (.tmp 33) rfl w5.heap.size (bytesA (bytesOf s.data.toList)) rfl rfl 27 (part z8 [] 32 0) Y5.out HI2.out HZ2.out (bytesA_one _) ?_)
      | (refine wpList_load_row rfl 27 (.tmp 8) rfl w5.heap.size rfl 27 (bytesA (bytesOf s.data.toList)) (0, 0) (.array 32 5) Y6.out Tryd.underlying27 rfl HI2.out ?_))
    refine (text_back s HG.out.1 HG.out.2 _).mono ?_
    rintro e w6 ⟨rfl, hb6⟩
    go_wp2_with fail
    go_ret
    exact ⟨rfl, bch hB6 hb6⟩
  · refine (read_none s hg w4).mono ?_
    rintro e w5 ⟨rfl, hb5⟩
    have hB5 := bch hB4 hb5
    have HI2 := Lib.hid (info27b zero32 rfl)
    have HZ2 := Lib.hid (zeros32 zero32 rfl)
    have Y5 : Hid (Box (w5.alloc (.cells (part z8 [] 32 0) 27)) w5.heap.size 27 (part z8 [] 32 0)) := Lib.hid (box_new _ _ _ rfl)
    have Y6 : Hid (Box ((w5.alloc (.cells (part z8 [] 32 0) 27)).setRow w5.heap.size (bytesA zero32)) w5.heap.size 27 (bytesA zero32)) := Lib.hid (Y5.out.row _)
    have hB6 : Below w.heap.size w ((w5.alloc (.cells (part z8 [] 32 0) 27)).setRow w5.heap.size (bytesA zero32)) := below_row (hB5.alloc hB5.size _) hB5.size _
    have heq := eql27_self zero32 rfl
    have zb : Tryd.prog.built 27 [] = some (bytesA zero32) := zeros27
    have HZB := Lib.hid zb
    clear hg hB4 hb5 hB5 zb
    go_wp2_with (first
      | (with_reducible refine wpList_zero rfl 27 rfl (part z8 [] 32 0) (zero27 _) ?_)
      | (refine builds_none rfl 27 rfl (bytesA zero32) HZB.out ?_)
      | (refine wpList_store_row rfl 27 (.tmp 8) (.tmp 33) rfl w5.heap.size (bytesA zero32) rfl rfl 27 (part z8 [] 32 0) Y5.out HI2.out HZ2.out (bytesA_one _) ?_)
      | (refine wpList_load_row rfl 27 (.tmp 8) rfl w5.heap.size rfl 27 (bytesA zero32) (0, 0) (.array 32 5) Y6.out Tryd.underlying27 rfl HI2.out ?_))
    go_ret
    exact ⟨rfl, hB6⟩
end Go.Proofs.YtkenbppoldfecaaDoor
