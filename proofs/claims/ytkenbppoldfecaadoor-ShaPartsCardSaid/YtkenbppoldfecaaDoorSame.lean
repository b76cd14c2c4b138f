/- Proved here: slices.Equal at two rows that read as the same bytes, and same of puncheonlaw03 at two sums that go on and are one. -/
import Derived.Test.YtkenbppoldfecaaDoorEnd
namespace Go.Proofs.YtkenbppoldfecaaDoor
open Go.RowKit Go.Shelf Go.Joins

set_option maxRecDepth 100000 in
set_option maxHeartbeats 2000000 in
theorem equal_any (l : Bytes) (v1 v2 : Value) (w : World) (h1 : Rd w v1 (bytesV l)) (h2 : Rd w v2 (bytesV l)) : Calls Tryd.prog 14 #[v1, v2] w fun e w' => e = .returned (.bool true) ∧ Below w.heap.size w w' := by
  obtain ⟨a1, cap1, rfl, hlc1, hcm1, _, hc1⟩ := h1
  obtain ⟨a2, cap2, rfl, hlc2, hcm2, _, hc2⟩ := h2
  unfold maxLen at hcm1 hcm2
  rw [bytesV_len] at hlc1 hlc2 hc1 hc2 ⊢
  obtain ⟨n, hn⟩ : ∃ n, n = l.length := ⟨_, rfl⟩
  rw [← hn] at hlc1 hlc2 hc1 hc2
  rw [← hn]
  have HN := Lib.hid hn
  have H1 := Lib.hid hc1
  have H2 := Lib.hid hc2
  clear hn hc1 hc2
  have t0 : ((n : Int) == (n : Int)) = true := by simp
  go_enter Tryd.func14, Tryd.ntmps14
  go_wp2
  go_loopw [5, 13, 14, 15, 16, 17, 18, 19, 20, 21, 22, 23, 24, 25] (fun _ i _ _ _ _ _ _ _ _ _ _ _ _ wr => ∃ k : Nat, k ≤ n ∧ i = .int .i64 k ∧ Below w.heap.size w wr) (fun _ i _ _ _ _ _ _ _ _ _ _ _ _ _ => n - (Lib.intOf i).toNat)
  case atStart => exact ⟨0, Nat.zero_le _, rfl, Below.refl _ _⟩
  case round =>
    obtain ⟨k, hk, rfl, hB⟩ := hrel
    by_cases hlt : k < n
    · obtain ⟨g1, o1, rfl, hg1, hc1⟩ := H1.out (by omega)
      obtain ⟨g2, o2, rfl, hg2, hc2⟩ := H2.out (by omega)
      have r1 := (hB.cell (p := ⟨g1, _, none⟩) hg1).trans (hc1 k _ (rd_get (by have := HN.out; omega)))
      have r2 := (hB.cell (p := ⟨g2, _, none⟩) hg2).trans (hc2 k _ (rd_get (by have := HN.out; omega)))
      obtain ⟨c, hc⟩ : ∃ c, c = l.getD k 0 := ⟨_, rfl⟩
      rw [← hc] at r1 r2
      clear hc hc1 hc2
      go_wp2
      go_region
      go_wp2
      go_roundw
      case rel => exact ⟨k + 1, hlt, by go_num, hB.drew⟩
      case measure => simp [Lib.intOf]; omega
    · go_wp2
      go_ret
      exact ⟨rfl, hB⟩

set_option maxRecDepth 100000 in
set_option maxHeartbeats 2000000 in
theorem same_any (s : St) (r : Bytes) (a1 a2 : Option Addr) (k c1 c2 n : Nat) (w : World) (h1 : Rd w (.slice a1 k c1) (bytesV r)) (h2 : Rd w (.slice a2 k c2) (bytesV r)) : Calls Tryd.prog 22 #[.agg (runA s (.slice a1 k c1) n), .agg (runA s (.slice a2 k c2) n)] w fun e w' => e = .returned (.bool true) ∧ Below w.heap.size w w' := by
  have hB0 : Below w.heap.size w ((w.alloc (.cells (runA s (.slice a1 k c1) n) 52)).alloc (.cells (runA s (.slice a2 k c2) n) 52)) := ((Below.refl _ _).alloc (Nat.le_refl _) _).alloc (by simp) _
  have X1 : Box ((w.alloc (.cells (runA s (.slice a1 k c1) n) 52)).alloc (.cells (runA s (.slice a2 k c2) n) 52)) w.heap.size 52 (runA s (.slice a1 k c1) n) := (box_new _ _ _ rfl).alloc _
  have X2 : Box ((w.alloc (.cells (runA s (.slice a1 k c1) n) 52)).alloc (.cells (runA s (.slice a2 k c2) n) 52)) (w.heap.size + 1) 52 (runA s (.slice a2 k c2) n) := heap_alloc2_new w _ _
  obtain ⟨p8, p9⟩ := runA_w X1
  obtain ⟨q8, q9⟩ := runA_w X2
  have R1 := Lib.hid (range_w X1)
  have R2 := Lib.hid (range_w X2)
  have HE := Lib.hid (equal_any r _ _ _ (h1.on hB0) (h2.on hB0))
  have hi : Hid ((Tryd.prog.info? 33).map (·.size) = some (wordsV s).length) := Lib.hid info33
  have sf : ∀ W, (Op.equalIn 10000 33 (.agg (wordsV s).toArray) (.agg (wordsV s).toArray)).run Tryd.prog W = .ok true W := same33 s
  have gd := guard33
  have t0 : ((n : Int) == (n : Int)) = true := by simp
  have HB := Lib.hid hB0
  clear X1 X2 h1 h2 hB0
  go_enter Tryd.func22, Tryd.ntmps22
  go_wp2_with (first
    | (refine wpList_load_mid rfl 33 (.tmp 5) rfl w.heap.size 0 rfl (wordsV s) (.array 8 30) R1.out Tryd.underlying33 rfl hi.out ?_)
    | (refine wpList_load_mid rfl 33 (.tmp 7) rfl (w.heap.size + 1) 0 rfl (wordsV s) (.array 8 30) R2.out Tryd.underlying33 rfl hi.out ?_))
  refine HE.out.mono ?_
  rintro e w3 ⟨rfl, hb3⟩
  go_wp2_with fail
  go_ret
  exact ⟨rfl, bch HB.out hb3⟩
end Go.Proofs.YtkenbppoldfecaaDoor
