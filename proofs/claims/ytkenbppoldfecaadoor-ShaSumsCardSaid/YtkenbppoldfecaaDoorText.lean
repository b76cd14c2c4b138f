/- Proved here: Text of package sha. -/
import Derived.Test.YtkenbppoldfecaaDoorSum
import Derived.Test.YtkenbppoldfecaaDoorHex
import Derived.Laws.IdiomStrings
namespace Go.Proofs.YtkenbppoldfecaaDoor
open Go.RowKit Go.Shelf

abbrev digitsS : ByteArray := ⟨#[48, 49, 50, 51, 52, 53, 54, 55, 56, 57, 97, 98, 99, 100, 101, 102]⟩
theorem run_hx {n : Nat} (h : n < 16) (W : World) : (Instr.index 9 (.string digitsS) (.int .u8 (n : Int))).run Tryd.prog W = .ok (b8 (hx n)) W := by
  rcases (by omega : n = 0 ∨ n = 1 ∨ n = 2 ∨ n = 3 ∨ n = 4 ∨ n = 5 ∨ n = 6 ∨ n = 7 ∨ n = 8 ∨ n = 9 ∨ n = 10 ∨ n = 11 ∨ n = 12 ∨ n = 13 ∨ n = 14 ∨ n = 15) with rfl | rfl | rfl | rfl | rfl | rfl | rfl | rfl | rfl | rfl | rfl | rfl | rfl | rfl | rfl | rfl
  all_goals (rw [run_index_string (h := Tryd.underlying9)]; rfl)
theorem info77 : (Tryd.prog.info? 77).map (·.size) = some 64 := by kernel_rfl
theorem zero77 (l : List Value) : (Tryd.prog.info? 77).map (·.zero) = some (some (.agg (part z8 l 64 0))) := by
  rw [part_zero]
  kernel_rfl
theorem u8_and15 (c : UInt8) : bits .and .u8 (c.toNat : Int) 15 = ((c.toNat % 16 : Nat) : Int) := by
  have h : ∀ n : Fin 256, bits .and .u8 ((UInt8.ofNat n.val).toNat : Int) 15 = (((UInt8.ofNat n.val).toNat % 16 : Nat) : Int) := by decide +kernel
  have := h ⟨c.toNat, c.toNat_lt⟩
  simpa using this

set_option maxRecDepth 100000 in
set_option maxHeartbeats 3000000 in
theorem text_any (d : Bytes) (hd : d.length = 32) (w : World) : Calls Tryd.prog 15 #[.agg (bytesA d)] w fun e w' => e = .returned (.string ⟨(textL d).toArray⟩) ∧ Below w.heap.size w w' := by
  have HI := Lib.hid (info27b d hd)
  have HX0 : Hid (Box ((w.alloc (.cells (bytesA d) 27)).alloc (.cells (part z8 (bytesV (textL d)) 64 0) 77)) w.heap.size 27 (bytesA d)) := Lib.hid ((box_new w 27 _ rfl).alloc _)
  have HD := Lib.hid hd
  clear hd
  go_enter Tryd.func15, Tryd.ntmps15
  go_wp2_with (first
    | (with_reducible refine wpList_zero rfl 77 rfl (part z8 (bytesV (textL d)) 64 0) (zero77 _) ?_)
    | (refine wpList_load_row rfl 27 (.tmp 1) rfl w.heap.size rfl 27 (bytesA d) (0, 0) (.array 32 5) HX0.out Tryd.underlying27 rfl HI.out ?_))
  go_loopw [4, 5, 7, 8, 9, 10, 11, 12, 13, 14, 15, 16, 17, 18, 19, 20, 21, 22, 23, 24] (fun _ _ i _ _ _ _ _ _ _ _ _ _ _ _ _ _ _ _ _ wr => ∃ k : Nat, k ≤ 32 ∧ i = .int .i64 k ∧ Hid (Box wr (w.heap.size + 1) 77 (part z8 (bytesV (textL d)) 64 (2 * k))) ∧ Below w.heap.size w wr) (fun _ _ i _ _ _ _ _ _ _ _ _ _ _ _ _ _ _ _ _ _ => 32 - (Lib.intOf i).toNat)
  case atStart => exact ⟨0, Nat.zero_le _, rfl, Lib.hid (heap_alloc2_new w _ _), ((Below.refl _ _).alloc (Nat.le_refl _) _).alloc (by simp) _⟩
  case round =>
    obtain ⟨k, hk, rfl, H1, hB⟩ := hrel
    by_cases hlt : k < 32
    · have hgd := get_getD d 0 (k := k) (by have := HD.out; omega)
      obtain ⟨c, hc⟩ : ∃ c, c = d.getD k 0 := ⟨_, rfl⟩
      rw [← hc] at hgd
      have hv : (bytesA d)[k]? = some (b8 c) := by
        unfold bytesA bytesV
        rw [List.getElem?_toArray, List.getElem?_map, hgd]
        rfl
      have hix := run_index_arr (P := Tryd.prog) Tryd.underlying27 Tryd.isAgg5 Tryd.sizeOf5 hlt hv
      have ht := textL_at d k c hgd
      have hcl := c.toNat_lt
      obtain ⟨hi, hhi⟩ : ∃ hi, hi = c.toNat / 16 := ⟨_, rfl⟩
      obtain ⟨lo, hlo⟩ : ∃ lo, lo = c.toNat % 16 := ⟨_, rfl⟩
      have e1 : (c.toNat : Int) / 16 = (hi : Int) := by omega
      have e2 : bits .and .u8 (c.toNat : Int) 15 = (lo : Int) := by rw [u8_and15, hlo]
      have r1 := run_hx (n := hi) (by omega)
      have r2 := run_hx (n := lo) (by omega)
      rw [← hhi, ← hlo] at ht
      have htl : (bytesV (textL d)).length = 64 := by rw [bytesV_len, textL_len]; have := HD.out; omega
      have c1 := H1.out.cell (part_next (z := z8) (l := bytesV (textL d)) (n := 64) (k := 2 * k) (by omega) (by omega))
      have c2 : wr.cell? ⟨w.heap.size + 1, 2 * k + 1, none⟩ = some z8 := H1.out.cell (by
        unfold part
        rw [List.getElem?_toArray, List.getElem?_append_right (by simp; omega), List.length_take, List.getElem?_replicate, if_pos (by omega)])
      have f1 := H1.out.frozen (2 * k)
      have f2 := H1.out.frozen (2 * k + 1)
      have k1 : (0 : Int) ≤ (k : Int) := by omega
      have k2 : (k : Int) < 32 := by omega
      have s1 : IntKind.i64.wrap (2 * (k : Int)) = 2 * (k : Int) := IntWalk.i64_in _ (by omega)
      have s2 : IntKind.i64.wrap (2 * (k : Int) + 1) = 2 * (k : Int) + 1 := IntWalk.i64_in _ (by omega)
      have t1 : (0 : Int) ≤ 2 * (k : Int) := by omega
      have t2 : (0 : Int) ≤ 2 * (k : Int) + 1 := by omega
      have t3 : 2 * (k : Int) < 64 := by omega
      have t4 : 2 * (k : Int) + 1 < 64 := by omega
      have t5 : (2 * (k : Int)).toNat = 2 * k := by omega
      have t6 : (2 * (k : Int) + 1).toNat = 2 * k + 1 := by omega
      have HT := Lib.hid ht
      have HTL := Lib.hid htl
      clear hgd hc hhi hlo ht htl hv hcl
      go_wp2_with fail
      go_region
      go_wp2
      go_roundw
      case rel =>
        refine ⟨k + 1, hlt, by go_num, Lib.hid ?_, ((hB.setCell (p := ⟨w.heap.size + 1, 2 * k, none⟩) (by dsimp only; omega) (b8 (hx hi))).setCell (p := ⟨w.heap.size + 1, 2 * k + 1, none⟩) (by dsimp only; omega) (b8 (hx lo))).drew⟩
        have hb : ∀ (i : Nat) (y : UInt8), (textL d)[i]? = some y → (bytesV (textL d))[i]? = some (b8 y) := fun i y h => by
          unfold bytesV
          rw [List.getElem?_map, h]
          rfl
        have h3 := (H1.out.set (k := 2 * k) (b8 (hx hi))).set (k := 2 * k + 1) (b8 (hx lo))
        rw [part_set (by omega) (hb _ _ HT.out.1), part_set (by omega) (hb _ _ HT.out.2), show 2 * k + 1 + 1 = 2 * (k + 1) by omega] at h3
        exact h3
      case measure => simp [Lib.intOf]; omega
    · obtain rfl : k = 32 := by omega
      have htl : (textL d).length = 64 := by rw [textL_len]; have := HD.out; omega
      have h64 := H1.out
      rw [show 2 * 32 = 64 by decide, part_full (by rw [bytesV_len, htl])] at h64
      have HB64 := Lib.hid h64
      have hconv : (convert 24 9 (.slice (some ⟨w.heap.size + 1, 0, none⟩) 64 64)).run Tryd.prog wr = .ok (.string ⟨(textL d).toArray⟩) wr := by
        have := run_convert_bytes_back (P := Tryd.prog) wr 24 9 5 ⟨w.heap.size + 1, 0, none⟩ 64 (textL d) Tryd.underlying24 Tryd.underlying5 Tryd.underlying9 (fun j hj => by
          rw [addr_add, Nat.zero_add]
          refine h64.cell ?_
          unfold bytesV
          rw [List.getElem?_toArray, List.getElem?_map, List.getElem?_eq_getElem hj]
          rfl)
        rw [htl] at this
        exact this
      clear h64 htl
      go_wp2_with fail
      go_ret
      exact ⟨rfl, hB⟩
end Go.Proofs.YtkenbppoldfecaaDoor
