/- Proved here: digest of package sha: words as bytes. -/
import Derived.Test.YtkenbppoldfecaaDoorFirst
namespace Go.Proofs.YtkenbppoldfecaaDoor
open Go.RowKit Go.Shelf

def bytesV (l : Bytes) : List Value := l.map b8
def bytesA (l : Bytes) : Array Value := (bytesV l).toArray
theorem bytesA_one (l : Bytes) : (bytesA l).all (·.oneCell') = true := one_map (fun _ => rfl) _
theorem bytesV_len (l : Bytes) : (bytesV l).length = l.length := List.length_map _
theorem digestL_len (s : St) : (digestL s).length = 32 := by simp [digestL]
abbrev z8 : Value := .int .u8 0
theorem box_new {g : Nat} (w : World) (t : TypeId) (cs : Array Value) (h : g = w.heap.size) : Box (w.alloc (.cells cs t)) g t cs := by rw [h]; exact heap_alloc_new w _
theorem info27 : (Tryd.prog.info? 27).map (·.size) = some 32 := by kernel_rfl
theorem zero27 (l : List Value) : (Tryd.prog.info? 27).map (·.zero) = some (some (.agg (part z8 l 32 0))) := by
  rw [part_zero]
  kernel_rfl
theorem wrap_u8 (n : Int) : IntKind.u8.wrap n = n % 256 := rfl
theorem byte_of (n : Nat) : (((UInt8.ofNat n).toNat : Nat) : Int) = (n : Int) % 256 := by
  have : (UInt8.ofNat n).toNat = n % 256 := UInt8.toNat_ofNat'
  rw [this]
  rfl
theorem digest_at {s : St} {k : Nat} (hk : k < 32) : (bytesV (digestL s))[k]? = some (b8 (byteAt s k)) := by
  unfold bytesV digestL
  rw [List.getElem?_map, List.getElem?_map, List.getElem?_range hk]
  rfl
theorem word_of {s : St} {q : Nat} (hq : q < 8) : ∃ x, s.words.getD q 0 = x ∧ (stA s)[q]? = some (u x) := by
  refine ⟨_, rfl, ?_⟩
  unfold stA wordsV
  rw [List.getElem?_toArray, List.getElem?_map, List.getElem?_eq_getElem (show q < s.words.length from hq)]
  simp [List.getD_eq_getElem?_getD, List.getElem?_eq_getElem (show q < s.words.length from hq)]

theorem byte_at {s : St} {k q r : Nat} {x : Wd} (hx : s.words.getD q 0 = x) (hq : q = k / 4) (hr : r = 24 - 8 * (k % 4)) : b8 (byteAt s k) = .int .u8 ((x.toNat : Int) / 2 ^ r % 256) := by
  unfold byteAt
  rw [← hq, hx, ← hr]
  show Value.int .u8 _ = _
  rw [byte_of, Int.natCast_ediv, Int.natCast_pow]
  rfl

set_option maxRecDepth 100000 in
set_option maxHeartbeats 2000000 in
theorem digest_any (s : St) (w : World) : Calls Tryd.prog 28 #[.agg (stA s)] w fun e w' => e = .returned (.agg (bytesA (digestL s))) ∧ Below w.heap.size w w' := by
  go_enter Tryd.func28, Tryd.ntmps28
  go_wp2_with (with_reducible refine wpList_zero rfl 27 rfl (part z8 (bytesV (digestL s)) 32 0) (zero27 _) ?_)
  go_loopw [4, 5, 6, 7, 8, 9, 10, 11, 12, 13, 14, 15, 16, 17, 18, 19, 20] (fun _ i _ _ _ _ _ _ _ _ _ _ _ _ _ _ _ wr => ∃ k : Nat, k ≤ 32 ∧ i = .int .i64 k ∧ Hid (Box wr w.heap.size 33 (stA s)) ∧ Hid (Box wr (w.heap.size + 1) 27 (part z8 (bytesV (digestL s)) 32 0)) ∧ Hid (Box wr (w.heap.size + 2) 27 (part z8 (bytesV (digestL s)) 32 k)) ∧ Below w.heap.size w wr) (fun _ i _ _ _ _ _ _ _ _ _ _ _ _ _ _ _ _ => 32 - (Lib.intOf i).toNat)
  case atStart => exact ⟨0, Nat.zero_le _, rfl, Lib.hid (((show Box _ _ _ _ from heap_alloc_new w _).alloc _).alloc _), Lib.hid ((show Box _ _ _ _ from heap_alloc2_new w _ _).alloc _), Lib.hid (box_new _ _ _ (by simp)), (((Below.refl _ _).alloc (Nat.le_refl _) _).alloc (by simp) _).alloc (by simp; omega) _⟩
  case round =>
    obtain ⟨k, hk, rfl, HS, H0, H1, hB⟩ := hrel
    have hsz := hB.size
    have l1 := H1.out.lt
    by_cases hlt : k < 32
    · obtain ⟨x, hx, hc⟩ := word_of (s := s) (q := k / 4) (by omega)
      obtain ⟨q, hq⟩ : ∃ q, q = k / 4 := ⟨_, rfl⟩
      rw [← hq] at hx hc
      have e1 : (k : Int) / 4 = (q : Int) := by omega
      have e2 : (24 : Int) - 8 * ((k : Int) % 4) = ((24 - 8 * (k % 4) : Nat) : Int) := by omega
      obtain ⟨r, hr⟩ : ∃ r, r = 24 - 8 * (k % 4) := ⟨_, rfl⟩
      rw [← hr] at e2
      have r1 : (0 : Int) ≤ (r : Int) := by omega
      have r2 : (r : Int) ≤ 32 := by omega
      have q1 : q < 8 := by omega
      have cx := HS.out.cell hc
      have c1 := H1.out.cell (part_next (z := z8) (l := bytesV (digestL s)) (n := 32) hlt (by rw [bytesV_len, digestL_len]; omega))
      have f1 := H1.out.frozen k
      have HC := Lib.hid (digest_at (s := s) hlt)
      have HX := Lib.hid hx
      have HQ := Lib.hid hq
      have HR := Lib.hid hr
      clear hx hc hq hr
      go_wp2
      go_roundw
      case rel =>
        refine ⟨k + 1, hlt, by go_num, Lib.hid (HS.out.far (by dsimp only; omega) _), Lib.hid (H0.out.far (by dsimp only; omega) _), Lib.hid ?_, hB.setCell (by dsimp only; omega) _⟩
        have := H1.out.set (k := k) (b8 (byteAt s k))
        rw [part_set hlt HC.out] at this
        rw [show b8 (byteAt s k) = .int .u8 ((x.toNat : Int) / 2 ^ r % 256) from byte_at HX.out HQ.out HR.out] at this
        exact this
      case measure => simp [Lib.intOf]; omega
    · obtain rfl : k = 32 := by omega
      have H2 : Hid (Box wr (w.heap.size + 2) 27 (bytesA (digestL s))) := Lib.hid (by have := H1.out; rw [part_full (by rw [bytesV_len, digestL_len])] at this; exact this)
      go_wp2_with (first
        | (refine wpList_load_row rfl 27 (.tmp 3) rfl (w.heap.size + 2) rfl 27 (bytesA (digestL s)) (0, 0) (.array 32 5) H2.out Tryd.underlying27 rfl info27 ?_)
        | (refine wpList_store_row rfl 27 (.tmp 2) (.tmp 21) rfl (w.heap.size + 1) (bytesA (digestL s)) rfl rfl 27 (part z8 (bytesV (digestL s)) 32 0) H0.out info27 rfl (bytesA_one _) ?_))
      exact bodyPost_ret (results_cell_row rfl _ _ (w.heap.size + 1) 27 (bytesA (digestL s)) (0, 0) (.array 32 5) rfl (setRow_heap _ _ _ _ _ _ H0.out) Tryd.underlying27 rfl info27) rfl ⟨rfl, below_row hB (by omega) _⟩
end Go.Proofs.YtkenbppoldfecaaDoor
