/- Proved here: beginnings of package sha. -/
import Derived.Test.YtkenbppoldfecaaDoorArr
namespace Go.Proofs.YtkenbppoldfecaaDoor
open Go.RowKit Go.Shelf

def wordsV (s : St) : List Value := s.words.map u
def stA (s : St) : Array Value := (wordsV s).toArray
theorem wordsV_len (s : St) : (wordsV s).length = 8 := rfl
theorem stA_size (s : St) : (stA s).size = 8 := rfl
theorem one_map {α : Type} {f : α → Value} (h : ∀ x, (f x).oneCell' = true) (l : List α) : (l.map f).toArray.all (·.oneCell') = true := by simp [h]
theorem stA_one (s : St) : (stA s).all (·.oneCell') = true := one_map (fun _ => rfl) _
theorem first_at {k p : Nat} (hk : k < 8) (h : primesL[k]? = some p) : (wordsV first)[k]? = some (u (squareOf p)) := by
  unfold wordsV
  rw [← first_eq, List.getElem?_map, List.getElem?_map, List.getElem?_take, if_pos hk, h]
  rfl
theorem info33 : (Tryd.prog.info? 33).map (·.size) = some 8 := by kernel_rfl
theorem zero33 (l : List Value) : (Tryd.prog.info? 33).map (·.zero) = some (some (.agg (part z32 l 8 0))) := by
  rw [part_zero]
  kernel_rfl
theorem zeros8 (l : List Value) : (part z32 l 8 0).size = 8 := rfl

theorem prime_cell {t : TypeId} {fr : Nat × Nat} {w : World} (h : Prim t fr w) {k : Nat} {v : Value} (hv : primesA[k]? = some v) : w.cell? ⟨0, k, none⟩ = some v := (cell_of_row w 0 k primesA t fr h).trans hv

set_option maxRecDepth 100000 in
set_option maxHeartbeats 2000000 in
theorem beginnings_any (t : TypeId) (fr : Nat × Nat) (w : World) (hP : Prim t fr w) : Calls Tryd.prog 27 #[] w fun e w' => e = .returned (.agg (stA first)) ∧ Below w.heap.size w w' := by
  have HP := Lib.hid hP
  have h0 := hP.lt
  clear hP
  go_enter Tryd.func27, Tryd.ntmps27
  go_wp2_with (with_reducible refine wpList_zero rfl 33 rfl (part z32 (wordsV first) 8 0) (zero33 _) ?_)
  go_loopw [2, 3, 4, 5, 6, 7, 8, 9, 10, 11, 12, 13, 14] (fun _ _ i _ _ _ _ _ _ _ _ _ _ wr => ∃ k : Nat, k ≤ 8 ∧ i = .int .i64 k ∧ Hid (Box wr w.heap.size 33 (part z32 (wordsV first) 8 0)) ∧ Hid (Box wr (w.heap.size + 1) 33 (part z32 (wordsV first) 8 k)) ∧ Below w.heap.size w wr) (fun _ _ i _ _ _ _ _ _ _ _ _ _ _ => 8 - (Lib.intOf i).toNat)
  case atStart => exact ⟨0, Nat.zero_le _, rfl, Lib.hid ((show Box _ _ _ _ from heap_alloc_new w _).alloc _), Lib.hid (heap_alloc2_new w _ _), ((Below.refl _ _).alloc (Nat.le_refl _) _).alloc (by simp) _⟩
  case round =>
    obtain ⟨k, hk, rfl, H0, H1, hB⟩ := hrel
    have hsz := hB.size
    have l1 := H1.out.lt
    by_cases hlt : k < 8
    · obtain ⟨p, hp, hp2, hp3⟩ := prime_at (show k < 64 by omega)
      have cp := prime_cell (HP.out.on hB) hp3
      have l0 : 0 < wr.heap.size := by omega
      have c1 := H1.out.cell (part_next (z := z32) (l := wordsV first) (n := 8) hlt (Nat.le_of_lt hlt))
      have f1 := H1.out.frozen k
      have HC := Lib.hid (first_at hlt hp)
      clear hp hp3
      have ht : (wr.alloc (.cells #[.int .u64 (p : Int)] 50)).cell? ⟨wr.heap.size, 0, none⟩ = some (.int .u64 (p : Int)) := (show Box _ _ _ _ from heap_alloc_new wr _).cell rfl
      have HT := Lib.hid ht
      clear ht
      go_wp2_with (go_at_call 31; refine (behind_square _ p _ HT.out).mono ?_; rintro e w1 ⟨rfl, rfl⟩)
      go_roundw
      case rel =>
        refine ⟨k + 1, hlt, by go_num, Lib.hid ((H0.out.far (by simp) _).alloc _), Lib.hid ?_, (hB.setCell (by simp) _).alloc (by simpa using hsz) _⟩
        have := H1.out.set (k := k) (u (squareOf p))
        rw [part_set hlt HC.out] at this
        exact this.alloc _
      case measure => simp [Lib.intOf]; omega
    · obtain rfl : k = 8 := by omega
      have H2 : Hid (Box wr (w.heap.size + 1) 33 (stA first)) := Lib.hid (by have := H1.out; rw [part_full (wordsV_len first)] at this; exact this)
      go_wp2_with (first
        | (refine wpList_load_row rfl 33 (.tmp 1) rfl (w.heap.size + 1) rfl 33 (stA first) (0, 0) (.array 8 30) H2.out Tryd.underlying33 rfl info33 ?_)
        | (refine wpList_store_row rfl 33 (.tmp 0) (.tmp 15) rfl w.heap.size (stA first) rfl rfl 33 (part z32 (wordsV first) 8 0) H0.out info33 rfl (stA_one first) ?_))
      exact bodyPost_ret (results_cell_row rfl _ _ w.heap.size 33 (stA first) (0, 0) (.array 8 30) rfl (setRow_heap _ _ _ _ _ _ H0.out) Tryd.underlying33 rfl info33) rfl ⟨rfl, below_row hB (Nat.le_refl _) _⟩
end Go.Proofs.YtkenbppoldfecaaDoor
