/- Proved here: Words of puncheonref03: the words behind the whole blocks of bytes. -/
import Derived.Test.YtkenbppoldfecaaDoorRefI
import Derived.Test.YtkenbppoldfecaaDoorTakeIn
namespace Go.Proofs.YtkenbppoldfecaaDoor
open Go.RowKit Go.Shelf

/-- A part of 64 of a slice. -/
theorem run_slice_mid {P : Program} {t e : TypeId} (ht : P.underlying t = some (.slice e)) (hs : ∀ w, (Go.sizeOf e).run P w = .ok 1 w) (g o n c q : Nat) (h1 : q + 64 ≤ c) (w : World) :
    (Instr.slice t (.slice (some ⟨g, o, none⟩) n c) (some (.int .i64 (q : Int))) (some (.int .i64 ((q : Int) + 64))) none).run P w = .ok (.slice (some ⟨g, o + q, none⟩) 64 (c - q)) w := by
  have h2 : (0 : Int) ≤ (q : Int) ∧ (q : Int) ≤ (q : Int) + 64 := by omega
  have h3 : (0 : Int) ≤ (q : Int) + 64 ∧ (q : Int) + 64 ≤ (c : Int) := by omega
  have h4 : ((q : Int) + 64).toNat = q + 64 := by omega
  have h5 : ¬ c = q := by omega
  simp [Instr.slice, Sem.run_bind, run_underlying ht, Instr.sliceBounds, Instr.sliceBound, asIntOf, h2, h3, h4, h5, hs, addr_add]

set_option maxRecDepth 100000 in
set_option maxHeartbeats 8000000 in
theorem words_any (s : St) (l : Bytes) (v : Value) (w : World) (hv : Rd w v (bytesV l)) (hl : l.length ≤ 1000000000) : Calls Tryd.prog 30 #[.agg tabA, .agg (stA s), v] w fun e w' => e = .returned (.agg (stA (wordsOf s l))) ∧ Below w.heap.size w w' := by
  obtain ⟨a, c, rfl, hlc, hcm, hnil, hcell⟩ := id hv
  unfold maxLen at hcm
  rw [bytesV_len] at hlc hcell ⊢
  obtain ⟨n, hn⟩ : ∃ n, n = l.length := ⟨_, rfl⟩
  rw [← hn] at hlc hcell hl ⊢
  have HN := Lib.hid hn
  have HC := Lib.hid hcell
  clear hv hnil hcell hn
  obtain ⟨w2, hw2⟩ : ∃ q, q = ((w.alloc (.cells tabA 35)).alloc (.cells (stA s) 33)).alloc (.cells (part z32 [] 8 0) 33) := ⟨_, rfl⟩
  have X0 : Hid (Box w2 w.heap.size 35 tabA) := Lib.hid (by rw [hw2]; exact ((show Box _ _ _ _ from heap_alloc_new w _).alloc _).alloc _)
  have X1 : Hid (Box w2 (w.heap.size + 1) 33 (stA (blk 0 s l))) := Lib.hid (by rw [hw2]; exact (show Box _ _ _ _ from heap_alloc2_new w _ _).alloc _)
  have X2 : Hid (Box w2 (w.heap.size + 1 + 1) 33 (part z32 [] 8 0)) := Lib.hid (by rw [hw2]; exact box_new _ _ _ (by simp))
  have B2 : Hid (Below w.heap.size w w2) := Lib.hid (by rw [hw2]; exact (((Below.refl _ _).alloc (Nat.le_refl _) _).alloc (by simp) _).alloc (by simp; omega) _)
  go_enter Tryd.func30, Tryd.ntmps30
  go_wp2_with (with_reducible refine wpList_zero rfl 33 rfl (part z32 [] 8 0) (zero33 _) ?_)
  rw [← hw2]
  clear hw2
  go_loopw [7, 8, 9, 10, 11, 12, 13, 14, 15, 16, 17, 18, 19, 20, 21, 22] (fun at_ _ _ _ _ _ _ _ _ _ _ _ _ _ _ _ wr => ∃ k : Nat, 64 * k ≤ n ∧ at_ = .int .i64 ((64 * k : Nat) : Int) ∧ Hid (Box wr w.heap.size 35 tabA) ∧ Hid (Box wr (w.heap.size + 1) 33 (stA (blk k s l))) ∧ Hid (Box wr (w.heap.size + 1 + 1) 33 (part z32 [] 8 0)) ∧ Hid (Below w.heap.size w wr)) (fun at_ _ _ _ _ _ _ _ _ _ _ _ _ _ _ _ _ => n - (Lib.intOf at_).toNat)
  case atStart => exact ⟨0, Nat.zero_le _, rfl, X0, X1, X2, B2⟩
  case round =>
    clear X0 X1 X2 B2
    obtain ⟨k, hk, rfl, X0, X1, X2, B2⟩ := hrel
    obtain ⟨wq, hwq⟩ : ∃ q, q = wr := ⟨_, rfl⟩
    rw [← hwq] at X0 X1 X2 B2 ⊢
    clear hwq
    obtain ⟨q, hq⟩ : ∃ q, q = 64 * k := ⟨_, rfl⟩
    rw [← hq] at hk ⊢
    have HQ := Lib.hid hq
    clear hq
    have w1 : IntKind.i64.wrap ((q : Int) + 64) = (q : Int) + 64 := IntWalk.i64_in _ (by omega)
    by_cases hlt : q + 64 ≤ n
    · have k1 : (q : Int) + 64 ≤ (n : Int) := by omega
      have k0 : (0 : Int) ≤ (q : Int) := by omega
      have kc : q + 64 ≤ c := by omega
      obtain ⟨g, o, rfl, hg, hc⟩ := HC.out (by omega)
      have hcm' : ∀ j, j < 64 → wq.cell? ⟨g, o + q + j, none⟩ = some (b8 (((l.drop (64 * k)).take 64).getD j 0)) := fun j hj => by
        have h1 := (B2.out.cell (p := ⟨g, _, none⟩) hg).trans (hc (q + j) _ (rd_get (l := l) (by have := HN.out; omega)))
        rw [← Nat.add_assoc] at h1
        rw [h1, ← HQ.out]
        congr 2
        rw [List.getD_eq_getElem?_getD, List.getD_eq_getElem?_getD, List.getElem?_take, if_pos hj, List.getElem?_drop]
      have HCM := Lib.hid hcm'
      have hgB : g < w.heap.size := hg
      clear hc hcm' hg
      have hsl : ∀ W, (Instr.slice 24 (.slice (some ⟨g, o, none⟩) n c) (some (.int .i64 (q : Int))) (some (.int .i64 ((q : Int) + 64))) none).run Tryd.prog W = .ok (.slice (some ⟨g, o + q, none⟩) 64 (c - q)) W := fun W => run_slice_mid Tryd.underlying24 Tryd.sizeOf5 g o n c q kc W
      go_wp2_with fail
      refine wp_region_still_tail 7 (by kernel_rfl) (by kernel_rfl) ?_
      simp only [List.take_succ_cons, List.take_zero, List.drop_succ_cons, List.drop_zero]
      refine still_reads rfl 35 (.tmp 3) rfl w.heap.size rfl tabA (run_loadVar_row _ w.heap.size 35 35 tabA (0, 0) _ X0.out Tryd.underlying35 rfl info35a) ?_
      refine still_reads rfl 33 (.tmp 4) rfl (w.heap.size + 1) rfl (stA (blk k s l)) (run_loadVar_row _ (w.heap.size + 1) 33 33 (stA (blk k s l)) (0, 0) (.array 8 30) X1.out Tryd.underlying33 rfl (info33s _)) ?_
      repeat still_step
      try refine wpStill_nil ?_
      change wpList _ _ _ _ _ wq.drew
      have Y0 := Lib.hid X0.out.drew
      have Y1 := Lib.hid X1.out.drew
      have Y2 := Lib.hid X2.out.drew
      have YB := Lib.hid B2.out.drew
      have YC : Hid (∀ j, j < 64 → wq.drew.cell? ⟨g, o + q + j, none⟩ = some (b8 (((l.drop (64 * k)).take 64).getD j 0))) := HCM
      obtain ⟨wd, hwd⟩ : ∃ wd, wq.drew = wd := ⟨_, rfl⟩
      rw [hwd] at Y0 Y1 Y2 YB YC ⊢
      have hgd : g < wd.heap.size := by have := YB.out.size; omega
      clear hwd X0 X1 X2 B2 HCM hsl
      go_wp2_with fail
      refine (block_any (blk k s l) ((l.drop (64 * k)).take 64) g (o + q) (c - q) wd hgd YC.out).mono ?_
      rintro e w3 ⟨rfl, hb3⟩
      have Z0 : Hid (Box w3 w.heap.size 35 tabA) := Lib.hid (Y0.out.below hb3 Y0.out.lt)
      have Z1 : Hid (Box w3 (w.heap.size + 1) 33 (stA (blk k s l))) := Lib.hid (Y1.out.below hb3 Y1.out.lt)
      have Z2 : Hid (Box w3 (w.heap.size + 1 + 1) 33 (part z32 [] 8 0)) := Lib.hid (Y2.out.below hb3 Y2.out.lt)
      have ZB : Hid (Below w.heap.size w w3) := Lib.hid (bch YB.out hb3)
      clear Y0 Y1 Y2 YB YC hb3
      go_wp2_with (refine wpList_store_row rfl 33 (.tmp 4) (.tmp 22) rfl (w.heap.size + 1) (stA (mixS consts (blk k s l) ((l.drop (64 * k)).take 64))) rfl rfl 33 (stA (blk k s l)) Z1.out (info33s _) (stA_sizes _ _) (stA_one _) ?_)
      go_roundw
      case rel =>
        refine ⟨k + 1, by have := HQ.out; omega, by have := HQ.out; congr 1; push_cast; omega, Lib.hid (Z0.out.far_row (by omega) _), Lib.hid ?_, Lib.hid (Z2.out.far_row (by omega) _), Lib.hid (below_row ZB.out (by omega) _)⟩
        rw [blk_back]
        exact Z1.out.row _
      case measure => simp [Lib.intOf]; omega
    · have k1 : ¬ ((q : Int) + 64 ≤ (n : Int)) := by omega
      have HW : Hid (Wrapped (wordsOf s l = blk k s l)) := Lib.hid (Wrapped.mk (blk_all (s := s) (l := l) (k := k) (by have := HN.out; have := HQ.out; omega) (by have := HN.out; have := HQ.out; omega)).1)
      go_wp2_with (first
        | (refine wpList_load_row rfl 33 (.tmp 4) rfl (w.heap.size + 1) rfl 33 (stA (blk k s l)) (0, 0) (.array 8 30) X1.out Tryd.underlying33 rfl (info33s _) ?_)
        | (refine wpList_store_row rfl 33 (.tmp 6) (.tmp 23) rfl (w.heap.size + 1 + 1) (stA (blk k s l)) rfl rfl 33 (part z32 [] 8 0) X2.out (info33s _) (zeros8s _ _) (stA_one _) ?_))
      rw [HW.out.get]
      exact bodyPost_ret (results_cell_row rfl _ _ (w.heap.size + 1 + 1) 33 (stA (blk k s l)) (0, 0) (.array 8 30) rfl (setRow_heap _ _ _ _ _ _ X2.out) Tryd.underlying33 rfl (info33s _)) rfl ⟨rfl, below_row B2.out (by omega) _⟩
end Go.Proofs.YtkenbppoldfecaaDoor
