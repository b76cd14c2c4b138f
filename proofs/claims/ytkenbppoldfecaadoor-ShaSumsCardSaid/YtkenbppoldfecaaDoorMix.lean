/- Proved here: mix of package sha: a block is taken in. -/
import Derived.Test.YtkenbppoldfecaaDoorSpread
namespace Go.Proofs.YtkenbppoldfecaaDoor
open Go.RowKit Go.Shelf

theorem turn_int (x : Wd) (i : Int) (h0 : 0 < i) (hn : i < 32) (w : World) : Calls Tryd.prog 53 #[u x, .int .i64 i] w fun e w' => e = .returned (u (rot x i.toNat)) ∧ ∃ k, w' = w.drewN k := turn_at x i.toNat i (by omega) (by omega) (by omega) w

/-- The state behind k rounds. -/
def after (s : St) (l : Bytes) (k : Nat) : St := rounds s ((consts.zip (spreadL l)).take k)
theorem consts_len : consts.length = 64 := rfl
theorem after_zero (s : St) (l : Bytes) : after s l 0 = s := rfl
theorem get_getD {α : Type} (l : List α) (d : α) {k : Nat} (h : k < l.length) : l[k]? = some (l.getD k d) := by
  rw [List.getD_eq_getElem?_getD, List.getElem?_eq_getElem h]
  rfl
theorem rounds_succ (K S : List Wd) (s : St) {k : Nat} (h1 : k < K.length) (h2 : k < S.length) : rounds s ((K.zip S).take (k + 1)) = rnd (K.getD k 0) (S.getD k 0) (rounds s ((K.zip S).take k)) := by
  have hz : (K.zip S)[k]? = some (K.getD k 0, S.getD k 0) := List.getElem?_zip_eq_some.2 ⟨get_getD _ _ h1, get_getD _ _ h2⟩
  rw [List.take_add_one, hz]
  unfold rounds
  rw [List.foldl_append, Option.toList_some, List.foldl_cons, List.foldl_nil]
theorem after_succ (s : St) (l : Bytes) {k : Nat} (hk : k < 64) : after s l (k + 1) = rnd (consts.getD k 0) ((spreadL l).getD k 0) (after s l k) :=
  rounds_succ _ _ s hk (by rw [spread_len]; exact hk)
theorem after_all (s : St) (l : Bytes) : addS s (after s l 64) = mixS consts s l := by
  unfold after mixS
  rw [List.take_of_length_le (by rw [List.length_zip, spread_len, consts_len]; decide)]

/-- The first k of these, and then those. -/
def half (a b : List Value) (k : Nat) : Array Value := (a.take k ++ b.drop k).toArray
theorem half_set {a b : List Value} {k : Nat} {v : Value} (hb : k < b.length) (hv : a[k]? = some v) : (half a b k).setIfInBounds k v = half a b (k + 1) := by
  unfold half
  have hl : k < a.length := (List.getElem?_eq_some_iff.1 hv).1
  rw [List.setIfInBounds_toArray, List.set_append_right _ _ (by simp; omega), List.length_take, show min k a.length = k by omega, Nat.sub_self, List.drop_eq_getElem_cons hb, List.set_cons_zero, List.take_add_one, hv]
  simp
theorem half_at {a b : List Value} {k : Nat} (hk : k ≤ a.length) : (half a b k)[k]? = b[k]? := by
  unfold half
  rw [List.getElem?_toArray, List.getElem?_append_right (by simp; omega), List.length_take, show k - min k a.length = 0 by omega, List.getElem?_drop, Nat.add_zero]
theorem half_zero (a b : List Value) : half a b 0 = b.toArray := rfl
theorem half_all {a b : List Value} {k : Nat} (ha : a.length = k) (hb : b.length = k) : half a b k = a.toArray := by
  unfold half
  rw [List.take_of_length_le (by omega), List.drop_eq_nil_of_le (by omega), List.append_nil]

theorem words_at (s : St) {k : Nat} (hk : k < 8) : (wordsV s)[k]? = some (u (s.words.getD k 0)) := by
  have h : k < s.words.length := hk
  unfold wordsV
  rw [List.getElem?_map, List.getD_eq_getElem?_getD, List.getElem?_eq_getElem h]
  rfl
theorem add_at (s x : St) {k : Nat} (hk : k < 8) : (addS s x).words.getD k 0 = s.words.getD k 0 + x.words.getD k 0 := by
  rcases (by omega : k = 0 ∨ k = 1 ∨ k = 2 ∨ k = 3 ∨ k = 4 ∨ k = 5 ∨ k = 6 ∨ k = 7) with rfl | rfl | rfl | rfl | rfl | rfl | rfl | rfl <;> rfl

theorem max_u32 : (if IntKind.u32.signed = true then (-1 : Int) else IntKind.u32.max) = 4294967295 := by decide
theorem info33s (s : St) : (Tryd.prog.info? 33).map (·.size) = some (stA s).size := info33
theorem zeros8s (s : St) (l : List Value) : (part z32 l 8 0).size = (stA s).size := rfl
theorem p_eq (k w : Wd) (s : St) : ((s.h.toNat : Int) + bits .xor .u32 (bits .xor .u32 ((rot s.e 6).toNat : Int) ((rot s.e 11).toNat : Int)) ((rot s.e 25).toNat : Int) + bits .xor .u32 (bits .and .u32 (s.e.toNat : Int) (s.f.toNat : Int)) (bits .and .u32 (bits .xor .u32 4294967295 (s.e.toNat : Int)) (s.g.toNat : Int)) + (k.toNat : Int) + (w.toNat : Int)) % 4294967296 = ((pOf k w s).toNat : Int) := by
  rw [not_word, and_word, and_word, xor_word, xor_word, xor_word]
  unfold pOf big1 chs
  rw [BitVec.toNat_add, BitVec.toNat_add, BitVec.toNat_add, BitVec.toNat_add]
  omega
theorem q_eq (s : St) : (bits .xor .u32 (bits .xor .u32 ((rot s.a 2).toNat : Int) ((rot s.a 13).toNat : Int)) ((rot s.a 22).toNat : Int) + bits .xor .u32 (bits .xor .u32 (bits .and .u32 (s.a.toNat : Int) (s.b.toNat : Int)) (bits .and .u32 (s.a.toNat : Int) (s.c.toNat : Int))) (bits .and .u32 (s.b.toNat : Int) (s.c.toNat : Int))) % 4294967296 = ((qOf s).toNat : Int) := by
  rw [and_word, and_word, and_word, xor_word, xor_word, xor_word, xor_word, add_word']
  rfl

set_option maxRecDepth 100000 in
set_option maxHeartbeats 3000000 in
theorem mix_any (s : St) (l : Bytes) (g o c : Nat) (w : World) (hc : 64 ≤ c) (hcm : c ≤ 9223372036854775807) (hg : g < w.heap.size) (hcell : ∀ j, j < 64 → w.cell? ⟨g, o + j, none⟩ = some (b8 (l.getD j 0))) :
    Calls Tryd.prog 41 #[.agg (stA s), .agg constsA, .slice (some ⟨g, o, none⟩) 64 c] w fun e w' => e = .returned (.agg (stA (mixS consts s l))) ∧ Below w.heap.size w w' := by
  have HC := Lib.hid hcell
  clear hcell
  go_enter Tryd.func41, Tryd.ntmps41
  go_wp2_with (with_reducible refine wpList_zero rfl 33 rfl (part z32 [] 8 0) (zero33 _) ?_)
  have hB0 : Below w.heap.size w (((w.alloc (.cells (stA s) 33)).alloc (.cells constsA 31)).alloc (.cells (part z32 [] 8 0) 33)) := (((Below.refl _ _).alloc (Nat.le_refl _) _).alloc (by simp) _).alloc (by simp; omega) _
  refine (spread_any l g o c _ hc hcm (by simp; omega) (fun j hj => (hB0.cell (p := ⟨g, _, none⟩) hg).trans (HC.out j hj))).mono ?_
  rintro e w1 ⟨rfl, hb1⟩
  have hB1 := hB0.trans (hb1.mono hB0.size)
  have x0 : Box w1 w.heap.size 33 (stA s) := (((show Box _ _ _ _ from heap_alloc_new w _).alloc _).alloc _).below hb1 (by simp; omega)
  have x1 : Box w1 (w.heap.size + 1) 31 constsA := ((show Box _ _ _ _ from heap_alloc2_new w _ _).alloc _).below hb1 (by simp)
  have x2 : Box w1 (w.heap.size + 2) 33 (part z32 [] 8 0) := (box_new _ _ _ (by simp)).below hb1 (by simp)
  have x3 : Box (w1.alloc (.cells (part z32 (spreadV l) 64 0) 31)) w1.heap.size 31 (part z32 (spreadV l) 64 0) := box_new _ _ _ rfl
  have hsz1 : (part z32 (spreadV l) 64 0).size = (spreadA l).size := by rw [part_size (spreadV_len l) (by omega)]; simp [spreadA, spreadV_len]
  have hsz2 : (Tryd.prog.info? 31).map (·.size) = some (spreadA l).size := by rw [info31]; simp [spreadA, spreadV_len]
  have l0 := x2.lt
  have X0 := Lib.hid x0
  have X1 := Lib.hid x1
  have X2 := Lib.hid x2
  have X3 := Lib.hid x3
  have HB1 := Lib.hid hB1
  have HS1 := Lib.hid hsz1
  have HS2 := Lib.hid hsz2
  clear x0 x1 x2 x3 hB1 hsz1 hsz2 hB0
  go_wp2_with (first
    | (with_reducible refine wpList_zero rfl 31 rfl (part z32 (spreadV l) 64 0) (zero31 _) ?_)
    | (refine wpList_store_row rfl 31 (.tmp 7) (.tmp 23) rfl w1.heap.size (spreadA l) rfl rfl 31 (part z32 (spreadV l) 64 0) X3.out HS2.out HS1.out (one_map (fun _ => rfl) _) ?_))
  have Y0 : Hid (Box ((w1.alloc (.cells (part z32 (spreadV l) 64 0) 31)).setRow w1.heap.size (spreadA l)) w.heap.size 33 (stA s)) := Lib.hid ((X0.out.alloc _).far_row (by omega) _)
  have Y1 : Hid (Box ((w1.alloc (.cells (part z32 (spreadV l) 64 0) 31)).setRow w1.heap.size (spreadA l)) (w.heap.size + 1) 31 constsA) := Lib.hid ((X1.out.alloc _).far_row (by omega) _)
  have Y2 : Hid (Box ((w1.alloc (.cells (part z32 (spreadV l) 64 0) 31)).setRow w1.heap.size (spreadA l)) (w.heap.size + 2) 33 (part z32 [] 8 0)) := Lib.hid ((X2.out.alloc _).far_row (by omega) _)
  have Y3 : Hid (Box ((w1.alloc (.cells (part z32 (spreadV l) 64 0) 31)).setRow w1.heap.size (spreadA l)) w1.heap.size 31 (spreadA l)) := Lib.hid (X3.out.row _)
  have YB : Hid (Below w.heap.size w ((w1.alloc (.cells (part z32 (spreadV l) 64 0) 31)).setRow w1.heap.size (spreadA l))) := Lib.hid (below_row (HB1.out.alloc HB1.out.size _) HB1.out.size _)
  obtain ⟨W, hW⟩ : ∃ x, x = (w1.alloc (.cells (part z32 (spreadV l) 64 0) 31)).setRow w1.heap.size (spreadA l) := ⟨_, rfl⟩
  rw [← hW] at Y0 Y1 Y2 Y3 YB ⊢
  obtain ⟨gq, hgq⟩ : ∃ x, x = w1.heap.size := ⟨_, rfl⟩
  rw [← hgq] at Y3 l0 ⊢
  clear hW X0 X1 X2 X3 HB1 hgq hb1
  have d0 : W.cell? ⟨w.heap.size, 0, none⟩ = some (u s.a) := Y0.out.cell (k := 0) rfl
  have d1 : W.cell? ⟨w.heap.size, 1, none⟩ = some (u s.b) := Y0.out.cell (k := 1) rfl
  have d2 : W.cell? ⟨w.heap.size, 2, none⟩ = some (u s.c) := Y0.out.cell (k := 2) rfl
  have d3 : W.cell? ⟨w.heap.size, 3, none⟩ = some (u s.d) := Y0.out.cell (k := 3) rfl
  have d4 : W.cell? ⟨w.heap.size, 4, none⟩ = some (u s.e) := Y0.out.cell (k := 4) rfl
  have d5 : W.cell? ⟨w.heap.size, 5, none⟩ = some (u s.f) := Y0.out.cell (k := 5) rfl
  have d6 : W.cell? ⟨w.heap.size, 6, none⟩ = some (u s.g) := Y0.out.cell (k := 6) rfl
  have d7 : W.cell? ⟨w.heap.size, 7, none⟩ = some (u s.h) := Y0.out.cell (k := 7) rfl
  go_quiet (fail)
  clear d0 d1 d2 d3 d4 d5 d6 d7
  go_wp2_with (refine wpList_load_row rfl 31 (.tmp 4) rfl (w.heap.size + 1) rfl 31 constsA (0, 0) (.array 64 30) (Y1.out.drewN _) Tryd.underlying31 rfl info31 ?_)
  go_loopw [8, 9, 10, 11, 12, 13, 14, 15, 16, 17, 18, 19, 41, 42, 43, 44, 45, 46, 47, 48, 49, 50, 51, 52, 53, 54, 55, 56, 57, 58, 59, 60, 61, 62, 63, 64, 65, 66, 67, 68, 69, 70, 71, 72, 73, 74, 75, 76, 77, 78, 79, 80, 81, 82, 83, 84, 85, 86, 87, 88, 89, 90, 91, 92, 93, 94, 95, 96, 97, 98, 99, 100, 101, 102] (fun v0 v1 v2 v3 v4 v5 v6 v7 _ _ _ _ i _ _ _ _ _ _ _ _ _ _ _ _ _ _ _ _ _ _ _ _ _ _ _ _ _ _ _ _ _ _ _ _ _ _ _ _ _ _ _ _ _ _ _ _ _ _ _ _ _ _ _ _ _ _ _ _ _ _ _ _ _ wr => ∃ (k : Nat) (x : St), k ≤ 64 ∧ i = .int .i64 k ∧ v0 = u x.a ∧ v1 = u x.b ∧ v2 = u x.c ∧ v3 = u x.d ∧ v4 = u x.e ∧ v5 = u x.f ∧ v6 = u x.g ∧ v7 = u x.h ∧ Hid (Wrapped (after s l k = x)) ∧ Hid (Box wr w.heap.size 33 (stA s)) ∧ Hid (Box wr (w.heap.size + 2) 33 (part z32 [] 8 0)) ∧ Hid (Box wr gq 31 (spreadA l)) ∧ Below w.heap.size w wr) (fun _ _ _ _ _ _ _ _ _ _ _ _ i _ _ _ _ _ _ _ _ _ _ _ _ _ _ _ _ _ _ _ _ _ _ _ _ _ _ _ _ _ _ _ _ _ _ _ _ _ _ _ _ _ _ _ _ _ _ _ _ _ _ _ _ _ _ _ _ _ _ _ _ _ _ => 64 - (Lib.intOf i).toNat)
  case atStart => exact ⟨0, s, Nat.zero_le _, rfl, rfl, rfl, rfl, rfl, rfl, rfl, rfl, rfl, Lib.hid (Wrapped.mk (after_zero s l)), Lib.hid (Y0.out.drewN _), Lib.hid (Y2.out.drewN _), Lib.hid (Y3.out.drewN _), below_drewN YB.out _⟩
  case round =>
    obtain ⟨k, x, hk, rfl, rfl, rfl, rfl, rfl, rfl, rfl, rfl, rfl, HA, H0, H2, H3, hB⟩ := hrel
    obtain ⟨a, b, c', d, e, f, g', h⟩ := x
    have hsz := hB.size
    by_cases hlt : k < 64
    · obtain ⟨kk, hkk⟩ : ∃ y, y = consts.getD k 0 := ⟨_, rfl⟩
      obtain ⟨ww, hww⟩ : ∃ y, y = (spreadL l).getD k 0 := ⟨_, rfl⟩
      have hcv : constsA[k]? = some (u kk) := by
        rw [hkk]
        unfold constsA constsV
        rw [List.getElem?_toArray, List.getElem?_map, get_getD consts 0 hlt]
        rfl
      have hix := run_index_arr (P := Tryd.prog) Tryd.underlying31 Tryd.isAgg30 Tryd.sizeOf30 hlt hcv
      have hsv : (spreadA l)[k]? = some (u ww) := by
        unfold spreadA
        rw [List.getElem?_toArray, spreadV_at l hlt, hww]
      have cw := H3.out.cell hsv
      have HN := Lib.hid (show Wrapped (after s l (k + 1) = rnd kk ww ⟨a, b, c', d, e, f, g', h⟩) from Wrapped.mk (by rw [after_succ s l hlt, hkk, hww, HA.out.get]))
      have k1 : (0 : Int) ≤ (k : Int) := by omega
      have k2 : (k : Int) < 64 := by omega
      clear hkk hww hcv hsv
      go_wp2_with fail
      go_quiet ((go_at_call 53; exact Calls.quiet_of (turn_int _ _ (by omega) (by omega) _)))
      go_wp2_with (go_at_call 53; refine (turn_int _ _ (by omega) (by omega) _).mono ?_; rintro e w' ⟨rfl, n, rfl⟩)
      go_roundw
      case rel =>
        refine ⟨k + 1, rnd kk ww ⟨a, b, c', d, e, f, g', h⟩, hlt, by go_num, ?_, rfl, rfl, rfl, ?_, rfl, rfl, rfl, HN, Lib.hid (H0.out.drewN _), Lib.hid (H2.out.drewN _), Lib.hid (H3.out.drewN _), below_drewN hB _⟩
        · have h1 := p_eq kk ww ⟨a, b, c', d, e, f, g', h⟩
          have h2 := q_eq ⟨a, b, c', d, e, f, g', h⟩
          dsimp only at h1 h2
          rw [max_u32, h1, h2, add_word']
          rfl
        · have h1 := p_eq kk ww ⟨a, b, c', d, e, f, g', h⟩
          dsimp only at h1
          rw [max_u32, h1, add_word']
          rfl
      case measure => simp [Lib.intOf]; omega
    · obtain ⟨wq, rfl⟩ : ∃ y, y = wr := ⟨wr, rfl⟩
      have hh : ¬ ((k : Int) < 64) := by omega
      go_wp2_with fail
      go_loopw [20, 21, 112, 113, 114, 115, 116, 117, 118, 119, 120, 121, 122] (fun _ _ i _ _ _ _ _ _ _ _ _ _ wr => ∃ j : Nat, j ≤ 8 ∧ i = .int .i64 j ∧ Hid (Box wr w.heap.size 33 (half (wordsV (addS s ⟨a, b, c', d, e, f, g', h⟩)) (wordsV s) j)) ∧ Hid (Box wr (w.heap.size + 2) 33 (part z32 [] 8 0)) ∧ Below w.heap.size w wr) (fun _ _ i _ _ _ _ _ _ _ _ _ _ _ => 8 - (Lib.intOf i).toNat)
      case atStart => exact ⟨0, Nat.zero_le _, rfl, Lib.hid (by rw [half_zero]; exact H0.out), H2, hB⟩
      case round =>
        obtain ⟨j, hj, rfl, H4, H5, hB5⟩ := hrel
        have hsz5 := hB5.size
        have l5 := H5.out.lt
        by_cases hlt5 : j < 8
        · obtain ⟨y, hy⟩ : ∃ y, y = (St.words ⟨a, b, c', d, e, f, g', h⟩).getD j 0 := ⟨_, rfl⟩
          obtain ⟨z, hz⟩ : ∃ z, z = s.words.getD j 0 := ⟨_, rfl⟩
          have hv1 : (#[u a, u b, u c', u d, u e, u f, u g', u h] : Array Value)[j]? = some (u y) := by
            rw [hy, ← words_at ⟨a, b, c', d, e, f, g', h⟩ hlt5]
            exact List.getElem?_toArray
          have hix := run_index_arr (P := Tryd.prog) Tryd.underlying33 Tryd.isAgg30 Tryd.sizeOf30 hlt5 hv1
          have hv2 : (wordsV (addS s ⟨a, b, c', d, e, f, g', h⟩))[j]? = some (u (z + y)) := by rw [words_at _ hlt5, add_at s _ hlt5, hy, hz]
          have hc5 := H4.out.cell ((half_at (by rw [wordsV_len]; omega)).trans (words_at s hlt5))
          rw [← hz] at hc5
          have f5 := H4.out.frozen j
          have HV := Lib.hid (Wrapped.mk hv2)
          have j1 : (0 : Int) ≤ (j : Int) := by omega
          have j2 : (j : Int) < 8 := by omega
          clear hv1 hv2 hy hz
          go_wp2
          go_roundw
          case rel =>
            refine ⟨j + 1, hlt5, by go_num, Lib.hid ?_, Lib.hid (H5.out.far (by dsimp only; omega) _), hB5.setCell (by dsimp only; omega) _⟩
            have := H4.out.set (k := j) (u (z + y))
            rw [half_set (by rw [wordsV_len]; omega) HV.out.get] at this
            rw [add_word']
            exact this
          case measure => simp [Lib.intOf]; omega
        · obtain rfl : j = 8 := by omega
          have H6 : Hid (Box wr w.heap.size 33 (stA (mixS consts s l))) := Lib.hid (by
            have := H4.out
            rw [half_all (wordsV_len _) (wordsV_len _), ← HA.out.get, show k = 64 by omega, after_all] at this
            exact this)
          clear HA H4
          go_wp2_with (first
            | (refine wpList_load_row rfl 33 (.tmp 3) rfl w.heap.size rfl 33 (stA (mixS consts s l)) (0, 0) (.array 8 30) H6.out Tryd.underlying33 rfl (info33s _) ?_)
            | (refine wpList_store_row rfl 33 (.tmp 6) (.tmp 123) rfl (w.heap.size + 2) (stA (mixS consts s l)) rfl rfl 33 (part z32 [] 8 0) H5.out (info33s _) (zeros8s _ _) (stA_one _) ?_))
          exact bodyPost_ret (results_cell_row rfl _ _ (w.heap.size + 2) 33 (stA (mixS consts s l)) (0, 0) (.array 8 30) rfl (setRow_heap _ _ _ _ _ _ H5.out) Tryd.underlying33 rfl (info33s _)) rfl ⟨rfl, below_row hB5 (by omega) _⟩
end Go.Proofs.YtkenbppoldfecaaDoor
