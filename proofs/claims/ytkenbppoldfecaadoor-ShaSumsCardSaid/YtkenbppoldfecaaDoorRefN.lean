/- Proved here: Made of puncheonref03: the beginnings and the constants, as roots of the first primes. -/
import Derived.Test.YtkenbppoldfecaaDoorRefK
import Derived.Test.YtkenbppoldfecaaDoorConcat
namespace Go.Proofs.YtkenbppoldfecaaDoor
open Go.RowKit Go.Shelf

theorem app_right (a b : Array Value) (k n : Nat) (v : Value) (h : a.size = n) : (a ++ b).setIfInBounds (n + k) v = a ++ b.setIfInBounds k v := by
  apply Array.ext'
  rw [Array.toList_setIfInBounds, Array.toList_append, Array.toList_append, Array.toList_setIfInBounds, List.set_append_right _ _ (by rw [Array.length_toList]; omega), Array.length_toList, h, Nat.add_sub_cancel_left]
theorem app_left (a b : Array Value) (k : Nat) (v : Value) (h : k < a.size) : (a ++ b).setIfInBounds k v = a.setIfInBounds k v ++ b := by
  apply Array.ext'
  rw [Array.toList_setIfInBounds, Array.toList_append, Array.toList_append, Array.toList_setIfInBounds, List.set_append_left _ _ (by rw [Array.length_toList]; omega)]

/-- The table, so far. -/
def tabP (k m : Nat) : Array Value := part z32 (wordsV first) 8 m ++ part z32 constsV 64 k
def tabA : Array Value := stA first ++ constsA
theorem tabP_full : tabP 64 8 = tabA := by
  unfold tabP tabA stA constsA
  rw [part_full (wordsV_len _), part_full constsV_len]
theorem part8 (m : Nat) (hm : m ≤ 8) : (part z32 (wordsV first) 8 m).size = 8 := part_size (wordsV_len _) hm
theorem tabP_each {k m : Nat} (hk : k < 64) (hm : m ≤ 8) : (tabP k m)[8 + k]? = some z32 := by
  unfold tabP
  rw [Array.getElem?_append_right (by rw [part8 m hm]; omega), part8 m hm, Nat.add_sub_cancel_left]
  exact part_next hk (by rw [constsV_len]; omega)
theorem tabP_first {k m : Nat} (hm : m < 8) : (tabP k m)[m]? = some z32 := by
  unfold tabP
  rw [Array.getElem?_append_left (by rw [part8 m (by omega)]; omega)]
  exact part_next hm (by rw [wordsV_len]; omega)
theorem cube_at {k p : Nat} (h : primesL[k]? = some p) : constsV[k]? = some (u (rootOf 3 p)) := by
  unfold constsV
  rw [← cubes_are, List.getElem?_map, List.getElem?_map, h]
  rfl
theorem square_at {k p : Nat} (hk : k < 8) (h : primesL[k]? = some p) : (wordsV first)[k]? = some (u (rootOf 2 p)) := by
  unfold wordsV
  rw [← squares_are, List.getElem?_map, List.getElem?_map, List.getElem?_take, if_pos hk, h]
  rfl
theorem tabP_set_each {k m p : Nat} (hk : k < 64) (hm : m ≤ 8) (h : primesL[k]? = some p) : (tabP k m).setIfInBounds (8 + k) (u (rootOf 3 p)) = tabP (k + 1) m := by
  unfold tabP
  rw [app_right _ _ _ _ _ (part8 m hm), part_set hk (cube_at h)]
theorem tabP_set_first {k m p : Nat} (hm : m < 8) (h : primesL[m]? = some p) : (tabP k m).setIfInBounds m (u (rootOf 2 p)) = tabP k (m + 1) := by
  unfold tabP
  rw [app_left _ _ _ _ (by rw [part8 m (by omega)]; omega), part_set hm (square_at hm h)]
theorem zero35 : (Tryd.prog.info? 35).map (·.zero) = some (some (.agg (tabP 0 0))) := by
  unfold tabP
  rw [part_zero, part_zero]
  kernel_rfl
theorem info35 : (Tryd.prog.info? 35).map (·.size) = some 72 := by kernel_rfl
theorem tabP_size {k m : Nat} (hk : k ≤ 64) (hm : m ≤ 8) : (tabP k m).size = 72 := by
  unfold tabP
  rw [Array.size_append, part8 m hm, part_size constsV_len hk]
theorem tabA_size : tabA.size = 72 := by rw [← tabP_full, tabP_size (by omega) (by omega)]
theorem tabA_one : tabA.all (·.oneCell') = true := by
  unfold tabA
  rw [Array.all_append, stA_one, consts_one]
  rfl
theorem info35a : (Tryd.prog.info? 35).map (·.size) = some tabA.size := by rw [info35, tabA_size]
theorem size35a : (tabP 0 0).size = tabA.size := by rw [tabP_size (by omega) (by omega), tabA_size]

set_option maxRecDepth 100000 in
set_option maxHeartbeats 4000000 in
theorem made_any (w : World) : Calls Tryd.prog 13 #[] w fun e w' => e = .returned (.agg tabA) ∧ Below w.heap.size w w' := by
  obtain ⟨w2, hw2⟩ : ∃ q, q = (w.alloc (.cells (tabP 0 0) 35)).alloc (.cells (tabP 0 0) 35) := ⟨_, rfl⟩
  have X0 : Hid (Box w2 w.heap.size 35 (tabP 0 0)) := Lib.hid (by rw [hw2]; exact (show Box _ _ _ _ from heap_alloc_new w _).alloc _)
  have X1 : Hid (Box w2 (w.heap.size + 1) 35 (tabP 0 0)) := Lib.hid (by rw [hw2]; exact heap_alloc2_new w _ _)
  have B2 : Hid (Below w.heap.size w w2) := Lib.hid (by rw [hw2]; exact ((Below.refl _ _).alloc (Nat.le_refl _) _).alloc (by simp) _)
  go_enter Tryd.func13, Tryd.ntmps13
  go_wp2_with (with_reducible refine wpList_zero rfl 35 rfl (tabP 0 0) zero35 ?_)
  rw [← hw2]
  clear hw2
  refine (primes_any w2).mono ?_
  rintro e w3 ⟨v3, rfl, hown, hb3⟩
  have Y0 : Hid (Box w3 w.heap.size 35 (tabP 0 0)) := Lib.hid (X0.out.below hb3 X0.out.lt)
  have Y1 : Hid (Box w3 (w.heap.size + 1) 35 (tabP 0 0)) := Lib.hid (X1.out.below hb3 X1.out.lt)
  have B3 : Hid (Below w.heap.size w w3) := Lib.hid (B2.out.trans (hb3.mono B2.out.size))
  have hown2 := hown
  rcases hown2.2 with ⟨_, h0⟩ | ⟨g, cap, cur, rfl, hg2, hbx, hlc, hcm, _⟩
  · exact absurd h0 (by decide)
  have hcur : ∀ (j : Nat) (x : Value), primesV[j]? = some x → cur[j]? = some x := fun j x hx => by
    have h1 := hown.cells (g := g) rfl j x hx
    rw [addr_add, Nat.zero_add] at h1
    exact (cell_of_row w3 g j cur 50 (0, 0) hbx).symm.trans h1
  have PB : Hid (Box w3 g 50 cur) := Lib.hid hbx
  have HC := Lib.hid hcur
  have hgs : w.heap.size + 2 ≤ g := by
    have h1 := hown.lt g rfl
    have h2 := X1.out.lt
    omega
  unfold maxLen at hcm
  clear X0 X1 B2 hown hown2 hb3 hcur hbx hg2
  go_wp2_with fail
  go_loopw [2, 3, 6, 7, 8, 9, 10, 11, 12, 13, 14, 15, 16, 17, 18, 19, 20, 21, 22, 23] (fun _ _ i _ _ _ _ _ _ _ _ _ _ _ _ _ _ _ _ _ wr => ∃ k : Nat, k ≤ 64 ∧ i = .int .i64 k ∧ Hid (Box wr w.heap.size 35 (tabP 0 0)) ∧ Hid (Box wr (w.heap.size + 1) 35 (tabP k (min k 8))) ∧ Hid (Below w.heap.size w wr) ∧ Hid (Box wr g 50 cur)) (fun _ _ i _ _ _ _ _ _ _ _ _ _ _ _ _ _ _ _ _ _ => 64 - (Lib.intOf i).toNat)
  case atStart => exact ⟨0, Nat.zero_le _, rfl, Y0, Y1, B3, PB⟩
  case round =>
    clear Y0 Y1 B3 PB
    obtain ⟨k, hk, rfl, H0, H1, HB, HB3⟩ := hrel
    obtain ⟨wq, hwq⟩ : ∃ q, q = wr := ⟨_, rfl⟩
    rw [← hwq] at H0 H1 HB HB3 ⊢
    clear hwq
    by_cases hlt : k < 64
    · obtain ⟨p, hp, hp2, hp3⟩ := prime_at hlt
      have hpv : primesV[k]? = some (.int .u64 (p : Int)) := by
        have := hp3
        unfold primesA at this
        rwa [List.getElem?_toArray] at this
      have c1 := HB3.out.cell (HC.out k _ hpv)
      have HP := Lib.hid hp
      have k1 : (k : Int) < 64 := by omega
      clear hp hp3 hpv
      go_wp2_with fail
      refine (root3_any p hp2 _).mono ?_
      rintro e w4 ⟨rfl, hb4⟩
      have Z0 : Hid (Box w4 w.heap.size 35 (tabP 0 0)) := Lib.hid (H0.out.below hb4 H0.out.lt)
      have Z1 : Hid (Box w4 (w.heap.size + 1) 35 (tabP k (min k 8))) := Lib.hid (H1.out.below hb4 H1.out.lt)
      have ZB : Hid (Below w.heap.size w w4) := Lib.hid (bch HB.out hb4)
      have ZB3 : Hid (Box w4 g 50 cur) := Lib.hid (HB3.out.below hb4 HB3.out.lt)
      have c2 := Z1.out.cell (tabP_each (k := k) (m := min k 8) hlt (by omega))
      have f2 := Z1.out.frozen (8 + k)
      clear H0 H1 HB HB3 hb4 c1
      have HS8 : Hid ((tabP k (min k 8)).setIfInBounds (8 + k) (u (rootOf 3 p)) = tabP (k + 1) (min k 8)) := Lib.hid (tabP_set_each hlt (by omega) HP.out)
      have k0 : (0 : Int) ≤ (k : Int) := by omega
      by_cases h8 : k < 8
      · have k8 : (k : Int) < 8 := by omega
        have hmin : min k 8 = k := by omega
        have hmin2 : min (k + 1) 8 = k + 1 := by omega
        rw [hmin] at Z1 HS8
        have HM2 := Lib.hid hmin2
        clear hmin hmin2
        have W1 : Hid (Box (w4.setCell ⟨w.heap.size + 1, 8 + k, none⟩ (u (rootOf 3 p))) (w.heap.size + 1) 35 (tabP (k + 1) k)) := Lib.hid (by
          have := Z1.out.set (k := 8 + k) (u (rootOf 3 p))
          rw [HS8.out] at this
          exact this)
        have W0 : Hid (Box (w4.setCell ⟨w.heap.size + 1, 8 + k, none⟩ (u (rootOf 3 p))) w.heap.size 35 (tabP 0 0)) := Lib.hid (Z0.out.far (by simp) _)
        have WB : Hid (Below w.heap.size w (w4.setCell ⟨w.heap.size + 1, 8 + k, none⟩ (u (rootOf 3 p)))) := Lib.hid (ZB.out.setCell (by simp) _)
        have WB3 : Hid (Box (w4.setCell ⟨w.heap.size + 1, 8 + k, none⟩ (u (rootOf 3 p))) g 50 cur) := Lib.hid (ZB3.out.far (by dsimp only; omega) _)
        go_upto_region 7 with fail
        obtain ⟨w5, hw5⟩ : ∃ q, q = w4.setCell ⟨w.heap.size + 1, 8 + k, none⟩ (u (rootOf 3 p)) := ⟨_, rfl⟩
        rw [← hw5] at W0 W1 WB WB3 ⊢
        clear hw5 Z0 Z1 ZB ZB3 c2 f2 HS8
        go_wp2_with fail
        refine (root2_any p hp2 _).mono ?_
        rintro e w6 ⟨rfl, hb6⟩
        have Z0 : Hid (Box w6 w.heap.size 35 (tabP 0 0)) := Lib.hid (W0.out.below hb6 W0.out.lt)
        have Z1 : Hid (Box w6 (w.heap.size + 1) 35 (tabP (k + 1) k)) := Lib.hid (W1.out.below hb6 W1.out.lt)
        have ZB : Hid (Below w.heap.size w w6) := Lib.hid (bch WB.out hb6)
        have ZB3 : Hid (Box w6 g 50 cur) := Lib.hid (WB3.out.below hb6 WB3.out.lt)
        have c3 := Z1.out.cell (tabP_first (k := k + 1) h8)
        have f3 := Z1.out.frozen k
        have HS9 : Hid ((tabP (k + 1) k).setIfInBounds k (u (rootOf 2 p)) = tabP (k + 1) (k + 1)) := Lib.hid (tabP_set_first h8 HP.out)
        clear W0 W1 WB WB3 hb6
        go_wp2_with fail
        go_roundw
        case rel =>
          refine ⟨k + 1, hlt, by go_num, Lib.hid (Z0.out.far (by simp) _), Lib.hid ?_, Lib.hid (ZB.out.setCell (by simp) _), Lib.hid (ZB3.out.far (by dsimp only; omega) _)⟩
          have := Z1.out.set (k := k) (u (rootOf 2 p))
          rw [HS9.out] at this
          rw [HM2.out]
          exact this
        case measure => simp [Lib.intOf]; omega
      · have k8 : ¬ ((k : Int) < 8) := by omega
        have hmin : min k 8 = 8 := by omega
        have hmin2 : min (k + 1) 8 = 8 := by omega
        rw [hmin] at Z1 HS8
        have HM2 := Lib.hid hmin2
        clear hmin hmin2
        go_wp2_with fail
        go_roundw
        case rel =>
          refine ⟨k + 1, hlt, by go_num, Lib.hid (Z0.out.far (by simp) _), Lib.hid ?_, Lib.hid (ZB.out.setCell (by simp) _), Lib.hid (ZB3.out.far (by dsimp only; omega) _)⟩
          have := Z1.out.set (k := 8 + k) (u (rootOf 3 p))
          rw [HS8.out] at this
          rw [HM2.out]
          exact this
        case measure => simp [Lib.intOf]; omega
    · obtain rfl : k = 64 := by omega
      have H2 : Hid (Box wq (w.heap.size + 1) 35 tabA) := Lib.hid (by have := H1.out; rw [show min 64 8 = 8 from rfl, tabP_full] at this; exact this)
      have k1 : ¬ ((64 : Int) < 64) := by omega
      clear H1
      go_wp2_with (first
        | (refine wpList_load_row rfl 35 (.tmp 1) rfl (w.heap.size + 1) rfl 35 tabA (0, 0) _ H2.out Tryd.underlying35 rfl info35a ?_)
        | (refine wpList_store_row rfl 35 (.tmp 0) (.tmp 24) rfl w.heap.size tabA rfl rfl 35 (tabP 0 0) H0.out info35a size35a tabA_one ?_))
      exact bodyPost_ret (results_cell_row rfl _ _ w.heap.size 35 tabA (0, 0) _ rfl (setRow_heap _ _ _ _ _ _ H0.out) Tryd.underlying35 rfl info35a) rfl ⟨rfl, below_row HB.out (Nat.le_refl _) _⟩
end Go.Proofs.YtkenbppoldfecaaDoor
