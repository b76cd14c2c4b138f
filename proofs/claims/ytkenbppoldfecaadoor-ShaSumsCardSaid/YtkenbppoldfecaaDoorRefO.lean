/- Proved here: Root of puncheonref03. -/
import Derived.Test.YtkenbppoldfecaaDoorRefP
namespace Go.Proofs.YtkenbppoldfecaaDoor
open Go.RowKit Go.Shelf

theorem triN_one (n : Nat) : (triN n).all (·.oneCell') = true := by unfold triN tri; simp [Value.oneCell']
theorem triN_at (p : Nat) (hp : p < 512) (q : Nat) (hq : q = p * 4294967296) : triN (p * 18446744073709551616) = #[.int .u64 0, .int .u64 (p : Int), .int .u64 0] ∧ triN (p * 79228162514264337593543950336) = #[.int .u64 0, .int .u64 (q : Int), .int .u64 0] := by
  have e : ∀ a b c d e f : Nat, a = d → b = e → c = f → (tri a b c = tri d e f) := fun a b c d e f h1 h2 h3 => by rw [h1, h2, h3]
  subst hq
  exact ⟨e _ _ _ 0 p 0 (by omega) (by omega) (by omega), e _ _ _ 0 (p * 4294967296) 0 (by omega) (by omega) (by omega)⟩
theorem triN_1 : triN 1 = #[.int .u64 1, .int .u64 0, .int .u64 0] := rfl

set_option maxHeartbeats 8000000 in
theorem root3_any (p : Nat) (hp : p < 512) (w : World) : Calls Tryd.prog 35 #[.int .u64 (p : Int), .int .i64 3] w fun e w' => e = .returned (u (rootOf 3 p)) ∧ Below w.heap.size w w' := by
  obtain ⟨q, hq⟩ : ∃ q, q = p * 4294967296 := ⟨_, rfl⟩
  have HE := Lib.hid (triN_at p hp q hq)
  have v1 : IntKind.u64.wrap ((p : Int) * 2 ^ 32) = (q : Int) := by rw [wrap_u64]; omega
  have v2 : IntKind.u64.wrap ((p : Int) * 4294967296) = (q : Int) := by rw [wrap_u64]; omega
  have HQ := Lib.hid hq
  clear hq
  have X0 : Hid (Box (w.alloc (.cells #[.int .u64 0, .int .u64 0, .int .u64 0] 89)) w.heap.size 89 #[.int .u64 0, .int .u64 0, .int .u64 0]) := Lib.hid (heap_alloc_new w _)
  obtain ⟨w1, hw1⟩ : ∃ q, q = (w.alloc (.cells #[.int .u64 0, .int .u64 0, .int .u64 0] 89)).setRow w.heap.size #[.int .u64 0, .int .u64 (p : Int), .int .u64 0] := ⟨_, rfl⟩
  have X1 : Hid (Box w1 w.heap.size 89 #[.int .u64 0, .int .u64 (p : Int), .int .u64 0]) := Lib.hid (by rw [hw1]; exact setRow_heap _ _ _ _ _ _ X0.out)
  have B1 : Hid (Below w.heap.size w w1) := Lib.hid (by rw [hw1]; exact below_row ((Below.refl _ _).alloc (Nat.le_refl _) _) (Nat.le_refl _) _)
  go_enter Tryd.func35, Tryd.ntmps35
  go_upto_region 2 with (refine wpList_store_row rfl 89 (.tmp 5) (.tmp 11) rfl w.heap.size #[.int .u64 0, .int .u64 (p : Int), .int .u64 0] rfl rfl 89 _ X0.out (info89 _ rfl) rfl (by simp [Value.oneCell']) ?_)
  rw [← hw1]
  clear hw1 X0
  obtain ⟨w2, hw2⟩ : ∃ z, z = w1.setRow w.heap.size #[.int .u64 0, .int .u64 (q : Int), .int .u64 0] := ⟨_, rfl⟩
  have X2 : Hid (Box w2 w.heap.size 89 (triN (p * 79228162514264337593543950336))) := Lib.hid (by rw [hw2, HE.out.2]; exact setRow_heap _ _ _ _ _ _ X1.out)
  have B2 : Hid (Below w.heap.size w w2) := Lib.hid (by rw [hw2]; exact below_row B1.out (Nat.le_refl _) _)
  go_upto_region 4 with (refine wpList_store_row rfl 89 (.tmp 5) (.tmp 16) rfl w.heap.size #[.int .u64 0, .int .u64 (q : Int), .int .u64 0] rfl rfl 89 _ X1.out (info89 _ rfl) rfl (by simp [Value.oneCell']) ?_)
  rw [← hw2]
  clear hw2 X1 B1
  obtain ⟨GG, hGG⟩ : ∃ z, z = p * 79228162514264337593543950336 := ⟨_, rfl⟩
  rw [← hGG] at X2
  have hGb : GG < 6277101735386680763835789423207666416102355444464034512896 := by omega
  have HG := Lib.hid hGG
  have HGB := Lib.hid hGb
  clear hGG hGb HE HQ v1 v2
  go_wp2_with fail
  go_loopw [6, 7, 8, 9, 17, 18, 19, 20, 21, 22, 23, 24, 25, 26, 27, 28, 29, 30, 31, 32, 33, 34, 35, 36, 37] (fun lo hi _ _ _ _ _ _ _ _ _ _ _ _ _ _ _ _ _ _ _ _ _ _ _ W => ∃ k l m : Nat, m ≤ 274877906944 ∧ Hid (m = l + 2 ^ k) ∧ lo = .int .u64 (l : Int) ∧ hi = .int .u64 (m : Int) ∧ Hid (halve (rootB 3 p) k l = halve (rootB 3 p) 38 0) ∧ Hid (Box W w.heap.size 89 (triN GG)) ∧ Hid (Below w.heap.size w W)) (fun lo hi _ _ _ _ _ _ _ _ _ _ _ _ _ _ _ _ _ _ _ _ _ _ _ _ => (Lib.intOf hi - Lib.intOf lo).toNat)
  case atStart => exact ⟨38, 0, 274877906944, by omega, Lib.hid (by decide), rfl, rfl, Lib.hid rfl, X2, B2⟩
  case round =>
    clear X2 B2
    obtain ⟨k, l, m, hm, HM, rfl, rfl, HH, X2, B2⟩ := hrel
    obtain ⟨wq, hwq⟩ : ∃ q, q = wr := ⟨_, rfl⟩
    rw [← hwq] at X2 B2 ⊢
    clear hwq
    cases k with
    | zero =>
      have c1 : l ≤ m := by have := HM.out; omega
      have c2 : m ≤ l + 1 := by have := HM.out; omega
      go_wp2_with fail
      go_ret
      have hz : halve (rootB 3 p) 0 l = l := rfl
      have h0 := HH.out
      rw [hz] at h0
      exact ⟨ret_u (by unfold rootOf; rw [← h0]; rfl), B2.out⟩
    | succ k =>
      obtain ⟨x, hx⟩ : ∃ x, x = l + 2 ^ k := ⟨_, rfl⟩
      have hp : 2 ^ (k + 1) = 2 ^ k + 2 ^ k := by rw [Nat.pow_succ]; omega
      have h0 : 0 < 2 ^ k := Nat.two_pow_pos k
      have c1 : l < x := by omega
      have c2 : x < m := by have := HM.out; omega
      have c3 : ((l : Int) + (m : Int)) / 2 = (x : Int) := by have := HM.out; omega
      have HX := Lib.hid hx
      have HPW : Hid (∀ j, j ≤ 3 → x ^ j < 6277101735386680763835789423207666416102355444464034512896) := Lib.hid (fun j hj => by
        have h1 : x ^ j ≤ 274877906944 ^ j := Nat.pow_le_pow_left (by omega) j
        have h2 : 274877906944 ^ j ≤ 274877906944 ^ 3 := Nat.pow_le_pow_right (by omega) hj
        omega)
      clear hx hp h0
      have Y0 : Hid (Box (wq.alloc (.cells #[.int .u64 0, .int .u64 0, .int .u64 0] 89)) wq.heap.size 89 #[.int .u64 0, .int .u64 0, .int .u64 0]) := Lib.hid (heap_alloc_new wq _)
      obtain ⟨w3, hw3⟩ : ∃ z, z = (wq.alloc (.cells #[.int .u64 0, .int .u64 0, .int .u64 0] 89)).setRow wq.heap.size #[.int .u64 1, .int .u64 0, .int .u64 0] := ⟨_, rfl⟩
      have Y9 : Hid (Box w3 wq.heap.size 89 (triN (x ^ 0))) := Lib.hid (by rw [hw3, Nat.pow_zero, triN_1]; exact setRow_heap _ _ _ _ _ _ Y0.out)
      have b3 : Below wq.heap.size wq w3 := by rw [hw3]; exact below_row ((Below.refl _ _).alloc (Nat.le_refl _) _) (Nat.le_refl _) _
      go_upto_region 8 with (refine wpList_store_row rfl 89 (.tmp 9) (.tmp 25) rfl wq.heap.size #[.int .u64 1, .int .u64 0, .int .u64 0] rfl rfl 89 _ Y0.out (info89 _ rfl) rfl (by simp [Value.oneCell']) ?_)
      rw [← hw3]
      (try go_frame)
      have c5 : decide ((1 : Int) < (m : Int) - (l : Int)) = true := decide_eq_true (by omega)
      simp only [c3, c5]
      clear hw3 Y0
      have B3 := Lib.hid (bch B2.out b3)
      have X3 := Lib.hid (X2.out.below b3 X2.out.lt)
      have HLT : Hid (w.heap.size < wq.heap.size) := Lib.hid X2.out.lt
      obtain ⟨g9, hg9⟩ : ∃ z, z = wq.heap.size := ⟨_, rfl⟩
      rw [← hg9] at Y9 HLT ⊢
      clear b3 hg9 X2 B2
      go_wp2_with fail
      go_loopw [27, 28, 29, 30, 31, 32] (fun i _ _ _ _ _ W => ∃ j : Nat, j ≤ 3 ∧ i = .int .i64 (j : Int) ∧ Hid (Box W w.heap.size 89 (triN GG)) ∧ Hid (Box W g9 89 (triN (x ^ j))) ∧ Hid (Below w.heap.size w W)) (fun i _ _ _ _ _ _ => 3 - (Lib.intOf i).toNat)
      case atStart => exact ⟨0, by omega, rfl, X3, Y9, B3⟩
      case round =>
        clear X3 Y9 B3
        obtain ⟨j, hj, rfl, X3, Y9, B3⟩ := hrel
        obtain ⟨wi, hwi⟩ : ∃ q, q = wr := ⟨_, rfl⟩
        rw [← hwi] at X3 Y9 B3 ⊢
        clear hwi
        by_cases hlt : j < 3
        · have j1 : (j : Int) < 3 := by omega
          have j4 : IntKind.i64.wrap ((j : Int) + 1) = (j : Int) + 1 := IntWalk.i64_in _ (by omega)
          have HTM := Lib.hid (rtimes_any (x ^ j) x (HPW.out j hj) (by omega) wi)
          rw [← Nat.pow_succ] at HTM
          go_wp2_with (first
            | (refine wpList_load_row rfl 89 (.tmp 9) rfl g9 rfl 89 (triN (x ^ j)) (0, 0) (.array 3 50) Y9.out Tryd.underlying89 rfl (info89 _ rfl) ?_)
            | fail)
          refine HTM.out.mono ?_
          rintro e w4 ⟨rfl, hb⟩
          have Y4 := Lib.hid (Y9.out.below hb Y9.out.lt)
          have X4 := Lib.hid (X3.out.below hb X3.out.lt)
          have B4 := Lib.hid (bch B3.out hb)
          clear HTM hb
          obtain ⟨w5, hw5⟩ : ∃ z, z = w4.setRow g9 (triN (x ^ (j + 1))) := ⟨_, rfl⟩
          have b5 : Below g9 w4 w5 := by rw [hw5]; exact below_row (Below.refl _ _) (Nat.le_refl _) _
          have Y5 : Hid (Box w5 g9 89 (triN (x ^ (j + 1)))) := Lib.hid (by rw [hw5]; exact setRow_heap _ _ _ _ _ _ Y4.out)
          have X5 := Lib.hid (X4.out.below b5 HLT.out)
          have B5 : Hid (Below w.heap.size w w5) := Lib.hid (by rw [hw5]; exact below_row B4.out (Nat.le_of_lt HLT.out) _)
          go_wp2_with (first
            | (refine wpList_store_row rfl 89 (.tmp 9) (.tmp 31) rfl g9 (triN (x ^ (j + 1))) rfl rfl 89 _ Y4.out (info89 _ rfl) rfl (triN_one _) ?_; rw [← hw5]; clear hw5 b5 Y4 X4 B4)
            | fail)
          go_roundw
          case rel => exact ⟨j + 1, hlt, by go_num, X5, Y5, B5⟩
          case measure => simp [Lib.intOf]; omega
        · have j1 : ¬ ((j : Int) < 3) := by omega
          obtain rfl : j = 3 := by omega
          obtain ⟨t, ht⟩ : ∃ t, t = decide (GG < x ^ 3) := ⟨_, rfl⟩
          have HL := Lib.hid (rless_any GG (x ^ 3) HGB.out (HPW.out 3 (Nat.le_refl _)) wi)
          rw [← ht] at HL
          have HT := Lib.hid ht
          clear ht
          go_wp2_with (first
            | (refine wpList_load_row rfl 89 (.tmp 5) rfl w.heap.size rfl 89 (triN GG) (0, 0) (.array 3 50) X3.out Tryd.underlying89 rfl (info89 _ rfl) ?_)
            | (refine wpList_load_row rfl 89 (.tmp 9) rfl g9 rfl 89 (triN (x ^ 3)) (0, 0) (.array 3 50) Y9.out Tryd.underlying89 rfl (info89 _ rfl) ?_)
            | fail)
          refine HL.out.mono ?_
          rintro e w4 ⟨rfl, hb⟩
          have X4 := Lib.hid (X3.out.below hb X3.out.lt)
          have B4 := Lib.hid (bch B3.out hb)
          have HR : Hid (rootB 3 p x = !t) := Lib.hid (by
            rw [HT.out]
            unfold rootB
            rw [← decide_not, decide_eq_decide]
            have := HG.out
            omega)
          clear HL hb HT X3 Y9 B3
          cases t with
          | true =>
            go_wp2_with fail
            go_roundw
            case rel =>
              refine ⟨k, l, x, by omega, HX, rfl, rfl, Lib.hid ?_, X4, B4⟩
              have h := HH.out
              rw [halve, ← HX.out, HR.out] at h
              exact h
            case measure => simp [Lib.intOf]; omega
          | false =>
            go_wp2_with fail
            go_roundw
            case rel =>
              refine ⟨k, x, m, hm, Lib.hid ?_, rfl, rfl, Lib.hid ?_, X4, B4⟩
              · have := HM.out
                have := HX.out
                have hp : 2 ^ (k + 1) = 2 ^ k + 2 ^ k := by rw [Nat.pow_succ]; omega
                omega
              · have h := HH.out
                rw [halve, ← HX.out, HR.out] at h
                exact h
            case measure => simp [Lib.intOf]; omega
set_option maxHeartbeats 8000000 in
theorem root2_any (p : Nat) (hp : p < 512) (w : World) : Calls Tryd.prog 35 #[.int .u64 (p : Int), .int .i64 2] w fun e w' => e = .returned (u (rootOf 2 p)) ∧ Below w.heap.size w w' := by
  obtain ⟨q, hq⟩ : ∃ q, q = p * 4294967296 := ⟨_, rfl⟩
  have HE := Lib.hid (triN_at p hp q hq)
  have v1 : IntKind.u64.wrap ((p : Int) * 2 ^ 32) = (q : Int) := by rw [wrap_u64]; omega
  have v2 : IntKind.u64.wrap ((p : Int) * 4294967296) = (q : Int) := by rw [wrap_u64]; omega
  have HQ := Lib.hid hq
  clear hq
  have X0 : Hid (Box (w.alloc (.cells #[.int .u64 0, .int .u64 0, .int .u64 0] 89)) w.heap.size 89 #[.int .u64 0, .int .u64 0, .int .u64 0]) := Lib.hid (heap_alloc_new w _)
  obtain ⟨w1, hw1⟩ : ∃ q, q = (w.alloc (.cells #[.int .u64 0, .int .u64 0, .int .u64 0] 89)).setRow w.heap.size #[.int .u64 0, .int .u64 (p : Int), .int .u64 0] := ⟨_, rfl⟩
  have X1 : Hid (Box w1 w.heap.size 89 #[.int .u64 0, .int .u64 (p : Int), .int .u64 0]) := Lib.hid (by rw [hw1]; exact setRow_heap _ _ _ _ _ _ X0.out)
  have B1 : Hid (Below w.heap.size w w1) := Lib.hid (by rw [hw1]; exact below_row ((Below.refl _ _).alloc (Nat.le_refl _) _) (Nat.le_refl _) _)
  go_enter Tryd.func35, Tryd.ntmps35
  go_upto_region 2 with (refine wpList_store_row rfl 89 (.tmp 5) (.tmp 11) rfl w.heap.size #[.int .u64 0, .int .u64 (p : Int), .int .u64 0] rfl rfl 89 _ X0.out (info89 _ rfl) rfl (by simp [Value.oneCell']) ?_)
  rw [← hw1]
  clear hw1 X0
  have X2 : Hid (Box w1 w.heap.size 89 (triN (p * 18446744073709551616))) := Lib.hid (by rw [HE.out.1]; exact X1.out)
  have B2 := B1
  clear X1 B1
  go_upto_region 4 with fail
  obtain ⟨GG, hGG⟩ : ∃ z, z = p * 18446744073709551616 := ⟨_, rfl⟩
  rw [← hGG] at X2
  have hGb : GG < 6277101735386680763835789423207666416102355444464034512896 := by omega
  have HG := Lib.hid hGG
  have HGB := Lib.hid hGb
  clear hGG hGb HE HQ v1 v2
  go_wp2_with fail
  go_loopw [6, 7, 8, 9, 17, 18, 19, 20, 21, 22, 23, 24, 25, 26, 27, 28, 29, 30, 31, 32, 33, 34, 35, 36, 37] (fun lo hi _ _ _ _ _ _ _ _ _ _ _ _ _ _ _ _ _ _ _ _ _ _ _ W => ∃ k l m : Nat, m ≤ 274877906944 ∧ Hid (m = l + 2 ^ k) ∧ lo = .int .u64 (l : Int) ∧ hi = .int .u64 (m : Int) ∧ Hid (halve (rootB 2 p) k l = halve (rootB 2 p) 38 0) ∧ Hid (Box W w.heap.size 89 (triN GG)) ∧ Hid (Below w.heap.size w W)) (fun lo hi _ _ _ _ _ _ _ _ _ _ _ _ _ _ _ _ _ _ _ _ _ _ _ _ => (Lib.intOf hi - Lib.intOf lo).toNat)
  case atStart => exact ⟨38, 0, 274877906944, by omega, Lib.hid (by decide), rfl, rfl, Lib.hid rfl, X2, B2⟩
  case round =>
    clear X2 B2
    obtain ⟨k, l, m, hm, HM, rfl, rfl, HH, X2, B2⟩ := hrel
    obtain ⟨wq, hwq⟩ : ∃ q, q = wr := ⟨_, rfl⟩
    rw [← hwq] at X2 B2 ⊢
    clear hwq
    cases k with
    | zero =>
      have c1 : l ≤ m := by have := HM.out; omega
      have c2 : m ≤ l + 1 := by have := HM.out; omega
      go_wp2_with fail
      go_ret
      have hz : halve (rootB 2 p) 0 l = l := rfl
      have h0 := HH.out
      rw [hz] at h0
      exact ⟨ret_u (by unfold rootOf; rw [← h0]; rfl), B2.out⟩
    | succ k =>
      obtain ⟨x, hx⟩ : ∃ x, x = l + 2 ^ k := ⟨_, rfl⟩
      have hp : 2 ^ (k + 1) = 2 ^ k + 2 ^ k := by rw [Nat.pow_succ]; omega
      have h0 : 0 < 2 ^ k := Nat.two_pow_pos k
      have c1 : l < x := by omega
      have c2 : x < m := by have := HM.out; omega
      have c3 : ((l : Int) + (m : Int)) / 2 = (x : Int) := by have := HM.out; omega
      have HX := Lib.hid hx
      have HPW : Hid (∀ j, j ≤ 2 → x ^ j < 6277101735386680763835789423207666416102355444464034512896) := Lib.hid (fun j hj => by
        have h1 : x ^ j ≤ 274877906944 ^ j := Nat.pow_le_pow_left (by omega) j
        have h2 : 274877906944 ^ j ≤ 274877906944 ^ 2 := Nat.pow_le_pow_right (by omega) hj
        omega)
      clear hx hp h0
      have Y0 : Hid (Box (wq.alloc (.cells #[.int .u64 0, .int .u64 0, .int .u64 0] 89)) wq.heap.size 89 #[.int .u64 0, .int .u64 0, .int .u64 0]) := Lib.hid (heap_alloc_new wq _)
      obtain ⟨w3, hw3⟩ : ∃ z, z = (wq.alloc (.cells #[.int .u64 0, .int .u64 0, .int .u64 0] 89)).setRow wq.heap.size #[.int .u64 1, .int .u64 0, .int .u64 0] := ⟨_, rfl⟩
      have Y9 : Hid (Box w3 wq.heap.size 89 (triN (x ^ 0))) := Lib.hid (by rw [hw3, Nat.pow_zero, triN_1]; exact setRow_heap _ _ _ _ _ _ Y0.out)
      have b3 : Below wq.heap.size wq w3 := by rw [hw3]; exact below_row ((Below.refl _ _).alloc (Nat.le_refl _) _) (Nat.le_refl _) _
      go_upto_region 8 with (refine wpList_store_row rfl 89 (.tmp 9) (.tmp 25) rfl wq.heap.size #[.int .u64 1, .int .u64 0, .int .u64 0] rfl rfl 89 _ Y0.out (info89 _ rfl) rfl (by simp [Value.oneCell']) ?_)
      rw [← hw3]
      (try go_frame)
      have c5 : decide ((1 : Int) < (m : Int) - (l : Int)) = true := decide_eq_true (by omega)
      simp only [c3, c5]
      clear hw3 Y0
      have B3 := Lib.hid (bch B2.out b3)
      have X3 := Lib.hid (X2.out.below b3 X2.out.lt)
      have HLT : Hid (w.heap.size < wq.heap.size) := Lib.hid X2.out.lt
      obtain ⟨g9, hg9⟩ : ∃ z, z = wq.heap.size := ⟨_, rfl⟩
      rw [← hg9] at Y9 HLT ⊢
      clear b3 hg9 X2 B2
      go_wp2_with fail
      go_loopw [27, 28, 29, 30, 31, 32] (fun i _ _ _ _ _ W => ∃ j : Nat, j ≤ 2 ∧ i = .int .i64 (j : Int) ∧ Hid (Box W w.heap.size 89 (triN GG)) ∧ Hid (Box W g9 89 (triN (x ^ j))) ∧ Hid (Below w.heap.size w W)) (fun i _ _ _ _ _ _ => 2 - (Lib.intOf i).toNat)
      case atStart => exact ⟨0, by omega, rfl, X3, Y9, B3⟩
      case round =>
        clear X3 Y9 B3
        obtain ⟨j, hj, rfl, X3, Y9, B3⟩ := hrel
        obtain ⟨wi, hwi⟩ : ∃ q, q = wr := ⟨_, rfl⟩
        rw [← hwi] at X3 Y9 B3 ⊢
        clear hwi
        by_cases hlt : j < 2
        · have j1 : (j : Int) < 2 := by omega
          have j4 : IntKind.i64.wrap ((j : Int) + 1) = (j : Int) + 1 := IntWalk.i64_in _ (by omega)
          have HTM := Lib.hid (rtimes_any (x ^ j) x (HPW.out j hj) (by omega) wi)
          rw [← Nat.pow_succ] at HTM
          go_wp2_with (first
            | (refine wpList_load_row rfl 89 (.tmp 9) rfl g9 rfl 89 (triN (x ^ j)) (0, 0) (.array 3 50) Y9.out Tryd.underlying89 rfl (info89 _ rfl) ?_)
            | fail)
          refine HTM.out.mono ?_
          rintro e w4 ⟨rfl, hb⟩
          have Y4 := Lib.hid (Y9.out.below hb Y9.out.lt)
          have X4 := Lib.hid (X3.out.below hb X3.out.lt)
          have B4 := Lib.hid (bch B3.out hb)
          clear HTM hb
          obtain ⟨w5, hw5⟩ : ∃ z, z = w4.setRow g9 (triN (x ^ (j + 1))) := ⟨_, rfl⟩
          have b5 : Below g9 w4 w5 := by rw [hw5]; exact below_row (Below.refl _ _) (Nat.le_refl _) _
          have Y5 : Hid (Box w5 g9 89 (triN (x ^ (j + 1)))) := Lib.hid (by rw [hw5]; exact setRow_heap _ _ _ _ _ _ Y4.out)
          have X5 := Lib.hid (X4.out.below b5 HLT.out)
          have B5 : Hid (Below w.heap.size w w5) := Lib.hid (by rw [hw5]; exact below_row B4.out (Nat.le_of_lt HLT.out) _)
          go_wp2_with (first
            | (refine wpList_store_row rfl 89 (.tmp 9) (.tmp 31) rfl g9 (triN (x ^ (j + 1))) rfl rfl 89 _ Y4.out (info89 _ rfl) rfl (triN_one _) ?_; rw [← hw5]; clear hw5 b5 Y4 X4 B4)
            | fail)
          go_roundw
          case rel => exact ⟨j + 1, hlt, by go_num, X5, Y5, B5⟩
          case measure => simp [Lib.intOf]; omega
        · have j1 : ¬ ((j : Int) < 2) := by omega
          obtain rfl : j = 2 := by omega
          obtain ⟨t, ht⟩ : ∃ t, t = decide (GG < x ^ 2) := ⟨_, rfl⟩
          have HL := Lib.hid (rless_any GG (x ^ 2) HGB.out (HPW.out 2 (Nat.le_refl _)) wi)
          rw [← ht] at HL
          have HT := Lib.hid ht
          clear ht
          go_wp2_with (first
            | (refine wpList_load_row rfl 89 (.tmp 5) rfl w.heap.size rfl 89 (triN GG) (0, 0) (.array 3 50) X3.out Tryd.underlying89 rfl (info89 _ rfl) ?_)
            | (refine wpList_load_row rfl 89 (.tmp 9) rfl g9 rfl 89 (triN (x ^ 2)) (0, 0) (.array 3 50) Y9.out Tryd.underlying89 rfl (info89 _ rfl) ?_)
            | fail)
          refine HL.out.mono ?_
          rintro e w4 ⟨rfl, hb⟩
          have X4 := Lib.hid (X3.out.below hb X3.out.lt)
          have B4 := Lib.hid (bch B3.out hb)
          have HR : Hid (rootB 2 p x = !t) := Lib.hid (by
            rw [HT.out]
            unfold rootB
            rw [← decide_not, decide_eq_decide]
            have := HG.out
            omega)
          clear HL hb HT X3 Y9 B3
          cases t with
          | true =>
            go_wp2_with fail
            go_roundw
            case rel =>
              refine ⟨k, l, x, by omega, HX, rfl, rfl, Lib.hid ?_, X4, B4⟩
              have h := HH.out
              rw [halve, ← HX.out, HR.out] at h
              exact h
            case measure => simp [Lib.intOf]; omega
          | false =>
            go_wp2_with fail
            go_roundw
            case rel =>
              refine ⟨k, x, m, hm, Lib.hid ?_, rfl, rfl, Lib.hid ?_, X4, B4⟩
              · have := HM.out
                have := HX.out
                have hp : 2 ^ (k + 1) = 2 ^ k + 2 ^ k := by rw [Nat.pow_succ]; omega
                omega
              · have h := HH.out
                rw [halve, ← HX.out, HR.out] at h
                exact h
            case measure => simp [Lib.intOf]; omega
end Go.Proofs.YtkenbppoldfecaaDoor
