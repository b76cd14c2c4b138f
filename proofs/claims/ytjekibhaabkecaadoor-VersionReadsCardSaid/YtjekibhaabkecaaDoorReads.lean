/- Proved here: VersionReads of puncheonlaw04 returns true for every row of texts, wherever the table of the powers of ten stands. -/
import Derived.Test.YtjekibhaabkecaaDoorRefRd
namespace Go.Proofs.YtjekibhaabkecaaDoor
open Go.RowKit Go.Shelf

/-- A row of texts that can be read. -/
def RdS (w : World) (x : Value) (l : List ByteArray) : Prop :=
  ∃ a c, x = .slice a l.length c ∧ l.length ≤ c ∧ c ≤ maxLen ∧ (0 < l.length → ∃ g o, a = some ⟨g, o, none⟩ ∧ g < w.heap.size ∧ ∀ (j : Nat) (s : ByteArray), l[j]? = some s → w.cell? ⟨g, o + j, none⟩ = some (.string s))
theorem RdS.nil (w : World) : RdS w (.slice none 0 0) [] := ⟨none, 0, rfl, Nat.le_refl _, Nat.zero_le _, fun h => absurd h (Nat.lt_irrefl _)⟩

set_option maxRecDepth 100000 in
set_option maxHeartbeats 4000000 in
theorem reads_law (l : List ByteArray) (sl : Value) (w : World) (hsl : RdS w sl l) (hT : TabW w) : Calls Tryd.prog 3 #[sl] w fun e w' => e = .returned (.bool true) ∧ Below w.heap.size w w' := by
  obtain ⟨a, c, rfl, hlc, hcm, hcell⟩ := hsl
  have HW := Lib.hid (wakes_any w hT)
  have HC := Lib.hid hcell
  obtain ⟨n, hn⟩ : ∃ n, n = l.length := ⟨_, rfl⟩
  rw [← hn] at hlc HC ⊢
  have HN := Lib.hid hn
  unfold maxLen at hcm
  clear hn hT hcell
  go_enter Tryd.func3, Tryd.ntmps3
  go_wp2_with fail
  refine HW.out.mono ?_
  rintro e w1 ⟨rfl, hb⟩
  have B1 := Lib.hid hb
  clear HW hb
  go_wp2_with fail
  go_loopw [3, 4, 5, 6, 7, 8, 13, 14, 15, 16, 17, 18, 19, 20, 21, 22, 23, 24, 25, 26, 27, 28, 29, 30, 31, 32, 33, 34, 35, 36, 37, 38, 39, 40, 41, 42, 43, 44, 45, 46, 47, 48, 49, 50, 51, 52] (fun _ _ _ _ _ _ i _ _ _ _ _ _ _ _ _ _ _ _ _ _ _ _ _ _ _ _ _ _ _ _ _ _ _ _ _ _ _ _ _ _ _ _ _ _ _ W => ∃ k : Nat, k ≤ n ∧ k ≤ 20 ∧ i = .int .i64 k ∧ Hid (Below w.heap.size w W)) (fun _ _ _ _ _ _ i _ _ _ _ _ _ _ _ _ _ _ _ _ _ _ _ _ _ _ _ _ _ _ _ _ _ _ _ _ _ _ _ _ _ _ _ _ _ _ _ => n - (Lib.intOf i).toNat)
  case atStart => exact ⟨0, Nat.zero_le _, Nat.zero_le _, rfl, B1⟩
  case round =>
    obtain ⟨k, hk, hk20, rfl, HB⟩ := hrel
    clear B1
    obtain ⟨wq, hwq⟩ : ∃ q, q = wr := ⟨_, rfl⟩
    rw [← hwq] at HB ⊢
    clear hwq
    by_cases hlt : k < n
    · obtain ⟨s, hs⟩ : ∃ v, l[k]? = some v := ⟨_, List.getElem?_eq_getElem (by have := HN.out; omega)⟩
      obtain ⟨g, o, rfl, hg, hc⟩ := HC.out (by omega)
      have r0 := (HB.out.cell (p := ⟨g, _, none⟩) hg).trans (hc k s hs)
      have k1 : (k : Int) < (n : Int) := by omega
      have k2 : (0 : Int) ≤ (k : Int) := by omega
      have k4 : IntKind.i64.wrap ((k : Int) + 1) = (k : Int) + 1 := IntWalk.i64_in _ (by omega)
      clear hc hs
      by_cases h20 : k = 20
      · have t20 : ((k : Int) == 20) = true := by simp [h20]
        clear h20
        go_wp2_with fail
        go_ret
        exact ⟨rfl, HB.out⟩
      · have t20 : ((k : Int) == 20) = false := by rw [beq_eq_false_iff_ne]; omega
        have k5 : k < 20 := by omega
        obtain ⟨q, hq⟩ : ∃ q, q = min s.size 60 := ⟨_, rfl⟩
        have m1 : (0 : Int) ≤ (q : Int) := by omega
        have m2 : (q : Int) ≤ (s.size : Int) := by omega
        have m3 : min (s.size : Int) 60 = (q : Int) := by omega
        have hsz : (s.extract 0 q).size ≤ 140737488355328 := by simp; omega
        have HRR : Hid (∀ W, Calls Tryd.prog 11 #[.string (s.extract 0 q)] W (RefR (s.extract 0 q) W)) := Lib.hid (fun W => rread_any _ hsz W)
        have HRD := Lib.hid (fun W => Read_any (s.extract 0 q) hsz W)
        obtain ⟨y, hy⟩ : ∃ y, y = readO (s.extract 0 q) := ⟨_, rfl⟩
        have HY := Lib.hid hy
        rw [← hy] at HRD
        obtain ⟨v, x⟩ := y
        dsimp only at HRD
        clear h20 hq hsz hy
        go_wp2_with fail
        refine (HRD.out _).mono ?_
        rintro e w2 ⟨rfl, hb⟩
        have B2 := Lib.hid (bch HB.out hb)
        clear HB hb HRD r0
        have X0 : Hid (Box (w2.alloc (.cells Ver.zero.arr 26)) w2.heap.size 26 Ver.zero.arr) := Lib.hid box_new
        obtain ⟨w3, hw3⟩ : ∃ q, q = (w2.alloc (.cells Ver.zero.arr 26)).setRow w2.heap.size v.arr := ⟨_, rfl⟩
        have X3 : Hid (Box w3 w2.heap.size 26 v.arr) := Lib.hid (by rw [hw3]; exact X0.out.row _)
        have B3 : Hid (Below w.heap.size w w3) := Lib.hid (by rw [hw3]; exact below_row (B2.out.alloc B2.out.size _) B2.out.size _)
        go_upto_region 9 with (first
          | (with_reducible refine wpList_zero rfl 26 rfl Ver.zero.arr zero26 ?_)
          | (refine wpList_store_row rfl 26 (.tmp 5) (.tmp 28) rfl w2.heap.size v.arr rfl rfl 26 _ X0.out (info26 _) rfl (arr_one _) ?_))
        rw [← hw3]
        clear hw3 X0 B2
        go_wp2_with fail
        refine (HRR.out _).mono ?_
        rintro e w4 ⟨v2, ok, rfl, hr1, hr2, hb⟩
        have X4 := Lib.hid (X3.out.on hb)
        have B4 := Lib.hid (bch B3.out hb)
        have HE : Hid ((ok = true ∧ v = v2 ∧ x = 0) ∨ (ok = false ∧ v = v2 ∧ x = 140)) := Lib.hid (by
          have e := HY.out
          unfold readO at e
          rw [hr1] at e
          cases ok with
          | true =>
            rw [if_pos rfl] at e
            cases e
            exact .inl ⟨rfl, rfl, rfl⟩
          | false =>
            rw [if_neg (by decide)] at e
            cases e
            exact .inr ⟨rfl, (hr2 rfl).symm, rfl⟩)
        clear hr1 hr2 hb X3 B3 HRR HY
        have l4 := X4.out.lt
        have Y0 : Hid (Box (w4.alloc (.cells Ver.zero.arr 26)) w4.heap.size 26 Ver.zero.arr) := Lib.hid box_new
        obtain ⟨w5, hw5⟩ : ∃ q, q = (w4.alloc (.cells Ver.zero.arr 26)).setRow w4.heap.size v2.arr := ⟨_, rfl⟩
        have Y5 : Hid (Box w5 w4.heap.size 26 v2.arr) := Lib.hid (by rw [hw5]; exact Y0.out.row _)
        have X5 : Hid (Box w5 w2.heap.size 26 v.arr) := Lib.hid (by rw [hw5]; exact (X4.out.alloc _).far_row (by omega) _)
        have B5 : Hid (Below w.heap.size w w5) := Lib.hid (by rw [hw5]; exact below_row (B4.out.alloc B4.out.size _) B4.out.size _)
        go_upto_region 10 with (first
          | (with_reducible refine wpList_zero rfl 26 rfl Ver.zero.arr zero26 ?_)
          | (refine wpList_store_row rfl 26 (.tmp 7) (.tmp 33) rfl w4.heap.size v2.arr rfl rfl 26 _ Y0.out (info26 _) rfl (arr_one _) ?_))
        rw [← hw5]
        clear hw5 Y0 X4 B4
        have eqf : ∀ W, (Op.equalIn 10000 26 (.agg v2.arr) (.agg v2.arr)).run Tryd.prog W = .ok true W := fun W => (eq26 v2 v2 W).trans (by rw [decide_eq_true rfl])
        have hgd : Tryd.prog.eqGuardType Tryd.prog.depth 26 = false := by kernel_rfl
        rcases HE.out with ⟨ho, hv, hx⟩ | ⟨ho, hv, hx⟩
        · subst ho hv hx
          have e0 : ((0 : Int) == 0) = true := rfl
          have e2 : (true != true) = false := rfl
          clear HE
          go_wp2_with (first
            | (refine wpList_load_row rfl 26 (.tmp 5) rfl w2.heap.size rfl 26 v.arr (0, 0) _ X5.out Tryd.underlying26 rfl (info26 _) ?_)
            | (refine wpList_load_row rfl 26 (.tmp 7) rfl w4.heap.size rfl 26 v.arr (0, 0) _ Y5.out Tryd.underlying26 rfl (info26 _) ?_))
          go_roundw
          case rel => exact ⟨k + 1, hlt, by omega, by go_num, B5⟩
          case measure => simp [Lib.intOf]; omega
        · subst ho hv hx
          have e0 : ((140 : Int) == 0) = false := rfl
          have e1 : ((140 : Int) != 140) = false := rfl
          have e2 : (Bool.false != Bool.false) = Bool.false := rfl
          clear HE
          go_wp2_with (first
            | (refine wpList_load_row rfl 26 (.tmp 5) rfl w2.heap.size rfl 26 v.arr (0, 0) _ X5.out Tryd.underlying26 rfl (info26 _) ?_)
            | (refine wpList_load_row rfl 26 (.tmp 7) rfl w4.heap.size rfl 26 v.arr (0, 0) _ Y5.out Tryd.underlying26 rfl (info26 _) ?_))
          go_roundw
          case rel => exact ⟨k + 1, hlt, by omega, by go_num, B5⟩
          case measure => simp [Lib.intOf]; omega
    · have k1 : ¬ ((k : Int) < (n : Int)) := by omega
      go_wp2_with fail
      go_ret
      exact ⟨rfl, HB.out⟩
end Go.Proofs.YtjekibhaabkecaaDoor
