/- Proved here: Primes of puncheonref03: the first 64 ones. -/
import Derived.Test.YtkenbppoldfecaaDoorRefO
namespace Go.Proofs.YtkenbppoldfecaaDoor
open Go.RowKit Go.Shelf

/-- The primes below a number, and: does none of the numbers from two on, below one, divide another? -/
def belowP (n : Nat) : List Nat := primesL.filter fun q => decide (q < n)
def allB (d n : Nat) : Bool := (List.range d).all fun q => decide (q < 2) || (n % q != 0)
theorem allB_two (n : Nat) : allB 2 n = true := by simp [allB, List.range, List.range.loop]
theorem allB_more (d n : Nat) (hd : 2 ≤ d) : allB (d + 1) n = (allB d n && (n % d != 0)) := by
  have h : decide (d < 2) = false := decide_eq_false (by omega)
  simp [allB, List.range_succ, h]
set_option maxRecDepth 100000 in
theorem below_all : ((List.range 312).all fun n => decide (n < 2) || (belowP (n + 1) == if allB n n then belowP n ++ [n] else belowP n)) = true := by decide +kernel
set_option maxRecDepth 100000 in
theorem below_len : ((List.range 313).all fun n => decide ((belowP n).length < 64) == decide (n < 312)) = true := by decide +kernel
theorem below_more (n : Nat) (h2 : 2 ≤ n) (hn : n < 312) : belowP (n + 1) = if allB n n then belowP n ++ [n] else belowP n := by
  have h := List.all_eq_true.1 below_all n (List.mem_range.2 hn)
  rw [show decide (n < 2) = false from decide_eq_false (by omega), Bool.false_or, beq_iff_eq] at h
  exact h
theorem below_lt (n : Nat) (hn : n < 313) : (belowP n).length < 64 ↔ n < 312 := by
  have h := List.all_eq_true.1 below_len n (List.mem_range.2 hn)
  rw [beq_iff_eq, decide_eq_decide] at h
  exact h
theorem below_end : belowP 312 = primesL := by decide +kernel
def numsV (l : List Nat) : List Value := l.map fun q : Nat => .int .u64 (q : Int)
theorem own_sl {W : World} {B : Nat} {t : TypeId} {s : Nat} {v : Value} {n : Nat} {xs : List Value} (h : W.ownsRow B t s v n xs) : ∃ a c, v = .slice a n c := by
  rcases h.2 with ⟨rfl, rfl⟩ | ⟨g, cap, cur, rfl, _⟩
  · exact ⟨_, _, rfl⟩
  · exact ⟨_, _, rfl⟩
theorem info50p : ∃ i0, Tryd.prog.info? 50 = some i0 ∧ i0.zero = some (.int .u64 0) ∧ i0.size = 1 ∧ i0.bytes = 8 := ⟨_, rfl, rfl, rfl, rfl⟩

theorem cell_new1 (W : World) (v : Value) (t : TypeId) : ∀ (j : Nat) (u : Value), [v][j]? = some u → (W.alloc (.cells #[v] t)).cell? ((⟨W.heap.size, 0, none⟩ : Addr).add j) = some u := fun j u h => by
  have hj := (List.getElem?_eq_some_iff.1 h).1
  simp at hj
  subst hj
  simp at h
  subst h
  exact (show Box _ _ _ _ from heap_alloc_new W _).cell rfl
set_option maxHeartbeats 8000000 in
theorem primes_any (w : World) : Calls Tryd.prog 34 #[] w fun e w' => ∃ v, e = .returned v ∧ w'.ownsRow w.heap.size 50 1 v 64 primesV ∧ Below w.heap.size w w' := by
  obtain ⟨i0, hi, hz0, hz1, hz2⟩ := info50p
  go_enter Tryd.func34, Tryd.ntmps34
  go_wp2_with fail
  go_loopw [1, 2, 3, 4, 5, 6, 7, 8, 9, 10, 11, 12, 13, 14, 15, 16, 17, 18, 19, 20, 21, 22, 23, 24, 25, 26] (fun out n_ _ _ _ _ _ _ _ _ _ _ _ _ _ _ _ _ _ _ _ _ _ _ _ _ W => ∃ (a : Option Addr) (m c n : Nat), 2 ≤ n ∧ n < 313 ∧ m ≤ 64 ∧ out = .slice a m c ∧ n_ = .int .u64 (n : Int) ∧ Hid (m = (belowP n).length) ∧ Hid (W.ownsRow w.heap.size 50 1 (.slice a m c) m (numsV (belowP n))) ∧ Hid (Below w.heap.size w W)) (fun out n_ _ _ _ _ _ _ _ _ _ _ _ _ _ _ _ _ _ _ _ _ _ _ _ _ _ => (313 - Lib.intOf n_).toNat)
  case atStart => exact ⟨none, 0, 0, 2, by omega, by omega, by omega, rfl, rfl, Lib.hid (by decide), Lib.hid (World.ownsRow_nil _ _ _ _), Lib.hid (Below.refl _ _)⟩
  case round =>
    obtain ⟨a, m, c, n, h2, hn, hm, rfl, rfl, HM, HO, HB⟩ := hrel
    obtain ⟨wq, hwq⟩ : ∃ q, q = wr := ⟨_, rfl⟩
    rw [← hwq] at HO HB ⊢
    clear hwq
    by_cases hlt : n < 312
    · have hm64 : m < 64 := by rw [HM.out]; exact (below_lt n hn).2 hlt
      have m1 : (m : Int) < 64 := by omega
      have n4 : IntKind.u64.wrap ((n : Int) + 1) = (n : Int) + 1 := by rw [wrap_u64]; omega
      go_wp2_with fail
      go_loopw [3, 4, 10, 11, 12, 13, 14, 15, 16, 17, 18, 19, 20, 21] (fun b d _ _ _ _ _ _ _ _ _ _ _ _ W => ∃ (t : Bool) (d_ : Nat), W = wq ∧ 2 ≤ d_ ∧ d_ ≤ n ∧ b = .bool t ∧ d = .int .u64 (d_ : Int) ∧ Hid (t = allB d_ n)) (fun b d _ _ _ _ _ _ _ _ _ _ _ _ _ => (n - Lib.intOf d).toNat)
      case atStart => exact ⟨true, 2, rfl, by omega, h2, rfl, rfl, Lib.hid (allB_two n).symm⟩
      case round =>
        obtain ⟨t, d, rfl, hd2, hdn, rfl, rfl, HT⟩ := hrel
        by_cases hdlt : d < n
        · have d1 : (d : Int) < (n : Int) := by omega
          have d4 : IntKind.u64.wrap ((d : Int) + 1) = (d : Int) + 1 := by rw [wrap_u64]; omega
          have d5 : ¬ (d : Int) = 0 := by omega
          have d6 : IntKind.u64.wrap ((n : Int) % (d : Int)) = (n : Int) % (d : Int) := by
            have := Int.emod_lt_of_pos (n : Int) (show (0 : Int) < d by omega)
            have := Int.emod_nonneg (n : Int) d5
            rw [wrap_u64]; omega
          obtain ⟨r, hr⟩ : ∃ r, r = (n % d != 0) := ⟨_, rfl⟩
          have HN : Hid ((t && r) = allB (d + 1) n) := Lib.hid (by rw [allB_more d n hd2, HT.out, hr])
          have r1 : ((n : Int) % (d : Int) != 0) = r := by
            rw [hr, Bool.eq_iff_iff, bne_iff_ne, bne_iff_ne]
            omega
          have r2 : ((n : Int) % (d : Int) == 0) = !r := by
            rw [← r1, bne]; simp
          clear hr
          cases t <;> cases r
          all_goals
            go_wp2_with fail
            go_roundw
            case rel => exact ⟨_, d + 1, by trivial, by omega, by omega, rfl, by go_num, Lib.hid HN.out⟩
            case measure => simp [Lib.intOf]; omega
        · have d1 : ¬ ((d : Int) < (n : Int)) := by omega
          obtain rfl : d = n := by omega
          have HBM := Lib.hid (below_more d h2 hlt)
          rw [← HT.out] at HBM
          cases t with
          | true =>
            have HB2 : Hid (belowP (d + 1) = belowP d ++ [d]) := Lib.hid (by rw [HBM.out, if_pos rfl])
            clear HBM
            have hm64' := hm64
            go_wp2_with (at_builtin; refine wpList_append_own _ rfl _ _ 74 rfl w.heap.size 50 i0 (.int .u64 0) 1 8 Tryd.underlying74 hi hz0 hz1 hz2 rfl (by decide) (.slice a m c) m (numsV (belowP d)) rfl (HO.out.alloc _) ⟨wr.heap.size, 0, none⟩ 1 1 [.int .u64 (d : Int)] rfl rfl (cell_new1 _ _ _) (by simp [Value.oneCell']) (by unfold maxLen; omega) (by omega) (by have := HB.out.size; simp; omega) ?_; intro v' w7 hown' hgrow _; have HO7 := Lib.hid hown'; have HG7 := Lib.hid hgrow; clear hown' hgrow; obtain ⟨a7, c7, rfl⟩ := own_sl HO7.out)
            have HB7 : Hid (Below w.heap.size w w7) := Lib.hid ((HB.out.alloc HB.out.size _).grown HG7.out (by have := HB.out.size; simp; omega) (fun k e => (HO.out.lt k e).1))
            have HO8 : Hid (w7.ownsRow w.heap.size 50 1 (.slice a7 (m + 1) c7) (m + 1) (numsV (belowP (d + 1)))) := Lib.hid (by rw [HB2.out]; unfold numsV; rw [List.map_append]; exact HO7.out)
            go_roundw
            case rel => exact ⟨a7, m + 1, c7, d + 1, by omega, by omega, by omega, rfl, by go_num, Lib.hid (by rw [HB2.out, List.length_append, ← HM.out]; rfl), HO8, HB7⟩
            case measure => simp [Lib.intOf]; omega
          | false =>
            have HB2 : Hid (belowP (d + 1) = belowP d) := Lib.hid (by rw [HBM.out, if_neg (by decide)])
            clear HBM
            go_wp2_with fail
            go_roundw
            case rel => exact ⟨a, m, c, d + 1, by omega, by omega, hm, rfl, by go_num, Lib.hid (by rw [HB2.out]; exact HM.out), Lib.hid (by rw [HB2.out]; exact HO.out), HB⟩
            case measure => simp [Lib.intOf]; omega
    · obtain rfl : n = 312 := by omega
      have hm64 : m = 64 := by rw [HM.out, below_end]; rfl
      subst hm64
      have HO2 : Hid (wq.ownsRow w.heap.size 50 1 (.slice a 64 c) 64 primesV) := Lib.hid (by have := HO.out; rw [below_end] at this; exact this)
      clear HO
      go_wp2_with fail
      go_ret
      exact ⟨_, rfl, HO2.out, HB.out⟩
end Go.Proofs.YtkenbppoldfecaaDoor
