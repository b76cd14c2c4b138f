/- Proved here: squareBelow, cubeBelow, behindPoint and the two closures of package sha: what is found by halving. -/
import Derived.Test.YtkenbppoldfecaaDoorWord
namespace Go.Proofs.YtkenbppoldfecaaDoor
open Go.RowKit Go.Shelf

theorem wrap_u64 (n : Int) : IntKind.u64.wrap n = n % 18446744073709551616 := rfl
theorem ret_b {a b : Bool} (h : a = b) : Ending.returned (.bool a) = .returned (.bool b) := by rw [h]

theorem square_any (x p : Nat) (hx : x < 68719476736) (w : World) : Calls Tryd.prog 44 #[.int .u64 (x : Int), .int .u64 (p : Int)] w fun e w' => e = .returned (.bool (squareB p x)) ∧ w = w' := by
  go_enter Tryd.func44, Tryd.ntmps44
  go_wp2_with (go_at_call 47; refine (Tryd.bits_Mul64 x x (by omega) (by omega) _).mono ?_; rintro e w' ⟨rfl, rfl⟩)
  go_ret
  exact ⟨ret_b (by unfold squareB; rw [decide_eq_decide]; omega), rfl⟩

theorem cube_any (x p : Nat) (hx : x < 68719476736) (hp : p < 512) (w : World) : Calls Tryd.prog 33 #[.int .u64 (x : Int), .int .u64 (p : Int)] w fun e w' => e = .returned (.bool (cubeB p x)) ∧ w = w' := by
  have h1 : x * x % 18446744073709551616 < 18446744073709551616 := Nat.mod_lt _ (by decide)
  have h2 : x * x / 18446744073709551616 ≤ 256 := by
    have : x * x ≤ 68719476736 * 68719476736 := Nat.mul_le_mul (by omega) (by omega)
    omega
  go_enter Tryd.func33, Tryd.ntmps33
  go_wp2_with fail
  refine (Tryd.bits_Mul64 x x (by omega) (by omega) _).mono ?_
  rintro e w' ⟨rfl, rfl⟩
  go_wp2_with fail
  refine (Tryd.bits_Mul64 (x * x % 18446744073709551616) x h1 (by omega) _).mono ?_
  rintro e w' ⟨rfl, rfl⟩
  go_wp2_with fail
  go_ret
  refine ⟨ret_b ?_, rfl⟩
  have e1 : (x : Int) * x / 18446744073709551616 * x = ((x * x / 18446744073709551616 * x : Nat) : Int) := rfl
  have e2 : (x : Int) * x % 18446744073709551616 * x / 18446744073709551616 = ((x * x % 18446744073709551616 * x / 18446744073709551616 : Nat) : Int) := rfl
  have b1 : x * x / 18446744073709551616 * x ≤ 256 * 68719476736 := Nat.mul_le_mul h2 (by omega)
  have b2 : x * x % 18446744073709551616 * x / 18446744073709551616 ≤ x := by
    rw [Nat.div_le_iff_le_mul_add_pred (by decide)]
    have := Nat.mul_le_mul_right x (Nat.le_of_lt h1)
    omega
  rw [e1, e2, wrap_u64, wrap_u64]
  unfold cubeB
  rw [decide_eq_decide]
  omega

/-- What the closure tells of each number below the bound, in this world. -/
def Tells (f : Nat) (cap : Array Value) (g : Nat → Bool) (w : World) : Prop := ∀ x : Nat, x < 34359738368 → Calls Tryd.prog f (#[.int .u64 (x : Int)] ++ cap) w fun e w' => e = .returned (.bool (g x)) ∧ w = w'

theorem cubeClosure (p b : Nat) (hp : p < 512) (w : World) (hc : w.cell? ⟨b, 0, none⟩ = some (.int .u64 (p : Int))) : Tells 32 #[.pointer (some ⟨b, 0, none⟩)] (cubeB p) w := by
  intro x hx
  go_enter Tryd.func32, Tryd.ntmps32
  go_wp2_with (go_at_call 33; refine (cube_any x p (by omega) hp _).mono ?_; rintro e w' ⟨rfl, rfl⟩)
  go_ret
  exact ⟨rfl, rfl⟩
theorem squareClosure (p b : Nat) (w : World) (hc : w.cell? ⟨b, 0, none⟩ = some (.int .u64 (p : Int))) : Tells 43 #[.pointer (some ⟨b, 0, none⟩)] (squareB p) w := by
  intro x hx
  go_enter Tryd.func43, Tryd.ntmps43
  go_wp2_with (go_at_call 44; refine (square_any x p (by omega) _).mono ?_; rintro e w' ⟨rfl, rfl⟩)
  go_ret
  exact ⟨rfl, rfl⟩

theorem tells_eq {f b x : Nat} {g : Nat → Bool} {w : World} {t : Bool} (h : Tells f #[.pointer (some ⟨b, 0, none⟩)] g w) (hx : x < 34359738368) (ht : g x = t) : Calls Tryd.prog f #[.int .u64 (x : Int), .pointer (some ⟨b, 0, none⟩)] w fun e w' => e = .returned (.bool t) ∧ w = w' := by
  rw [← ht]
  exact h x hx

set_option maxHeartbeats 1000000 in
theorem behind_any (f : Nat) (hf : f = 32 ∨ f = 43) (b : Nat) (g : Nat → Bool) (w : World) (h : Tells f #[.pointer (some ⟨b, 0, none⟩)] g w) : Calls Tryd.prog 31 #[.func (.func f) #[] #[.pointer (some ⟨b, 0, none⟩)]] w fun e w' => e = .returned (u (BitVec.ofNat 32 (halve g 35 0))) ∧ w = w' := by
  have H := Lib.hid h
  clear h
  rcases hf with rfl | rfl
  all_goals
    go_enter Tryd.func31, Tryd.ntmps31
    go_wp2
    go_loop [3, 4, 5, 6, 7, 8, 9, 10, 11, 12, 13, 14, 15, 16, 17, 18] (fun lo hi _ _ _ _ _ _ _ _ _ _ _ _ _ _ => ∃ k l m : Nat, m ≤ 34359738368 ∧ Hid (m = l + 2 ^ k) ∧ lo = .int .u64 (l : Int) ∧ hi = .int .u64 (m : Int) ∧ Hid (halve g k l = halve g 35 0)) (fun lo hi _ _ _ _ _ _ _ _ _ _ _ _ _ _ => (Lib.intOf hi - Lib.intOf lo).toNat)
    case atStart => exact ⟨35, 0, 34359738368, by omega, Lib.hid (by decide), rfl, rfl, Lib.hid rfl⟩
    case round =>
      obtain ⟨k, l, m, hm, HM, rfl, rfl, HH⟩ := hrel
      cases k with
      | zero =>
        have c1 : l ≤ m := by have := HM.out; omega
        have c2 : m ≤ l + 1 := by have := HM.out; omega
        go_wp2
        go_ret
        have hz : halve g 0 l = l := rfl
        have := HH.out
        rw [hz] at this
        exact ⟨ret_u (by rw [← this]; rfl), rfl⟩
      | succ k =>
        obtain ⟨x, hx⟩ : ∃ x, x = l + 2 ^ k := ⟨_, rfl⟩
        have hp : 2 ^ (k + 1) = 2 ^ k + 2 ^ k := by rw [Nat.pow_succ]; omega
        have h0 : 0 < 2 ^ k := Nat.two_pow_pos k
        have c1 : l < x := by omega
        have c2 : x < m := by have := HM.out; omega
        have c3 : ((l : Int) + (m : Int)) / 2 = (x : Int) := by have := HM.out; omega
        have HX := Lib.hid hx
        clear hx hp h0
        by_cases hg : g x = true
        · have HG := Lib.hid hg
          clear hg
          go_wp2_with (fail)
          refine (tells_eq H.out (x := x) (by omega) HG.out).mono ?_
          rintro e w' ⟨rfl, rfl⟩
          go_wp2_with (fail)
          go_round
          case rel =>
            refine ⟨k, x, m, hm, Lib.hid ?_, rfl, rfl, Lib.hid ?_⟩
            · have := HM.out
              have := HX.out
              have hp : 2 ^ (k + 1) = 2 ^ k + 2 ^ k := by rw [Nat.pow_succ]; omega
              omega
            · have := HH.out
              rw [halve, ← HX.out, if_pos HG.out] at this
              exact this
          case measure => simp [Lib.intOf]; omega
        · have HG := Lib.hid (Bool.eq_false_iff.2 hg)
          clear hg
          go_wp2_with (fail)
          refine (tells_eq H.out (x := x) (by omega) HG.out).mono ?_
          rintro e w' ⟨rfl, rfl⟩
          go_wp2_with (fail)
          go_round
          case rel =>
            refine ⟨k, l, x, by omega, HX, rfl, rfl, Lib.hid ?_⟩
            have := HH.out
            rw [halve, ← HX.out, HG.out] at this
            exact this
          case measure => simp [Lib.intOf]; omega
end Go.Proofs.YtkenbppoldfecaaDoor
