/- Proved here: number of puncheonref04, for texts of at most 140737488355328 bytes. -/
import Derived.Test.YtjekibhaabkecaaDoorRefD
namespace Go.Proofs.YtjekibhaabkecaaDoor
open Go.RowKit Go.Shelf

/-- What number hands back: the number, how many bytes it has, and whether it is one. -/
def numS (l : Str) : Nat × Nat × Bool :=
  if 4 < (l.takeWhile dgB).length then (0, 0, false)
  else (val (l.takeWhile dgB), (l.takeWhile dgB).length, decide ((l.takeWhile dgB).length ≠ 0) && (decide ((l.takeWhile dgB).length = 1) || decide (l.getD 0 0 ≠ 48)))
theorem numS_long {l : Str} {k : Nat} (h : ∀ (j : Nat) (c : UInt8), j < k → l[j]? = some c → dgB c = true) (hk : k ≤ l.length) (h4 : 4 < k) : numS l = (0, 0, false) := by
  have e : k ≤ (l.takeWhile dgB).length := by
    have h2 : l = l.take k ++ l.drop k := (List.take_append_drop k l).symm
    rw [h2, List.takeWhile_append_of_pos (fun c hc => by
      obtain ⟨j, hj⟩ := List.mem_iff_getElem?.1 hc
      rw [List.getElem?_take] at hj
      split at hj
      · exact h j c (by assumption) hj
      · cases hj)]
    rw [List.length_append, List.length_take]
    omega
  unfold numS
  rw [if_pos (by omega)]
theorem numS_at {l : Str} {k : Nat} (h : ∀ (j : Nat) (c : UInt8), j < k → l[j]? = some c → dgB c = true) (hs : ∀ c, l[k]? = some c → dgB c = false) (hk : k ≤ l.length) (h4 : k ≤ 4) :
    numS l = (val (l.take k), k, decide (k ≠ 0) && (decide (k = 1) || decide (l.getD 0 0 ≠ 48))) := by
  obtain ⟨e1, _⟩ := all_take h hs
  have e2 : (l.takeWhile dgB).length = k := by rw [e1, List.length_take]; omega
  unfold numS
  rw [if_neg (by omega), e2, e1]
theorem ret_numS {a b : Nat} {t : Bool} {s r : ByteArray} {x : Nat × Nat × Bool} (h : x = (a, b, t)) (hr : r = s.extract b s.size) : Ending.returned (.tuple #[.int .i64 (a : Int), .string r, .bool t]) = .returned (.tuple #[.int .i64 (x.1 : Int), .string (s.extract x.2.1 s.size), .bool x.2.2]) := by
  rw [h, hr]
theorem whole (s : ByteArray) : s = s.extract 0 s.size := by
  apply ByteArray.ext
  apply Array.ext'
  rw [Lib.extract_to_end]
  rfl

set_option maxRecDepth 100000 in
set_option maxHeartbeats 4000000 in
theorem rnumber_any (s : ByteArray) (hs : s.size ≤ 140737488355328) (w : World) : Calls Tryd.prog 27 #[.string s] w fun e w' => e = .returned (.tuple #[.int .i64 ((numS s.data.toList).1 : Int), .string (s.extract (numS s.data.toList).2.1 s.size), .bool (numS s.data.toList).2.2]) ∧ Below w.heap.size w w' := by
  have hsl : s.data.toList.length = s.size := rfl
  have HSL := Lib.hid hsl
  clear hsl
  go_enter Tryd.func27, Tryd.ntmps27
  go_wp2_with fail
  go_loop [5, 6, 7, 8, 9, 10, 11, 12, 13, 14, 15, 16, 17, 18, 19, 20, 21, 22, 23, 24, 26, 27, 28, 29, 30, 31, 32, 33, 34, 35] (fun i v _ _ _ _ _ _ _ _ _ _ _ _ _ _ _ _ _ _ _ _ _ _ _ _ _ _ _ _ => ∃ k n : Nat, k ≤ s.size ∧ k ≤ 4 ∧ i = .int .i64 k ∧ v = .int .i64 n ∧ n ≤ 9999 ∧ n < 10 ^ k ∧ Hid (n = val (s.data.toList.take k)) ∧ Hid (∀ (j : Nat) (c : UInt8), j < k → s.data.toList[j]? = some c → dgB c = true)) (fun i _ _ _ _ _ _ _ _ _ _ _ _ _ _ _ _ _ _ _ _ _ _ _ _ _ _ _ _ _ => s.size - (Lib.intOf i).toNat)
  case atStart => exact ⟨0, 0, Nat.zero_le _, Nat.zero_le _, rfl, rfl, Nat.zero_le _, by decide, Lib.hid rfl, Lib.hid (fun j _ hj => absurd hj (Nat.not_lt_zero _))⟩
  case round =>
    obtain ⟨k, n, hk, hk4, rfl, rfl, hn, hnp, HV, HK⟩ := hrel
    by_cases hlt : k < s.size
    · obtain ⟨c, hc⟩ : ∃ c, s.data.toList[k]? = some c := ⟨_, List.getElem?_eq_getElem (by rw [HSL.out]; exact hlt)⟩
      have hix := run_byte_at s k hlt c hc
      have hki : (k : Int) < (s.size : Int) := by omega
      have HC := Lib.hid hc
      clear hc
      by_cases hd : dgB c = true
      · obtain ⟨e1, e2⟩ := (of_decide_eq_true hd : 48 ≤ c.toNat ∧ c.toNat ≤ 57)
        have HD := Lib.hid hd
        have d1 : decide ((c.toNat : Int) ≥ 48) = true := decide_eq_true (by omega)
        have d2 : decide ((c.toNat : Int) ≤ 57) = true := decide_eq_true (by omega)
        by_cases h4 : k = 4
        · have HN : Hid (numS s.data.toList = (0, 0, false)) := Lib.hid (numS_long (k := k + 1) (fun j x hj hx => by
            rcases Nat.lt_or_ge j k with h | h
            · exact HK.out j x h hx
            · obtain rfl : j = k := by omega
              have := HC.out.symm.trans hx
              cases this
              exact HD.out) (by rw [HSL.out]; omega) (by omega))
          have t4 : ((k : Int) == 4) = true := by simp [h4]
          clear hd h4 hnp
          go_wp2_with fail
          go_ret3
          exact ⟨ret_numS HN.out (whole s), Below.refl _ _⟩
        · have t4 : ((k : Int) == 4) = false := by rw [beq_eq_false_iff_ne]; omega
          have hp : 10 ^ k ≤ 1000 := by
            rcases (by omega : k = 0 ∨ k = 1 ∨ k = 2 ∨ k = 3) with rfl | rfl | rfl | rfl <;> decide
          obtain ⟨x, hx⟩ : ∃ x, x = 10 * n + (c.toNat - 48) := ⟨_, rfl⟩
          have hxp : x < 10 ^ (k + 1) := by rw [Nat.pow_succ]; omega
          have hx9 : x ≤ 9999 := by rw [Nat.pow_succ] at hxp; omega
          have HX : Hid (x = val (s.data.toList.take (k + 1))) := Lib.hid (by rw [take_snoc HC.out, val_snoc, ← HV.out, hx])
          have q1 : IntKind.i64.wrap (10 * (n : Int)) = 10 * (n : Int) := IntWalk.i64_in _ (by omega)
          have q2 : IntKind.u8.wrap ((c.toNat : Int) - 48) = (c.toNat : Int) - 48 := by
            have := IntWalk.u8_in ((c.toNat : Int) - 48) (by omega)
            exact this
          have q3 : 10 * (n : Int) + ((c.toNat : Int) - 48) = (x : Int) := by omega
          have q4 : IntKind.i64.wrap (x : Int) = (x : Int) := IntWalk.i64_in _ (by omega)
          clear hd hp hx hnp
          go_wp2_with fail
          go_round
          case rel => exact ⟨k + 1, x, hlt, by omega, by go_num, by go_num, hx9, hxp, HX, Lib.hid (fun j y hj hy => by
            rcases Nat.lt_or_ge j k with h | h
            · exact HK.out j y h hy
            · obtain rfl : j = k := by omega
              have := HC.out.symm.trans hy
              cases this
              exact HD.out)⟩
          case measure => simp [Lib.intOf]; omega
      · have hd0 : dgB c = false := by simpa using hd
        have HN : Hid (numS s.data.toList = (val (s.data.toList.take k), k, decide (k ≠ 0) && (decide (k = 1) || decide (s.data.toList.getD 0 0 ≠ 48)))) := Lib.hid (numS_at HK.out (fun x hx => by
          have := HC.out.symm.trans hx
          cases this
          exact hd0) hk hk4)
        have hcd : ¬ (48 ≤ c.toNat ∧ c.toNat ≤ 57) := of_decide_eq_false hd0
        clear hd hd0 HK hnp
        by_cases h1 : c.toNat < 48
        · have d1 : decide ((c.toNat : Int) ≥ 48) = false := decide_eq_false (by omega)
          clear hcd
          go_upto_region 7 with fail
          clear d1 h1 hki hlt hix
          obtain ⟨f, hf⟩ : ∃ f, f = decide (s.data.toList.getD 0 0 ≠ 48) := ⟨_, rfl⟩
          have HF := Lib.hid hf
          have p1 : (0 : Int) ≤ (k : Int) := by omega
          have p2 : (k : Int) ≤ (s.size : Int) := by omega
          clear hf
          by_cases k0 : k = 0
          · subst k0
            have HN2 : Hid (numS s.data.toList = (n, 0, false)) := Lib.hid (by rw [HN.out, ← HV.out]; rfl)
            clear HN HV
            go_quiet (fail)
            go_wp2
            go_ret3
            exact ⟨ret_numS HN2.out (whole s), below_drewN (Below.refl _ _) _⟩
          · have g0 : decide ((k : Int) > 0) = true := decide_eq_true (by omega)
            have g0' : (k : Int) > 0 := by omega
            by_cases k1 : k = 1
            · subst k1
              have HN2 : Hid (numS s.data.toList = (n, 1, true)) := Lib.hid (by rw [HN.out, ← HV.out]; rfl)
              clear HN HV k0
              go_quiet (fail)
              go_wp2
              go_ret3
              exact ⟨ret_numS HN2.out rfl, below_drewN (Below.refl _ _) _⟩
            · have g1 : ((k : Int) == 1) = false := by rw [beq_eq_false_iff_ne]; omega
              obtain ⟨c0, hc0⟩ : ∃ c, s.data.toList[0]? = some c := ⟨_, List.getElem?_eq_getElem (by rw [HSL.out]; omega)⟩
              have hix0 : ∀ W, (Instr.index 9 (.string s) (.int .i64 0)).run Tryd.prog W = .ok (.int .u8 (c0.toNat : Int)) W := fun W => run_byte_at s 0 (by omega) c0 hc0 W
              have hf48 : f = decide (c0 ≠ 48) := by rw [HF.out, getD_of hc0]
              have g2 : ((c0.toNat : Int) != 48) = f := by
                rw [hf48]
                by_cases h : c0 = 48
                · subst h; rfl
                · rw [decide_eq_true h]
                  have : c0.toNat ≠ 48 := fun e => h (UInt8.toNat_inj.1 e)
                  simp
                  omega
              have HN2 : Hid (numS s.data.toList = (n, k, f)) := Lib.hid (by
                rw [HN.out, ← HV.out, HF.out]
                simp [k0, k1])
              have g3 : 0 < k := by omega
              have g4 : decide (0 < k) = true := decide_eq_true g3
              have g5 : decide ((0 : Int) < (k : Int)) = true := decide_eq_true (by omega)
              clear HN HV hc0 hf48
              go_quiet (fail)
              go_wp2
              go_ret3
              exact ⟨ret_numS HN2.out rfl, below_drewN (Below.refl _ _) _⟩
        · have d1 : decide ((c.toNat : Int) ≥ 48) = true := decide_eq_true (by omega)
          have d2 : decide ((c.toNat : Int) ≤ 57) = false := decide_eq_false (by omega)
          clear hcd
          go_upto_region 7 with fail
          clear d1 d2 h1 hki hlt hix
          obtain ⟨f, hf⟩ : ∃ f, f = decide (s.data.toList.getD 0 0 ≠ 48) := ⟨_, rfl⟩
          have HF := Lib.hid hf
          have p1 : (0 : Int) ≤ (k : Int) := by omega
          have p2 : (k : Int) ≤ (s.size : Int) := by omega
          clear hf
          by_cases k0 : k = 0
          · subst k0
            have HN2 : Hid (numS s.data.toList = (n, 0, false)) := Lib.hid (by rw [HN.out, ← HV.out]; rfl)
            clear HN HV
            go_quiet (fail)
            go_wp2
            go_ret3
            exact ⟨ret_numS HN2.out (whole s), below_drewN (Below.refl _ _) _⟩
          · have g0 : decide ((k : Int) > 0) = true := decide_eq_true (by omega)
            have g0' : (k : Int) > 0 := by omega
            by_cases k1 : k = 1
            · subst k1
              have HN2 : Hid (numS s.data.toList = (n, 1, true)) := Lib.hid (by rw [HN.out, ← HV.out]; rfl)
              clear HN HV k0
              go_quiet (fail)
              go_wp2
              go_ret3
              exact ⟨ret_numS HN2.out rfl, below_drewN (Below.refl _ _) _⟩
            · have g1 : ((k : Int) == 1) = false := by rw [beq_eq_false_iff_ne]; omega
              obtain ⟨c0, hc0⟩ : ∃ c, s.data.toList[0]? = some c := ⟨_, List.getElem?_eq_getElem (by rw [HSL.out]; omega)⟩
              have hix0 : ∀ W, (Instr.index 9 (.string s) (.int .i64 0)).run Tryd.prog W = .ok (.int .u8 (c0.toNat : Int)) W := fun W => run_byte_at s 0 (by omega) c0 hc0 W
              have hf48 : f = decide (c0 ≠ 48) := by rw [HF.out, getD_of hc0]
              have g2 : ((c0.toNat : Int) != 48) = f := by
                rw [hf48]
                by_cases h : c0 = 48
                · subst h; rfl
                · rw [decide_eq_true h]
                  have : c0.toNat ≠ 48 := fun e => h (UInt8.toNat_inj.1 e)
                  simp
                  omega
              have HN2 : Hid (numS s.data.toList = (n, k, f)) := Lib.hid (by
                rw [HN.out, ← HV.out, HF.out]
                simp [k0, k1])
              have g3 : 0 < k := by omega
              have g4 : decide (0 < k) = true := decide_eq_true g3
              have g5 : decide ((0 : Int) < (k : Int)) = true := decide_eq_true (by omega)
              clear HN HV hc0 hf48
              go_quiet (fail)
              go_wp2
              go_ret3
              exact ⟨ret_numS HN2.out rfl, below_drewN (Below.refl _ _) _⟩
    · have hki : ¬ ((k : Int) < (s.size : Int)) := by omega
      have HN : Hid (numS s.data.toList = (val (s.data.toList.take k), k, decide (k ≠ 0) && (decide (k = 1) || decide (s.data.toList.getD 0 0 ≠ 48)))) := Lib.hid (numS_at HK.out (fun x hx => by
        have := (List.getElem?_eq_some_iff.1 hx).1
        rw [HSL.out] at this
        omega) hk hk4)
      clear HK hnp
      go_upto_region 7 with fail
      clear hki hlt
      obtain ⟨f, hf⟩ : ∃ f, f = decide (s.data.toList.getD 0 0 ≠ 48) := ⟨_, rfl⟩
      have HF := Lib.hid hf
      have p1 : (0 : Int) ≤ (k : Int) := by omega
      have p2 : (k : Int) ≤ (s.size : Int) := by omega
      clear hf
      by_cases k0 : k = 0
      · subst k0
        have HN2 : Hid (numS s.data.toList = (n, 0, false)) := Lib.hid (by rw [HN.out, ← HV.out]; rfl)
        clear HN HV
        go_quiet (fail)
        go_wp2
        go_ret3
        exact ⟨ret_numS HN2.out (whole s), below_drewN (Below.refl _ _) _⟩
      · have g0 : decide ((k : Int) > 0) = true := decide_eq_true (by omega)
        have g0' : (k : Int) > 0 := by omega
        by_cases k1 : k = 1
        · subst k1
          have HN2 : Hid (numS s.data.toList = (n, 1, true)) := Lib.hid (by rw [HN.out, ← HV.out]; rfl)
          clear HN HV k0
          go_quiet (fail)
          go_wp2
          go_ret3
          exact ⟨ret_numS HN2.out rfl, below_drewN (Below.refl _ _) _⟩
        · have g1 : ((k : Int) == 1) = false := by rw [beq_eq_false_iff_ne]; omega
          obtain ⟨c0, hc0⟩ : ∃ c, s.data.toList[0]? = some c := ⟨_, List.getElem?_eq_getElem (by rw [HSL.out]; omega)⟩
          have hix0 : ∀ W, (Instr.index 9 (.string s) (.int .i64 0)).run Tryd.prog W = .ok (.int .u8 (c0.toNat : Int)) W := fun W => run_byte_at s 0 (by omega) c0 hc0 W
          have hf48 : f = decide (c0 ≠ 48) := by rw [HF.out, getD_of hc0]
          have g2 : ((c0.toNat : Int) != 48) = f := by
            rw [hf48]
            by_cases h : c0 = 48
            · subst h; rfl
            · rw [decide_eq_true h]
              have : c0.toNat ≠ 48 := fun e => h (UInt8.toNat_inj.1 e)
              simp
              omega
          have HN2 : Hid (numS s.data.toList = (n, k, f)) := Lib.hid (by
            rw [HN.out, ← HV.out, HF.out]
            simp [k0, k1])
          have g3 : 0 < k := by omega
          have g4 : decide (0 < k) = true := decide_eq_true g3
          have g5 : decide ((0 : Int) < (k : Int)) = true := decide_eq_true (by omega)
          clear HN HV hc0 hf48
          go_quiet (fail)
          go_wp2
          go_ret3
          exact ⟨ret_numS HN2.out rfl, below_drewN (Below.refl _ _) _⟩
end Go.Proofs.YtjekibhaabkecaaDoor
