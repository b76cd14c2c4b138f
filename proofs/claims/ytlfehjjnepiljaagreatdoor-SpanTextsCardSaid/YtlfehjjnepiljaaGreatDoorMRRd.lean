/- Proved here: number of puncheonref04, for texts of at most 140737488355328 bytes. | Plain words: how the document's answer reads a version, step by step, and that it is the version that the program reads. | Proved here: Read of puncheonref04, for texts of at most 140737488355328 bytes. -/
import Derived.Deep.DeepCutAuto
import Derived.Deep.CutBlock
import Derived.Test.YtlfehjjnepiljaaGreatDoorM7
namespace Go.Proofs.YtlfehjjnepiljaaGreatDoor
open Go.RowKit Go.Shelf

/-- What number hands back: the number, how many bytes it has, and whether it is one. -/
def numS (l : Str) : Nat × Nat × Bool :=
  if 4 < (l.takeWhile dgB).length then (0, 0, false)
  else (val (l.takeWhile dgB), (l.takeWhile dgB).length, decide ((l.takeWhile dgB).length ≠ 0) && (decide ((l.takeWhile dgB).length = 1) || decide (l.getD 0 0 ≠ 48)))
theorem numS_long {l : Str} {k : Nat} (h : ∀ (j : Nat) (c : UInt8), j < k → l[j]? = some c → dgB c = true) (hk : k ≤ l.length) (h4 : 4 < k) : numS l = (0, 0, false) := by
  have e : k ≤ (l.takeWhile dgB).length := by
    have h2 : l = l.take k ++ l.drop k := (List.take_append_drop k l).symm
    rw [h2, List.takeWhile_append_of_pos (fun c hc => by
      obtain ⟨j, hj⟩ := List.mem_iff_getElem?.1 hc
      rw [List.getElem?_take] at hj
      split at hj
      · exact h j c (by assumption) hj
      · cases hj)]
    rw [List.length_append, List.length_take]
    omega
  unfold numS
  rw [if_pos (by omega)]
theorem numS_at {l : Str} {k : Nat} (h : ∀ (j : Nat) (c : UInt8), j < k → l[j]? = some c → dgB c = true) (hs : ∀ c, l[k]? = some c → dgB c = false) (hk : k ≤ l.length) (h4 : k ≤ 4) :
    numS l = (val (l.take k), k, decide (k ≠ 0) && (decide (k = 1) || decide (l.getD 0 0 ≠ 48))) := by
  obtain ⟨e1, _⟩ := all_take h hs
  have e2 : (l.takeWhile dgB).length = k := by rw [e1, List.length_take]; omega
  unfold numS
  rw [if_neg (by omega), e2, e1]
theorem ret_numS {a b : Nat} {t : Bool} {s r : ByteArray} {x : Nat × Nat × Bool} (h : x = (a, b, t)) (hr : r = s.extract b s.size) : Ending.returned (.tuple #[.int .i64 (a : Int), .string r, .bool t]) = .returned (.tuple #[.int .i64 (x.1 : Int), .string (s.extract x.2.1 s.size), .bool x.2.2]) := by
  rw [h, hr]
theorem whole (s : ByteArray) : s = s.extract 0 s.size := by
  apply ByteArray.ext
  apply Array.ext'
  rw [Lib.extract_to_end]
  rfl

set_option maxRecDepth 100000 in
set_option maxHeartbeats 4000000 in
theorem rnumber_any (s : ByteArray) (hs : s.size ≤ 140737488355328) (w : World) : Calls Tryz.prog 87 #[.string s] w fun e w' => e = .returned (.tuple #[.int .i64 ((numS s.data.toList).1 : Int), .string (s.extract (numS s.data.toList).2.1 s.size), .bool (numS s.data.toList).2.2]) ∧ Below w.heap.size w w' := by
  have hsl : s.data.toList.length = s.size := rfl
  have HSL := Lib.hid hsl
  clear hsl
  go_enter Tryz.func87, Tryz.ntmps87
  go_wp2_with fail
  go_loop [5, 6, 7, 8, 9, 10, 11, 12, 13, 14, 15, 16, 17, 18, 19, 20, 21, 22, 23, 24, 26, 27, 28, 29, 30, 31, 32, 33, 34, 35] (fun i v _ _ _ _ _ _ _ _ _ _ _ _ _ _ _ _ _ _ _ _ _ _ _ _ _ _ _ _ => ∃ k n : Nat, k ≤ s.size ∧ k ≤ 4 ∧ i = .int .i64 k ∧ v = .int .i64 n ∧ n ≤ 9999 ∧ n < 10 ^ k ∧ Hid (n = val (s.data.toList.take k)) ∧ Hid (∀ (j : Nat) (c : UInt8), j < k → s.data.toList[j]? = some c → dgB c = true)) (fun i _ _ _ _ _ _ _ _ _ _ _ _ _ _ _ _ _ _ _ _ _ _ _ _ _ _ _ _ _ => s.size - (Lib.intOf i).toNat)
  case atStart => exact ⟨0, 0, Nat.zero_le _, Nat.zero_le _, rfl, rfl, Nat.zero_le _, by decide, Lib.hid rfl, Lib.hid (fun j _ hj => absurd hj (Nat.not_lt_zero _))⟩
  case round =>
    obtain ⟨k, n, hk, hk4, rfl, rfl, hn, hnp, HV, HK⟩ := hrel
    by_cases hlt : k < s.size
    · obtain ⟨c, hc⟩ : ∃ c, s.data.toList[k]? = some c := ⟨_, List.getElem?_eq_getElem (by rw [HSL.out]; exact hlt)⟩
      have hix := run_byte_at s k hlt c hc
      have hki : (k : Int) < (s.size : Int) := by omega
      have HC := Lib.hid hc
      clear hc
      by_cases hd : dgB c = true
      · obtain ⟨e1, e2⟩ := (of_decide_eq_true hd : 48 ≤ c.toNat ∧ c.toNat ≤ 57)
        have HD := Lib.hid hd
        have d1 : decide ((c.toNat : Int) ≥ 48) = true := decide_eq_true (by omega)
        have d2 : decide ((c.toNat : Int) ≤ 57) = true := decide_eq_true (by omega)
        by_cases h4 : k = 4
        · have HN : Hid (numS s.data.toList = (0, 0, false)) := Lib.hid (numS_long (k := k + 1) (fun j x hj hx => by
            rcases Nat.lt_or_ge j k with h | h
            · exact HK.out j x h hx
            · obtain rfl : j = k := by omega
              have := HC.out.symm.trans hx
              cases this
              exact HD.out) (by rw [HSL.out]; omega) (by omega))
          have t4 : ((k : Int) == 4) = true := by simp [h4]
          clear hd h4 hnp
          go_wp2_with fail
          go_ret3
          exact ⟨ret_numS HN.out (whole s), Below.refl _ _⟩
        · have t4 : ((k : Int) == 4) = false := by rw [beq_eq_false_iff_ne]; omega
          have hp : 10 ^ k ≤ 1000 := by
            rcases (by omega : k = 0 ∨ k = 1 ∨ k = 2 ∨ k = 3) with rfl | rfl | rfl | rfl <;> decide
          obtain ⟨x, hx⟩ : ∃ x, x = 10 * n + (c.toNat - 48) := ⟨_, rfl⟩
          have hxp : x < 10 ^ (k + 1) := by rw [Nat.pow_succ]; omega
          have hx9 : x ≤ 9999 := by rw [Nat.pow_succ] at hxp; omega
          have HX : Hid (x = val (s.data.toList.take (k + 1))) := Lib.hid (by rw [take_snoc HC.out, val_snoc, ← HV.out, hx])
          have q1 : IntKind.i64.wrap (10 * (n : Int)) = 10 * (n : Int) := IntWalk.i64_in _ (by omega)
          have q2 : IntKind.u8.wrap ((c.toNat : Int) - 48) = (c.toNat : Int) - 48 := by
            have := IntWalk.u8_in ((c.toNat : Int) - 48) (by omega)
            exact this
          have q3 : 10 * (n : Int) + ((c.toNat : Int) - 48) = (x : Int) := by omega
          have q4 : IntKind.i64.wrap (x : Int) = (x : Int) := IntWalk.i64_in _ (by omega)
          clear hd hp hx hnp
          go_wp2_with fail
          go_round
          case rel => exact ⟨k + 1, x, hlt, by omega, by go_num, by go_num, hx9, hxp, HX, Lib.hid (fun j y hj hy => by
            rcases Nat.lt_or_ge j k with h | h
            · exact HK.out j y h hy
            · obtain rfl : j = k := by omega
              have := HC.out.symm.trans hy
              cases this
              exact HD.out)⟩
          case measure => simp [Lib.intOf]; omega
      · have hd0 : dgB c = false := by simpa using hd
        have HN : Hid (numS s.data.toList = (val (s.data.toList.take k), k, decide (k ≠ 0) && (decide (k = 1) || decide (s.data.toList.getD 0 0 ≠ 48)))) := Lib.hid (numS_at HK.out (fun x hx => by
          have := HC.out.symm.trans hx
          cases this
          exact hd0) hk hk4)
        have hcd : ¬ (48 ≤ c.toNat ∧ c.toNat ≤ 57) := of_decide_eq_false hd0
        clear hd hd0 HK hnp
        by_cases h1 : c.toNat < 48
        · have d1 : decide ((c.toNat : Int) ≥ 48) = false := decide_eq_false (by omega)
          clear hcd
          go_upto_region 7 with fail
          clear d1 h1 hki hlt hix
          obtain ⟨f, hf⟩ : ∃ f, f = decide (s.data.toList.getD 0 0 ≠ 48) := ⟨_, rfl⟩
          have HF := Lib.hid hf
          have p1 : (0 : Int) ≤ (k : Int) := by omega
          have p2 : (k : Int) ≤ (s.size : Int) := by omega
          clear hf
          by_cases k0 : k = 0
          · subst k0
            have HN2 : Hid (numS s.data.toList = (n, 0, false)) := Lib.hid (by rw [HN.out, ← HV.out]; rfl)
            clear HN HV
            go_quiet (fail)
            go_wp2
            go_ret3
            exact ⟨ret_numS HN2.out (whole s), below_drewN (Below.refl _ _) _⟩
          · have g0 : decide ((k : Int) > 0) = true := decide_eq_true (by omega)
            have g0' : (k : Int) > 0 := by omega
            by_cases k1 : k = 1
            · subst k1
              have HN2 : Hid (numS s.data.toList = (n, 1, true)) := Lib.hid (by rw [HN.out, ← HV.out]; rfl)
              clear HN HV k0
              go_quiet (fail)
              go_wp2
              go_ret3
              exact ⟨ret_numS HN2.out rfl, below_drewN (Below.refl _ _) _⟩
            · have g1 : ((k : Int) == 1) = false := by rw [beq_eq_false_iff_ne]; omega
              obtain ⟨c0, hc0⟩ : ∃ c, s.data.toList[0]? = some c := ⟨_, List.getElem?_eq_getElem (by rw [HSL.out]; omega)⟩
              have hix0 : ∀ W, (Instr.index 9 (.string s) (.int .i64 0)).run Tryz.prog W = .ok (.int .u8 (c0.toNat : Int)) W := fun W => run_byte_at s 0 (by omega) c0 hc0 W
              have hf48 : f = decide (c0 ≠ 48) := by rw [HF.out, getD_of hc0]
              have g2 : ((c0.toNat : Int) != 48) = f := by
                rw [hf48]
                by_cases h : c0 = 48
                · subst h; rfl
                · rw [decide_eq_true h]
                  have : c0.toNat ≠ 48 := fun e => h (UInt8.toNat_inj.1 e)
                  simp
                  omega
              have HN2 : Hid (numS s.data.toList = (n, k, f)) := Lib.hid (by
                rw [HN.out, ← HV.out, HF.out]
                simp [k0, k1])
              have g3 : 0 < k := by omega
              have g4 : decide (0 < k) = true := decide_eq_true g3
              have g5 : decide ((0 : Int) < (k : Int)) = true := decide_eq_true (by omega)
              clear HN HV hc0 hf48
              go_quiet (fail)
              go_wp2
              go_ret3
              exact ⟨ret_numS HN2.out rfl, below_drewN (Below.refl _ _) _⟩
        · have d1 : decide ((c.toNat : Int) ≥ 48) = true := decide_eq_true (by omega)
          have d2 : decide ((c.toNat : Int) ≤ 57) = false := decide_eq_false (by omega)
          clear hcd
          go_upto_region 7 with fail
          clear d1 d2 h1 hki hlt hix
          obtain ⟨f, hf⟩ : ∃ f, f = decide (s.data.toList.getD 0 0 ≠ 48) := ⟨_, rfl⟩
          have HF := Lib.hid hf
          have p1 : (0 : Int) ≤ (k : Int) := by omega
          have p2 : (k : Int) ≤ (s.size : Int) := by omega
          clear hf
          by_cases k0 : k = 0
          · subst k0
            have HN2 : Hid (numS s.data.toList = (n, 0, false)) := Lib.hid (by rw [HN.out, ← HV.out]; rfl)
            clear HN HV
            go_quiet (fail)
            go_wp2
            go_ret3
            exact ⟨ret_numS HN2.out (whole s), below_drewN (Below.refl _ _) _⟩
          · have g0 : decide ((k : Int) > 0) = true := decide_eq_true (by omega)
            have g0' : (k : Int) > 0 := by omega
            by_cases k1 : k = 1
            · subst k1
              have HN2 : Hid (numS s.data.toList = (n, 1, true)) := Lib.hid (by rw [HN.out, ← HV.out]; rfl)
              clear HN HV k0
              go_quiet (fail)
              go_wp2
              go_ret3
              exact ⟨ret_numS HN2.out rfl, below_drewN (Below.refl _ _) _⟩
            · have g1 : ((k : Int) == 1) = false := by rw [beq_eq_false_iff_ne]; omega
              obtain ⟨c0, hc0⟩ : ∃ c, s.data.toList[0]? = some c := ⟨_, List.getElem?_eq_getElem (by rw [HSL.out]; omega)⟩
              have hix0 : ∀ W, (Instr.index 9 (.string s) (.int .i64 0)).run Tryz.prog W = .ok (.int .u8 (c0.toNat : Int)) W := fun W => run_byte_at s 0 (by omega) c0 hc0 W
              have hf48 : f = decide (c0 ≠ 48) := by rw [HF.out, getD_of hc0]
              have g2 : ((c0.toNat : Int) != 48) = f := by
                rw [hf48]
                by_cases h : c0 = 48
                · subst h; rfl
                · rw [decide_eq_true h]
                  have : c0.toNat ≠ 48 := fun e => h (UInt8.toNat_inj.1 e)
                  simp
                  omega
              have HN2 : Hid (numS s.data.toList = (n, k, f)) := Lib.hid (by
                rw [HN.out, ← HV.out, HF.out]
                simp [k0, k1])
              have g3 : 0 < k := by omega
              have g4 : decide (0 < k) = true := decide_eq_true g3
              have g5 : decide ((0 : Int) < (k : Int)) = true := decide_eq_true (by omega)
              clear HN HV hc0 hf48
              go_quiet (fail)
              go_wp2
              go_ret3
              exact ⟨ret_numS HN2.out rfl, below_drewN (Below.refl _ _) _⟩
    · have hki : ¬ ((k : Int) < (s.size : Int)) := by omega
      have HN : Hid (numS s.data.toList = (val (s.data.toList.take k), k, decide (k ≠ 0) && (decide (k = 1) || decide (s.data.toList.getD 0 0 ≠ 48)))) := Lib.hid (numS_at HK.out (fun x hx => by
        have := (List.getElem?_eq_some_iff.1 hx).1
        rw [HSL.out] at this
        omega) hk hk4)
      clear HK hnp
      go_upto_region 7 with fail
      clear hki hlt
      obtain ⟨f, hf⟩ : ∃ f, f = decide (s.data.toList.getD 0 0 ≠ 48) := ⟨_, rfl⟩
      have HF := Lib.hid hf
      have p1 : (0 : Int) ≤ (k : Int) := by omega
      have p2 : (k : Int) ≤ (s.size : Int) := by omega
      clear hf
      by_cases k0 : k = 0
      · subst k0
        have HN2 : Hid (numS s.data.toList = (n, 0, false)) := Lib.hid (by rw [HN.out, ← HV.out]; rfl)
        clear HN HV
        go_quiet (fail)
        go_wp2
        go_ret3
        exact ⟨ret_numS HN2.out (whole s), below_drewN (Below.refl _ _) _⟩
      · have g0 : decide ((k : Int) > 0) = true := decide_eq_true (by omega)
        have g0' : (k : Int) > 0 := by omega
        by_cases k1 : k = 1
        · subst k1
          have HN2 : Hid (numS s.data.toList = (n, 1, true)) := Lib.hid (by rw [HN.out, ← HV.out]; rfl)
          clear HN HV k0
          go_quiet (fail)
          go_wp2
          go_ret3
          exact ⟨ret_numS HN2.out rfl, below_drewN (Below.refl _ _) _⟩
        · have g1 : ((k : Int) == 1) = false := by rw [beq_eq_false_iff_ne]; omega
          obtain ⟨c0, hc0⟩ : ∃ c, s.data.toList[0]? = some c := ⟨_, List.getElem?_eq_getElem (by rw [HSL.out]; omega)⟩
          have hix0 : ∀ W, (Instr.index 9 (.string s) (.int .i64 0)).run Tryz.prog W = .ok (.int .u8 (c0.toNat : Int)) W := fun W => run_byte_at s 0 (by omega) c0 hc0 W
          have hf48 : f = decide (c0 ≠ 48) := by rw [HF.out, getD_of hc0]
          have g2 : ((c0.toNat : Int) != 48) = f := by
            rw [hf48]
            by_cases h : c0 = 48
            · subst h; rfl
            · rw [decide_eq_true h]
              have : c0.toNat ≠ 48 := fun e => h (UInt8.toNat_inj.1 e)
              simp
              omega
          have HN2 : Hid (numS s.data.toList = (n, k, f)) := Lib.hid (by
            rw [HN.out, ← HV.out, HF.out]
            simp [k0, k1])
          have g3 : 0 < k := by omega
          have g4 : decide (0 < k) = true := decide_eq_true g3
          have g5 : decide ((0 : Int) < (k : Int)) = true := decide_eq_true (by omega)
          clear HN HV hc0 hf48
          go_quiet (fail)
          go_wp2
          go_ret3
          exact ⟨ret_numS HN2.out rfl, below_drewN (Below.refl _ _) _⟩
end Go.Proofs.YtlfehjjnepiljaaGreatDoor

namespace Go.Proofs.YtlfehjjnepiljaaGreatDoor
open Go.RowKit

def Ver.put (v : Ver) (k : Nat) (x : Int) : Ver := ⟨if k = 0 then x else v.n0, if k = 1 then x else v.n1, if k = 2 then x else v.n2, if k = 3 then x else v.n3, (k : Int) + 1, v.tag, v.step⟩
/-- The last look: nothing is left, it may be, and the text is its own. -/
def finF (s : Str) (v : Ver) (r : Str) : Option Ver := if r = [] ∧ v.ok = true ∧ v.text = s then some v else none
def tagF (s : Str) (v : Ver) (r : Str) : Option Ver :=
  if r.dropWhile lowB = [] then finF s { v with tag := ofB (r.takeWhile lowB) } []
  else if (numS (r.dropWhile lowB)).2.2 = false ∨ (numS (r.dropWhile lowB)).1 = 0 then none
  else finF s { v with tag := ofB (r.takeWhile lowB), step := ((numS (r.dropWhile lowB)).1 : Int) } ((r.dropWhile lowB).drop (numS (r.dropWhile lowB)).2.1)
def tailF (s : Str) (v : Ver) (r : Str) : Option Ver := if r.head? = some 45 then tagF s v (r.drop 1) else finF s v r
def loopF (s : Str) : Nat → Nat → Ver → Str → Option Ver
  | 0, _, _, _ => none
  | f + 1, k, v, r =>
    if (numS r).2.2 = false ∨ k = 4 then none
    else if (r.drop (numS r).2.1).head? = some 46 then loopF s f (k + 1) (v.put k ((numS r).1 : Int)) ((r.drop (numS r).2.1).drop 1)
    else tailF s (v.put k ((numS r).1 : Int)) (r.drop (numS r).2.1)
def refV (s : Str) : Option Ver := loopF s 5 0 Ver.zero s

theorem fin_some {s r : Str} {v u : Ver} (h : finF s v r = some u) : u.ok = true ∧ u.text = s := by
  unfold finF at h
  split at h
  · obtain rfl := Option.some.inj h
    rename_i hc
    exact hc.2
  · cases h
theorem tail_some {s r : Str} {v u : Ver} (h : tailF s v r = some u) : u.ok = true ∧ u.text = s := by
  unfold tailF tagF at h
  split at h
  · split at h
    · exact fin_some h
    · split at h
      · cases h
      · exact fin_some h
  · exact fin_some h
theorem loop_some {s : Str} : ∀ (f k : Nat) (v : Ver) (r : Str) {u : Ver}, loopF s f k v r = some u → u.ok = true ∧ u.text = s := by
  intro f
  induction f with
  | zero => intro k v r u h; cases h
  | succ f ih =>
    intro k v r u h
    unfold loopF at h
    split at h
    · cases h
    · split at h
      · exact ih _ _ _ h
      · exact tail_some h

theorem head_dec {n : Nat} (h : n ≤ 9999) : (Lib.decDigits n).length = 1 ∨ (Lib.decDigits n).getD 0 0 ≠ 48 := by
  by_cases h10 : n < 10
  · left; rw [Lib.decDigits_one h10]; rfl
  · right
    have hl : 1 < (Lib.decDigits n).length := by
      rw [dec_big h10, List.length_append]
      have := List.length_pos_iff.2 (dec_ne (n / 10))
      simp
      omega
    have ho := List.all_eq_true.1 (dec_ok n 9999 h) 1 (List.mem_range.2 hl)
    unfold stepB at ho
    simp only [Bool.and_eq_true, Bool.or_eq_true, decide_eq_true_eq] at ho
    obtain ⟨⟨_, h1⟩, _⟩ := ho
    intro e
    rcases h1 with h1 | h1
    · omega
    · apply h1
      have h0 : (Lib.decDigits n)[0]? = some 48 := by
        rw [List.getD_eq_getElem?_getD] at e
        rw [List.getElem?_eq_getElem (by omega)] at e ⊢
        simpa using e
      have := take_snoc h0
      rw [List.take_zero, List.nil_append] at this
      rw [show (1 : Nat) = 0 + 1 from rfl, this]
      decide
/-- A number ahead of what is no digit. -/
theorem numS_dec {n : Nat} (h : n ≤ 9999) {X : Str} (hX : ∀ c, X.head? = some c → dgB c = false) : numS (Lib.decDigits n ++ X) = (n, (Lib.decDigits n).length, true) := by
  have h4 := nD_le n h
  have hne := List.length_pos_iff.2 (dec_ne n)
  have e := numS_at (l := Lib.decDigits n ++ X) (k := (Lib.decDigits n).length) (fun j c hj hc => by
    rw [List.getElem?_append_left hj] at hc
    exact dec_dig n c (List.mem_of_getElem? hc)) (fun c hc => by
    rw [List.getElem?_append_right (Nat.le_refl _), Nat.sub_self] at hc
    exact hX c (by rw [← hc]; cases X <;> rfl)) (by simp) h4
  rw [e, List.take_left, val_dec]
  have hg : (Lib.decDigits n ++ X).getD 0 0 = (Lib.decDigits n).getD 0 0 := by
    rw [List.getD_eq_getElem?_getD, List.getD_eq_getElem?_getD, List.getElem?_append_left (by omega)]
  rw [hg, decide_eq_true (by omega : (Lib.decDigits n).length ≠ 0)]
  rcases head_dec h with h1 | h1
  · rw [decide_eq_true h1]; rfl
  · rw [decide_eq_true h1, Bool.or_true]; rfl
theorem loop_dot {s : Str} {f k n : Nat} {v : Ver} {X : Str} (hk : k < 4) (h : n ≤ 9999) : loopF s (f + 1) k v (Lib.decDigits n ++ 46 :: X) = loopF s f (k + 1) (v.put k (n : Int)) X := by
  have e := numS_dec h (X := 46 :: X) (fun c hc => by simp at hc; subst hc; decide)
  conv => lhs; unfold loopF
  rw [e]
  dsimp only
  rw [if_neg (by simp; omega), List.drop_left, if_pos (show (46 :: X).head? = some 46 from rfl)]
  rfl
theorem loop_end {s : Str} {f k n : Nat} {v : Ver} {X : Str} (hk : k < 4) (h : n ≤ 9999) (hX : X = [] ∨ X.head? = some 45) : loopF s (f + 1) k v (Lib.decDigits n ++ X) = tailF s (v.put k (n : Int)) X := by
  have e := numS_dec h (X := X) (fun c hc => by
    rcases hX with rfl | hX
    · cases hc
    · rw [hX] at hc
      cases hc
      decide)
  conv => lhs; unfold loopF
  rw [e]
  dsimp only
  rw [if_neg (by simp; omega), List.drop_left, if_neg]
  rcases hX with rfl | hX
  · simp
  · rw [hX]; decide
/-- What stands behind the numbers. -/
def Ver.endT (v : Ver) : Str := if v.tag.data.toList = [] then [] else 45 :: (v.tag.data.toList ++ (if v.step = 0 then [] else Lib.decDigits v.step.toNat))
theorem text_end {v : Ver} (h : v.ok = true) : v.text = dotsL v.num v.many.toNat ++ v.endT := by
  unfold Ver.text Ver.endT
  by_cases ht : v.tag.data.toList = []
  · rw [if_pos ht, if_pos ht, if_pos (ok_step0 h ht)]; simp
  · rw [if_neg ht, if_neg ht]; simp
theorem end_head (v : Ver) : v.endT = [] ∨ v.endT.head? = some 45 := by
  unfold Ver.endT
  split
  · exact .inl rfl
  · exact .inr rfl
theorem tail_text {u v : Ver} (h : u.ok = true) (hv : v.n0 = u.n0 ∧ v.n1 = u.n1 ∧ v.n2 = u.n2 ∧ v.n3 = u.n3 ∧ v.many = u.many) (ht : v.tag = ⟨#[]⟩) (hs : v.step = 0) : tailF u.text v u.endT = some u := by
  obtain ⟨a, b, c, d, m⟩ := hv
  unfold tailF Ver.endT
  by_cases h0 : u.tag.data.toList = []
  · have hu : v = u := by
      rw [ver_eq]
      exact ⟨⟨a, b, c, d⟩, m, by rw [ht, ba_empty _ h0], by rw [hs, ok_step0 h h0]⟩
    rw [if_pos h0, if_neg (by simp)]
    unfold finF
    rw [hu, if_pos ⟨rfl, h, rfl⟩]
  · obtain ⟨s0, s9⟩ := ok_stepb h h0
    have hend := ok_end h
    unfold Ver.endB tagB at hend
    rw [if_neg h0] at hend
    simp only [Bool.and_eq_true] at hend
    obtain ⟨⟨_, hall⟩, _⟩ := hend
    rw [if_neg h0, List.head?_cons, if_pos rfl, List.drop_succ_cons, List.drop_zero]
    unfold tagF
    obtain ⟨d', hd⟩ : ∃ d : Str, d = (if u.step = 0 then [] else Lib.decDigits u.step.toNat) := ⟨_, rfl⟩
    rw [← hd]
    obtain ⟨l1, l2⟩ := low_split hall (d := d') (fun x hx => by
      rw [hd] at hx
      split at hx
      · simp at hx
      · exact dig_low (dec_dig _ x hx))
    rw [l1, l2]
    by_cases hz : u.step = 0
    · rw [if_pos hz] at hd
      rw [if_pos hd]
      have hu : ({ v with tag := ofB u.tag.data.toList } : Ver) = u := by
        rw [ver_eq]
        exact ⟨⟨a, b, c, d⟩, m, rfl, by show v.step = _; rw [hs, hz]⟩
      unfold finF
      rw [hu, if_pos ⟨rfl, h, rfl⟩]
    · rw [if_neg hz] at hd
      have e := numS_dec (n := u.step.toNat) (by omega) (X := []) (fun c hc => by cases hc)
      rw [List.append_nil] at e
      rw [if_neg (by rw [hd]; exact dec_ne _), hd, e]
      dsimp only
      rw [if_neg (by simp; omega), List.drop_length]
      have hu : ({ v with tag := ofB u.tag.data.toList, step := ((u.step.toNat : Nat) : Int) } : Ver) = u := by
        rw [ver_eq]
        exact ⟨⟨a, b, c, d⟩, m, rfl, by show ((u.step.toNat : Nat) : Int) = _; omega⟩
      unfold finF
      rw [hu, if_pos ⟨rfl, h, rfl⟩]
theorem ref_text {u : Ver} (h : u.ok = true) : refV u.text = some u := by
  obtain ⟨hm1, hm4⟩ := ok_many h
  obtain ⟨k, hk⟩ : ∃ k : Nat, u.many = (k : Int) := ⟨u.many.toNat, by omega⟩
  have hkn : u.many.toNat = k := by omega
  have hb : ∀ j, j < k → (u.num j).toNat ≤ 9999 ∧ ((u.num j).toNat : Int) = u.num j := fun j hj => by
    have := ok_num h (j := j) (by omega)
    omega
  have hr : ∀ j, j < 4 → k ≤ j → u.num j = 0 := fun j hj hm => ok_rest h j hj (by omega)
  have he := end_head u
  unfold refV
  obtain ⟨t, ht⟩ : ∃ t, t = u.text := ⟨_, rfl⟩
  have hte : t = dotsL u.num k ++ u.endT := by rw [ht, text_end h, hkn]
  rw [← ht]
  have last : ∀ v : Ver, v.n0 = u.num 0 → v.n1 = u.num 1 → v.n2 = u.num 2 → v.n3 = u.num 3 → v.many = (k : Int) → v.tag = ⟨#[]⟩ → v.step = 0 → tailF t v u.endT = some u := fun v a b c d m tg st => by
    rw [ht]
    exact tail_text h ⟨a, b, c, d, by rw [m, hk]⟩ tg st
  rcases (by omega : k = 1 ∨ k = 2 ∨ k = 3 ∨ k = 4) with rfl | rfl | rfl | rfl
  · have e : t = Lib.decDigits (u.num 0).toNat ++ u.endT := by rw [hte]; simp [dotsL]
    conv => lhs; arg 5; rw [e]
    rw [loop_end (by omega) (hb 0 (by omega)).1 he]
    exact last _ (hb 0 (by omega)).2 (hr 1 (by omega) (by omega)).symm (hr 2 (by omega) (by omega)).symm (hr 3 (by omega) (by omega)).symm rfl rfl rfl
  · have e : t = Lib.decDigits (u.num 0).toNat ++ 46 :: (Lib.decDigits (u.num 1).toNat ++ u.endT) := by rw [hte]; simp [dotsL]
    conv => lhs; arg 5; rw [e]
    rw [loop_dot (by omega) (hb 0 (by omega)).1, loop_end (by omega) (hb 1 (by omega)).1 he]
    exact last _ (hb 0 (by omega)).2 (hb 1 (by omega)).2 (hr 2 (by omega) (by omega)).symm (hr 3 (by omega) (by omega)).symm rfl rfl rfl
  · have e : t = Lib.decDigits (u.num 0).toNat ++ 46 :: (Lib.decDigits (u.num 1).toNat ++ 46 :: (Lib.decDigits (u.num 2).toNat ++ u.endT)) := by rw [hte]; simp [dotsL]
    conv => lhs; arg 5; rw [e]
    rw [loop_dot (by omega) (hb 0 (by omega)).1, loop_dot (by omega) (hb 1 (by omega)).1, loop_end (by omega) (hb 2 (by omega)).1 he]
    exact last _ (hb 0 (by omega)).2 (hb 1 (by omega)).2 (hb 2 (by omega)).2 (hr 3 (by omega) (by omega)).symm rfl rfl rfl
  · have e : t = Lib.decDigits (u.num 0).toNat ++ 46 :: (Lib.decDigits (u.num 1).toNat ++ 46 :: (Lib.decDigits (u.num 2).toNat ++ 46 :: (Lib.decDigits (u.num 3).toNat ++ u.endT))) := by rw [hte]; simp [dotsL]
    conv => lhs; arg 5; rw [e]
    rw [loop_dot (by omega) (hb 0 (by omega)).1, loop_dot (by omega) (hb 1 (by omega)).1, loop_dot (by omega) (hb 2 (by omega)).1, loop_end (by omega) (hb 3 (by omega)).1 he]
    exact last _ (hb 0 (by omega)).2 (hb 1 (by omega)).2 (hb 2 (by omega)).2 (hb 3 (by omega)).2 rfl rfl rfl
/-- The document's answer is the program's. -/
theorem ref_read (s : ByteArray) : refV s.data.toList = readV s := by
  cases hr : readV s with
  | some u =>
    obtain ⟨h1, h2⟩ := text_read hr
    rw [← h2]
    exact ref_text h1
  | none =>
    cases hf : refV s.data.toList with
    | none => rfl
    | some v =>
      obtain ⟨h1, h2⟩ := loop_some _ _ _ _ hf
      have := read_text h1
      rw [h2, ← ofB_eq rfl, hr] at this
      cases this
end Go.Proofs.YtlfehjjnepiljaaGreatDoor

namespace Go.Proofs.YtlfehjjnepiljaaGreatDoor
open Go.RowKit Go.Shelf

theorem put_row (v : Ver) (k : Nat) (hk : k < 4) (x : Int) : (v.arr.setIfInBounds k (.int .i64 x)).setIfInBounds 4 (.int .i64 ((k : Int) + 1)) = (v.put k x).arr := by
  rcases (by omega : k = 0 ∨ k = 1 ∨ k = 2 ∨ k = 3) with rfl | rfl | rfl | rfl <;> rfl
theorem ext_drop (s : ByteArray) (k : Nat) : (s.extract k s.size).data.toList = s.data.toList.drop k := Lib.extract_to_end s k
theorem head_at {r : ByteArray} {c : UInt8} (_ : 0 < r.size) (hc : r.data.toList[0]? = some c) : r.data.toList.head? = some c := by rw [← hc]; cases r.data.toList <;> rfl
theorem ne_nil {r : ByteArray} (h : 0 < r.size) : r.data.toList ≠ [] := List.length_pos_iff.1 h
theorem nil_of {r : ByteArray} (h : ¬ 0 < r.size) : r.data.toList = [] := List.eq_nil_of_length_eq_zero (by show r.size = 0; omega)
theorem numS_rng (l : Str) : (numS l).1 ≤ 9999 ∧ (numS l).2.1 ≤ l.length := by
  unfold numS
  split
  · exact ⟨by decide, Nat.zero_le _⟩
  · rename_i h4
    refine ⟨?_, (List.takeWhile_sublist _).length_le⟩
    have key : ∀ (m : Str), m.length ≤ 4 → (∀ c ∈ m, dgB c = true) → val m ≤ 9999 := by
      intro m hm hd
      have d : ∀ c ∈ m, c.toNat - 48 ≤ 9 := fun c hc => by
        have := (of_decide_eq_true (hd c hc) : 48 ≤ c.toNat ∧ c.toNat ≤ 57)
        omega
      match m, hm, d with
      | [], _, _ => decide
      | [a], _, d => have := d a (by simp); simp [val]; omega
      | [a, b], _, d => have := d a (by simp); have := d b (by simp); simp [val]; omega
      | [a, b, c], _, d => have := d a (by simp); have := d b (by simp); have := d c (by simp); simp [val]; omega
      | [a, b, c, e], _, d => have := d a (by simp); have := d b (by simp); have := d c (by simp); have := d e (by simp); simp [val]; omega
      | a :: b :: c :: e :: f :: r, hm, _ => exact absurd hm (by simp)
    exact key _ (by omega) (fun c hc => by
      have := List.all_takeWhile (p := dgB) (l := l)
      exact List.all_eq_true.1 this c hc)
theorem numS_pos {l : Str} (h : (numS l).2.2 = true) : 0 < (numS l).2.1 := by
  unfold numS at h ⊢
  split at h
  · cases h
  · rename_i h4
    rw [if_neg h4]
    simp only [Bool.and_eq_true, decide_eq_true_eq] at h
    exact Nat.pos_of_ne_zero h.1
theorem take_while_take (l : Str) (p : UInt8 → Bool) : l.takeWhile p = l.take (l.takeWhile p).length := by
  induction l with
  | nil => rfl
  | cons x l ih =>
    rw [List.takeWhile_cons]
    split
    · rw [List.length_cons, List.take_succ_cons, ← ih]
    · rfl
theorem drop_lt_of (l : Str) (p : UInt8 → Bool) : l.dropWhile p = l.drop (l.takeWhile p).length := by
  induction l with
  | nil => rfl
  | cons x l ih =>
    rw [List.dropWhile_cons, List.takeWhile_cons]
    split <;> simp [ih]

/-- What Read of the document hands back. -/
def RefR (s : ByteArray) (w : World) (e : Ending) (w' : World) : Prop := ∃ (v : Ver) (b : Bool), e = .returned (.tuple #[.agg v.arr, .bool b]) ∧ readV s = (if b = true then some v else none) ∧ (b = false → v = Ver.zero) ∧ Below w.heap.size w w'
structure Two4 (v : Ver) (w W : World) : Prop where
  res : Box W w.heap.size 45 Ver.zero.arr
  ver : Box W (w.heap.size + 1) 45 v.arr
  low : Below w.heap.size w W
theorem Two4.on {v : Ver} {w W W' : World} (h : Two4 v w W) (hb : Below W.heap.size W W') : Two4 v w W' := ⟨h.res.on hb, h.ver.on hb, bch h.low hb⟩

set_option maxRecDepth 100000 in
set_option maxHeartbeats 8000000 in
theorem rread_any (s : ByteArray) (hs : s.size ≤ 140737488355328) (w : World) : Calls Tryz.prog 66 #[.string s] w (RefR s w) := by
  have H0 : Hid (Two4 Ver.zero w ((w.alloc (.cells Ver.zero.arr 45)).alloc (.cells Ver.zero.arr 45))) := Lib.hid ⟨box_new.alloc _, heap_alloc2_new w _ _, ((Below.refl _ w).alloc (Nat.le_refl _) _).alloc (by simp) _⟩
  have HV : Hid (readV s = loopF s.data.toList 5 0 Ver.zero s.data.toList) := Lib.hid (ref_read s).symm
  have last : ∀ (W : World) (u : Ver) (q : Bool) (tmps : Array Value), Box W w.heap.size 45 u.arr → tmps.getD 2 undef = .pointer (some ⟨w.heap.size, 0, none⟩) → tmps.getD 3 undef = .bool q → (results Tryz.f66 tmps).run Tryz.prog W = .ok (.tuple #[.agg u.arr, .bool q]) W := fun W u q tmps hx h2 h3 => by
    rw [← h3]
    exact results_ver rfl tmps W w.heap.size h2 u.arr (run_loadVar_row _ w.heap.size 45 45 u.arr (0, 0) _ hx Tryz.underlying45 rfl (info26 _))
  go_enter Tryz.func66, Tryz.ntmps66
  go_wp2_with (with_reducible refine wpList_zero rfl 45 rfl Ver.zero.arr zero26 ?_)
  go_loopw [5, 6, 7, 8, 9, 15, 16, 17, 18, 19, 20, 21, 22, 23, 24, 25, 26, 27, 28, 29, 30, 31, 32, 33, 34, 35, 36, 37, 38, 39, 40, 41, 42, 43, 44, 45, 46, 47, 48] (fun r m _ _ _ _ _ _ _ _ _ _ _ _ _ _ _ _ _ _ _ _ _ _ _ _ _ _ _ _ _ _ _ _ _ _ _ _ _ W => ∃ (b : ByteArray) (k : Nat) (v : Ver) (t : Bool), r = .string b ∧ m = .bool t ∧ k ≤ 4 ∧ b.size ≤ s.size ∧ v.many = (k : Int) ∧ Hid (t = true → readV s = loopF s.data.toList (5 - k) k v b.data.toList) ∧ Hid (t = false → readV s = tailF s.data.toList v b.data.toList) ∧ Hid (Two4 v w W)) (fun r _ _ _ _ _ _ _ _ _ _ _ _ _ _ _ _ _ _ _ _ _ _ _ _ _ _ _ _ _ _ _ _ _ _ _ _ _ _ _ => (match r with | .string b => b.size | _ => 0))
  case atStart => exact ⟨s, 0, Ver.zero, true, rfl, rfl, Nat.zero_le _, Nat.le_refl _, rfl, Lib.hid (fun _ => HV.out), Lib.hid (fun h => by cases h), H0⟩
  case round =>
    obtain ⟨b, k, v, t, rfl, rfl, hk4, hbs, hvk, HL, HL2, H1⟩ := hrel
    obtain ⟨wq, hwq⟩ : ∃ q, q = wr := ⟨_, rfl⟩
    rw [← hwq] at H1 ⊢
    clear HV H0 hwq
    have hbl : b.data.toList.length = b.size := rfl
    cases t with
    | true =>
      have HL1 := Lib.hid (HL.out rfl)
      clear HL HL2
      have HN := Lib.hid (fun W => rnumber_any b (by omega) W)
      obtain ⟨hn9, hnl⟩ := numS_rng b.data.toList
      obtain ⟨x, hx⟩ : ∃ x, x = numS b.data.toList := ⟨_, rfl⟩
      have hpos : x.2.2 = true → 0 < x.2.1 := by rw [hx]; exact numS_pos
      obtain ⟨n, d, o⟩ := x
      have HX := Lib.hid hx
      rw [← hx] at HN hn9 hnl
      dsimp only at HN hn9 hnl hpos
      rw [hbl] at hnl
      have HVK := Lib.hid hvk
      clear hx hvk
      go_wp2_with fail
      refine (HN.out _).mono ?_
      rintro e w1 ⟨rfl, hb⟩
      have H2 := Lib.hid (H1.out.on hb)
      clear hb H1 HN
      have c4 : w1.cell? ⟨w.heap.size + 1, 4, none⟩ = some (.int .i64 (k : Int)) := by rw [← HVK.out]; exact H2.out.ver.ver.c4
      obtain ⟨q, hq⟩ : ∃ q, 5 - k = q + 1 := ⟨4 - k, by omega⟩
      have HLU : Hid (readV s = if o = false ∨ k = 4 then none else if (b.data.toList.drop d).head? = some 46 then loopF s.data.toList q (k + 1) (v.put k (n : Int)) ((b.data.toList.drop d).drop 1) else tailF s.data.toList (v.put k (n : Int)) (b.data.toList.drop d)) := Lib.hid (by
        rw [HL1.out, hq]
        conv => lhs; unfold loopF
        rw [← HX.out])
      have hq2 : k < 4 → 5 - (k + 1) = q := fun h => by omega
      clear HL1 HX hq
      cases o with
      | false =>
        have HZ : Hid (readV s = none) := Lib.hid (by rw [HLU.out, if_pos (.inl rfl)])
        clear HLU hpos hq2
        go_wp2_with (first
          | (refine builds_none26 rfl rfl ?_)
          | (refine wpList_store_row rfl 45 (.tmp 2) (.tmp 29) rfl w.heap.size Ver.zero.arr rfl rfl 45 _ H2.out.res (info26 _) rfl (arr_one _) ?_))
        refine bodyPost_ret (last _ Ver.zero false _ (H2.out.res.row _) rfl rfl) rfl ⟨Ver.zero, false, rfl, HZ.out, fun _ => rfl, below_row H2.out.low (Nat.le_refl _) _⟩
      | true =>
        have hd := hpos rfl
        by_cases h4 : k = 4
        · have HZ : Hid (readV s = none) := Lib.hid (by rw [HLU.out, if_pos (.inr h4)])
          have t4 : ((k : Int) == 4) = true := by simp [h4]
          clear HLU hpos hq2 h4
          go_wp2_with (first
            | (refine builds_none26 rfl rfl ?_)
            | (refine wpList_store_row rfl 45 (.tmp 2) (.tmp 29) rfl w.heap.size Ver.zero.arr rfl rfl 45 _ H2.out.res (info26 _) rfl (arr_one _) ?_))
          refine bodyPost_ret (last _ Ver.zero false _ (H2.out.res.row _) rfl rfl) rfl ⟨Ver.zero, false, rfl, HZ.out, fun _ => rfl, below_row H2.out.low (Nat.le_refl _) _⟩
        · have t4 : ((k : Int) == 4) = false := by rw [beq_eq_false_iff_ne]; omega
          have hk3 : k < 4 := by omega
          have k2 : (0 : Int) ≤ (k : Int) := by omega
          have k3 : (k : Int) < 4 := by omega
          have k5 : IntKind.i64.wrap ((k : Int) + 1) = (k : Int) + 1 := IntWalk.i64_in _ (by omega)
          have HQ2 := Lib.hid (hq2 hk3)
          have HLV : Hid (readV s = if (b.data.toList.drop d).head? = some 46 then loopF s.data.toList q (k + 1) (v.put k (n : Int)) ((b.data.toList.drop d).drop 1) else tailF s.data.toList (v.put k (n : Int)) (b.data.toList.drop d)) := Lib.hid (by
            rw [HLU.out, if_neg (by simp; omega)])
          obtain ⟨p, hp⟩ : ∃ p, p = b.extract d b.size := ⟨_, rfl⟩
          have HPD : Hid (p.data.toList = b.data.toList.drop d) := Lib.hid (by rw [hp, ext_drop])
          have hps : p.size < b.size := by rw [hp]; simp; omega
          rw [← hp]
          have ck := H2.out.ver.ver.num (k := k) hk3
          have fk : w1.frozen? ⟨w.heap.size + 1, k, none⟩ = false := frozen_of_row w1 _ k _ _ H2.out.ver
          have X3 : Hid (Box (w1.setCell ⟨w.heap.size + 1, k, none⟩ (.int .i64 (n : Int))) (w.heap.size + 1) 45 (v.arr.setIfInBounds k (.int .i64 (n : Int)))) := Lib.hid (H2.out.ver.set (k := k) _)
          have c4' : (w1.setCell ⟨w.heap.size + 1, k, none⟩ (.int .i64 (n : Int))).cell? ⟨w.heap.size + 1, 4, none⟩ = some (.int .i64 (k : Int)) := by
            refine X3.out.cell (k := 4) ?_
            rw [Array.getElem?_setIfInBounds_ne (by omega)]
            rw [← HVK.out]
            rfl
          have f4 : (w1.setCell ⟨w.heap.size + 1, k, none⟩ (.int .i64 (n : Int))).frozen? ⟨w.heap.size + 1, 4, none⟩ = false := frozen_of_row _ _ 4 _ _ X3.out
          have f4' : w1.frozen? ⟨w.heap.size + 1, 4, none⟩ = false := frozen_of_row _ _ 4 _ _ H2.out.ver
          obtain ⟨w3, hw3⟩ : ∃ q, q = (w1.setCell ⟨w.heap.size + 1, k, none⟩ (.int .i64 (n : Int))).setCell ⟨w.heap.size + 1, 4, none⟩ (.int .i64 ((k : Int) + 1)) := ⟨_, rfl⟩
          have H3 : Hid (Two4 (v.put k (n : Int)) w w3) := Lib.hid (by
            rw [hw3]
            refine ⟨(H2.out.res.far (by simp) _).far (by simp) _, ?_, (H2.out.low.setCell (p := ⟨w.heap.size + 1, k, none⟩) (by show w.heap.size ≤ w.heap.size + 1; omega) _).setCell (p := ⟨w.heap.size + 1, 4, none⟩) (by show w.heap.size ≤ w.heap.size + 1; omega) _⟩
            rw [← put_row v k hk3]
            exact X3.out.set (k := 4) _)
          clear HLU hpos hq2 h4 hp X3
          go_upto_region 9 with fail
          rw [← hw3]
          clear hw3 c4 c4' f4 f4' ck fk H2
          by_cases hp0 : 0 < p.size
          · have f1 := isEmpty_no (l := p.toList) (by rw [Lib.toList_data]; exact ne_nil hp0)
            obtain ⟨c0, hc0⟩ : ∃ c, p.data.toList[0]? = some c := ⟨_, List.getElem?_eq_getElem hp0⟩
            have hix0 : ∀ W, (Instr.index 9 (.string p) (.int .i64 0)).run Tryz.prog W = .ok (.int .u8 (c0.toNat : Int)) W := fun W => run_byte_at p 0 hp0 c0 hc0 W
            have hhd := head_at hp0 hc0
            have p1 : (1 : Int) ≤ (p.size : Int) := by omega
            by_cases h46 : c0 = 46
            · have e46 : ((c0.toNat : Int) == 46) = true := by rw [h46]; rfl
              have HK1 : Hid (readV s = loopF s.data.toList (5 - (k + 1)) (k + 1) (v.put k (n : Int)) (p.extract 1 p.size).data.toList) := Lib.hid (by
                rw [HLV.out, ← HPD.out, hhd, h46, if_pos rfl, HQ2.out, ext_drop])
              clear h46 hhd hc0 HLV HPD
              go_wp2_with fail
              go_roundw
              case rel => exact ⟨p.extract 1 p.size, k + 1, v.put k (n : Int), true, rfl, rfl, by omega, by simp; omega, by show (k : Int) + 1 = _; omega, Lib.hid (fun _ => HK1.out), Lib.hid (fun h => by cases h), H3⟩
              case measure => simp; omega
            · have e46 : ((c0.toNat : Int) == 46) = false := by
                rw [beq_eq_false_iff_ne]
                intro e
                exact h46 (UInt8.toNat_inj.1 (by show c0.toNat = 46; omega))
              have HK1 : Hid (readV s = tailF s.data.toList (v.put k (n : Int)) p.data.toList) := Lib.hid (by
                rw [HLV.out, ← HPD.out, if_neg (by rw [hhd]; simpa using h46)])
              clear h46 hhd hc0 HLV HPD
              go_wp2_with fail
              go_roundw
              case rel => exact ⟨p, k + 1, v.put k (n : Int), false, rfl, rfl, by omega, by omega, by show (k : Int) + 1 = _; omega, Lib.hid (fun h => by cases h), Lib.hid (fun _ => HK1.out), H3⟩
              case measure => simp; omega
          · have f1 := isEmpty_yes (l := p.toList) (by rw [Lib.toList_data]; exact nil_of hp0)
            have hnil := nil_of hp0
            have HK1 : Hid (readV s = tailF s.data.toList (v.put k (n : Int)) p.data.toList) := Lib.hid (by
              rw [HLV.out, ← HPD.out, if_neg (by rw [hnil]; simp)])
            clear hnil hp0 HLV HPD
            go_wp2_with fail
            go_roundw
            case rel => exact ⟨p, k + 1, v.put k (n : Int), false, rfl, rfl, by omega, by omega, by show (k : Int) + 1 = _; omega, Lib.hid (fun h => by cases h), Lib.hid (fun _ => HK1.out), H3⟩
            case measure => simp; omega
    | false =>
      have HT := Lib.hid (HL2.out rfl)
      clear HL HL2 hvk hk4
      by_cases hb1 : 0 < b.size
      · obtain ⟨c0, hc0⟩ : ∃ c, b.data.toList[0]? = some c := ⟨_, List.getElem?_eq_getElem hb1⟩
        have hix0 : ∀ W, (Instr.index 9 (.string b) (.int .i64 0)).run Tryz.prog W = .ok (.int .u8 (c0.toNat : Int)) W := fun W => run_byte_at b 0 hb1 c0 hc0 W
        have hhd := head_at hb1 hc0
        have g1 := isEmpty_no (l := b.toList) (by rw [Lib.toList_data]; exact ne_nil hb1)
        have p1 : (1 : Int) ≤ (b.size : Int) := by omega
        by_cases h45 : c0 = 45
        · have e45 : ((c0.toNat : Int) == 45) = true := by rw [h45]; rfl
          obtain ⟨p, hp⟩ : ∃ p, p = b.extract 1 b.size := ⟨_, rfl⟩
          have HTT : Hid (readV s = tagF s.data.toList v p.data.toList) := Lib.hid (by
            rw [HT.out]
            unfold tailF
            rw [hhd, h45, if_pos rfl, hp, ext_drop])
          have hps : p.size ≤ 140737488355328 := by rw [hp]; simp; omega
          clear HT h45 hhd hc0
          go_upto_block 2 with fail
          rw [← hp]
          clear hp
          go_cut [10] (fun i wx => i = .int .i64 ((p.data.toList.takeWhile lowB).length : Int) ∧ wx = wq)
          case first =>
            rename_i J2 K2 hJ hK2
            have hpl : p.data.toList.length = p.size := rfl
            have HPL := Lib.hid hpl
            clear hpl HTT hix0 hb1 g1 e45 p1
            go_wp2_with fail
            go_loop [10, 58, 59, 60, 61, 62, 63, 64, 65, 66, 67, 68, 69, 70, 71, 72, 73, 74, 75] (fun i _ _ _ _ _ _ _ _ _ _ _ _ _ _ _ _ _ _ => ∃ j : Nat, j ≤ p.size ∧ i = .int .i64 j ∧ Hid (∀ (t : Nat) (c : UInt8), t < j → p.data.toList[t]? = some c → lowB c = true)) (fun i _ _ _ _ _ _ _ _ _ _ _ _ _ _ _ _ _ _ => p.size - (Lib.intOf i).toNat)
            case atStart => exact ⟨0, Nat.zero_le _, rfl, Lib.hid (fun t _ ht => absurd ht (Nat.not_lt_zero _))⟩
            case round =>
              obtain ⟨j, hj, rfl, HJ⟩ := hrel
              by_cases hlt : j < p.size
              · obtain ⟨c, hc⟩ : ∃ c, p.data.toList[j]? = some c := ⟨_, List.getElem?_eq_getElem (by rw [HPL.out]; exact hlt)⟩
                have hix := run_byte_at p j hlt c hc
                have hki : (j : Int) < (p.size : Int) := by omega
                have HC := Lib.hid hc
                have hw := IntWalk.i64_in ((j : Int) + 1) (by omega)
                clear hc
                by_cases hd : lowB c = true
                · obtain ⟨e1, e2⟩ := (of_decide_eq_true hd : 97 ≤ c.toNat ∧ c.toNat ≤ 122)
                  have HD := Lib.hid hd
                  have d1 : decide ((c.toNat : Int) ≥ 97) = true := decide_eq_true (by omega)
                  have d2 : decide ((c.toNat : Int) ≤ 122) = true := decide_eq_true (by omega)
                  clear hd
                  go_wp2_with fail
                  go_round
                  case rel => exact ⟨j + 1, hlt, by go_num, Lib.hid (fun t y ht hy => by
                    rcases Nat.lt_or_ge t j with h | h
                    · exact HJ.out t y h hy
                    · obtain rfl : t = j := by omega
                      have := HC.out.symm.trans hy
                      cases this
                      exact HD.out)⟩
                  case measure => simp [Lib.intOf]; omega
                · have hd0 : lowB c = false := by simpa using hd
                  have HE : Hid ((p.data.toList.takeWhile lowB).length = j) := Lib.hid (by
                    rw [(all_take HJ.out (fun x hx => by
                      have := HC.out.symm.trans hx
                      cases this
                      exact hd0)).1, List.length_take, HPL.out]
                    omega)
                  have hcd : ¬ (97 ≤ c.toNat ∧ c.toNat ≤ 122) := of_decide_eq_false hd0
                  clear hd hd0
                  by_cases h1 : c.toNat < 97
                  · have d1 : decide ((c.toNat : Int) ≥ 97) = false := decide_eq_false (by omega)
                    clear hcd
                    go_wp2_with fail
                    refine Met.intro (hJ _ _ ?_)
                    (repeat apply Exists.intro)
                    refine ⟨?_, rfl⟩
                    exact ⟨by rw [HE.out], rfl⟩
                  · have d1 : decide ((c.toNat : Int) ≥ 97) = true := decide_eq_true (by omega)
                    have d2 : decide ((c.toNat : Int) ≤ 122) = false := decide_eq_false (by omega)
                    clear hcd
                    go_wp2_with fail
                    refine Met.intro (hJ _ _ ?_)
                    (repeat apply Exists.intro)
                    refine ⟨?_, rfl⟩
                    exact ⟨by rw [HE.out], rfl⟩
              · have hki : ¬ ((j : Int) < (p.size : Int)) := by omega
                have HE : Hid ((p.data.toList.takeWhile lowB).length = j) := Lib.hid (by
                  rw [(all_take HJ.out (fun x hx => by
                    have := (List.getElem?_eq_some_iff.1 hx).1
                    rw [HPL.out] at this
                    omega)).1, List.length_take, HPL.out]
                  omega)
                go_wp2_with fail
                refine Met.intro (hJ _ _ ?_)
                (repeat apply Exists.intro)
                refine ⟨?_, rfl⟩
                exact ⟨by rw [HE.out], rfl⟩
          case rest =>
          obtain ⟨w5, rfl⟩ : ∃ x, x = wc := ⟨_, rfl⟩
          obtain ⟨rfl, hwc⟩ := hcut
          subst hwc
          obtain ⟨j, hj⟩ : ∃ j, j = (p.data.toList.takeWhile lowB).length := ⟨_, rfl⟩
          have hjl : j ≤ p.size := by rw [hj]; exact (List.takeWhile_sublist _).length_le
          rw [← hj]
          obtain ⟨a, ha⟩ : ∃ a, a = p.extract 0 j := ⟨_, rfl⟩
          obtain ⟨d, hd⟩ : ∃ d, d = p.extract j p.size := ⟨_, rfl⟩
          have HA : Hid (a = ofB (p.data.toList.takeWhile lowB)) := Lib.hid (by
            apply ofB_eq
            rw [ha, ext_to, hj]
            exact (take_while_take _ _).symm)
          have HDD : Hid (d.data.toList = p.data.toList.dropWhile lowB) := Lib.hid (by rw [hd, ext_drop, hj, ← drop_lt_of])
          have hds : d.size ≤ 140737488355328 := by rw [hd]; simp; omega
          have j1 : (0 : Int) ≤ (j : Int) := by omega
          have j2 : (j : Int) ≤ (p.size : Int) := by omega
          have HAE := Lib.hid ha
          have HDE := Lib.hid hd
          have c5 : w5.cell? ⟨w.heap.size + 1, 5, none⟩ = some (.string v.tag) := H1.out.ver.ver.c5
          have f5 : w5.frozen? ⟨w.heap.size + 1, 5, none⟩ = false := frozen_of_row w5 _ 5 _ _ H1.out.ver
          obtain ⟨v2, hv2⟩ : ∃ v2 : Ver, v2 = { v with tag := a } := ⟨_, rfl⟩
          have H5 : Hid (Two4 v2 w (w5.setCell ⟨w.heap.size + 1, 5, none⟩ (.string a)).drew) := Lib.hid (by rw [hv2]; exact ⟨Box.drew (H1.out.res.far (by simp) _), Box.drew (H1.out.ver.set (k := 5) _), (H1.out.low.setCell (p := ⟨w.heap.size + 1, 5, none⟩) (by show w.heap.size ≤ w.heap.size + 1; omega) _).drew⟩)
          have HV2 := Lib.hid hv2
          clear hv2
          clear hj ha hd hix0 g1 p1 e45 hb1 hbl hbs
          go_upto_region 17 with fail
          go_cut [5] (fun r wx => r = .string d ∧ Hid (Two4 v2 w wx))
          case first =>
            rename_i J2 K2 hJ hK2
            rw [HAE.out] at H5
            rw [HDE.out] at hJ
            have H5' := H5
            clear HTT HA HDD hds HV2 H5
            go_region
            all_goals
              refine hK2 _ _ (Met.intro (hJ _ _ ?_))
              (repeat apply Exists.intro)
              refine ⟨?_, rfl⟩
              exact ⟨rfl, H5'⟩
          case rest =>
          obtain ⟨w6, rfl⟩ : ∃ x, x = wc := ⟨_, rfl⟩
          obtain ⟨rfl, H6⟩ := hcut
          clear H5 H1 c5 f5 HAE HDE hjl j1 j2
          by_cases hd0 : 0 < d.size
          · have g2 := isEmpty_no (l := d.toList) (by rw [Lib.toList_data]; exact ne_nil hd0)
            have HN := Lib.hid (fun W => rnumber_any d hds W)
            obtain ⟨hn9, hnl⟩ := numS_rng d.data.toList
            have hdl : d.data.toList.length = d.size := rfl
            rw [hdl] at hnl
            obtain ⟨x, hx⟩ : ∃ x, x = numS d.data.toList := ⟨_, rfl⟩
            have HT2 : Hid (readV s = if x.2.2 = false ∨ x.1 = 0 then none else finF s.data.toList { v2 with step := (x.1 : Int) } (d.data.toList.drop x.2.1)) := Lib.hid (by
              rw [HTT.out]
              unfold tagF
              rw [← HDD.out, if_neg (ne_nil hd0), ← hx, HV2.out, HA.out])
            rw [← hx] at HN hn9 hnl
            obtain ⟨n, l, o⟩ := x
            dsimp only at HN hn9 hnl HT2
            clear hx HTT HDD HV2 HA hd0 hdl
            go_wp2_with fail
            refine (HN.out _).mono ?_
            rintro e w7 ⟨rfl, hb⟩
            have H7 := Lib.hid (H6.out.on hb)
            clear hb H6 HN
            cases o with
            | false =>
              have HZ : Hid (readV s = none) := Lib.hid (by rw [HT2.out, if_pos (.inl rfl)])
              clear HT2
              go_wp2_with (first
                | (refine builds_none26 rfl rfl ?_)
                | (refine wpList_store_row rfl 45 (.tmp 2) (.tmp 97) rfl w.heap.size Ver.zero.arr rfl rfl 45 _ H7.out.res (info26 _) rfl (arr_one _) ?_))
              refine bodyPost_ret (last _ Ver.zero false _ (H7.out.res.row _) rfl rfl) rfl ⟨Ver.zero, false, rfl, HZ.out, fun _ => rfl, below_row H7.out.low (Nat.le_refl _) _⟩
            | true =>
              by_cases hn0 : n = 0
              · have HZ : Hid (readV s = none) := Lib.hid (by rw [HT2.out, if_pos (.inr hn0)])
                have e0 : ((n : Int) == 0) = true := by simp [hn0]
                clear HT2 hn0
                go_wp2_with (first
                  | (refine builds_none26 rfl rfl ?_)
                  | (refine wpList_store_row rfl 45 (.tmp 2) (.tmp 97) rfl w.heap.size Ver.zero.arr rfl rfl 45 _ H7.out.res (info26 _) rfl (arr_one _) ?_))
                refine bodyPost_ret (last _ Ver.zero false _ (H7.out.res.row _) rfl rfl) rfl ⟨Ver.zero, false, rfl, HZ.out, fun _ => rfl, below_row H7.out.low (Nat.le_refl _) _⟩
              · have e0 : ((n : Int) == 0) = false := by simp [hn0]
                obtain ⟨r2, hr2⟩ : ∃ r, r = d.extract l d.size := ⟨_, rfl⟩
                obtain ⟨v3, hv3⟩ : ∃ v3 : Ver, v3 = { v2 with step := (n : Int) } := ⟨_, rfl⟩
                have HF : Hid (readV s = finF s.data.toList v3 r2.data.toList) := Lib.hid (by
                  rw [HT2.out, if_neg (by simp [hn0]), hv3, hr2, ext_drop])
                have c6 : w7.cell? ⟨w.heap.size + 1, 6, none⟩ = some (.int .i64 v2.step) := H7.out.ver.ver.c6
                have f6 : w7.frozen? ⟨w.heap.size + 1, 6, none⟩ = false := frozen_of_row w7 _ 6 _ _ H7.out.ver
                obtain ⟨w8, hw8⟩ : ∃ q, q = w7.setCell ⟨w.heap.size + 1, 6, none⟩ (.int .i64 (n : Int)) := ⟨_, rfl⟩
                have H8 : Hid (Two4 v3 w w8) := Lib.hid (by
                  rw [hw8, hv3]
                  exact ⟨H7.out.res.far (by simp) _, H7.out.ver.set (k := 6) _, H7.out.low.setCell (p := ⟨w.heap.size + 1, 6, none⟩) (by show w.heap.size ≤ w.heap.size + 1; omega) _⟩)
                rw [← hr2]
                clear HT2 hn0 hv3 hr2
                go_upto_region 23 with fail
                rw [← hw8]
                clear hw8 c6 f6 H7 e0 g2
                by_cases hb0 : 0 < r2.size
                · have f1 := isEmpty_no (l := r2.toList) (by rw [Lib.toList_data]; exact ne_nil hb0)
                  have HZ : Hid (readV s = none) := Lib.hid (by rw [HF.out]; unfold finF; rw [if_neg (fun h => ne_nil hb0 h.1)])
                  clear HF hb0
                  go_wp2_with (first
                    | (refine builds_none26 rfl rfl ?_)
                    | (refine wpList_store_row rfl 45 (.tmp 2) (.tmp 114) rfl w.heap.size Ver.zero.arr rfl rfl 45 _ H8.out.res (info26 _) rfl (arr_one _) ?_))
                  refine bodyPost_ret (last _ Ver.zero false _ (H8.out.res.row _) rfl rfl) rfl ⟨Ver.zero, false, rfl, HZ.out, fun _ => rfl, below_row H8.out.low (Nat.le_refl _) _⟩
                · have f1 := isEmpty_yes (l := r2.toList) (by rw [Lib.toList_data]; exact nil_of hb0)
                  have hnil := nil_of hb0
                  have HFF : Hid (readV s = if v3.ok = true ∧ v3.text = s.data.toList then some v3 else none) := Lib.hid (by rw [HF.out]; unfold finF; rw [hnil]; simp)
                  cases ho : v3.ok with
                  | false =>
                    have HR : Hid (∀ W, Calls Tryz.prog 21 #[.agg v3.arr] W fun e w' => e = .returned (.bool false) ∧ Below W.heap.size W w') := Lib.hid (fun W => by have := right_any v3 W; rw [ho] at this; exact this)
                    have HZ : Hid (readV s = none) := Lib.hid (by rw [HFF.out, ho]; simp)
                    clear HF HFF hb0 hnil ho
                    go_wp2_with (refine guarded26 rfl (.tmp 4) rfl (w.heap.size + 1) rfl v3 H8.out.ver ?_)
                    refine (HR.out _).mono ?_
                    rintro e wf ⟨rfl, hb⟩
                    have Hf := Lib.hid (H8.out.on hb)
                    clear H8 hb HR
                    go_wp2_with (first
                      | (refine builds_none26 rfl rfl ?_)
                      | (refine wpList_store_row rfl 45 (.tmp 2) (.tmp 114) rfl w.heap.size Ver.zero.arr rfl rfl 45 _ Hf.out.res (info26 _) rfl (arr_one _) ?_))
                    refine bodyPost_ret (last _ Ver.zero false _ (Hf.out.res.row _) rfl rfl) rfl ⟨Ver.zero, false, rfl, HZ.out, fun _ => rfl, below_row Hf.out.low (Nat.le_refl _) _⟩
                  | true =>
                    have HR : Hid (∀ W, Calls Tryz.prog 21 #[.agg v3.arr] W fun e w' => e = .returned (.bool true) ∧ Below W.heap.size W w') := Lib.hid (fun W => by have := right_any v3 W; rw [ho] at this; exact this)
                    by_cases hts : v3.text = s.data.toList
                    · have HTX : Hid (∀ W, Calls Tryz.prog 38 #[.agg v3.arr] W fun e w' => e = .returned (.string s) ∧ Below W.heap.size W w') := Lib.hid (fun W => by have := rtext_any v3 ho W; rw [hts, ← ofB_eq rfl] at this; exact this)
                      have HZ : Hid (readV s = some v3) := Lib.hid (by rw [HFF.out, if_pos ⟨ho, hts⟩])
                      clear HF HFF hb0 hnil ho hts
                      go_wp2_with (refine guarded26 rfl (.tmp 4) rfl (w.heap.size + 1) rfl v3 H8.out.ver ?_)
                      refine (HR.out _).mono ?_
                      rintro e wf ⟨rfl, hb⟩
                      have Hf := Lib.hid (H8.out.on hb)
                      clear H8 hb HR
                      go_wp2_with (refine guarded26 rfl (.tmp 4) rfl (w.heap.size + 1) rfl v3 Hf.out.ver ?_)
                      refine (HTX.out _).mono ?_
                      rintro e wg ⟨rfl, hb⟩
                      have Hg := Lib.hid (Hf.out.on hb)
                      clear Hf hb HTX
                      go_wp2_with (first
                        | (refine wpList_load_row rfl 45 (.tmp 4) rfl (w.heap.size + 1) rfl 45 v3.arr (0, 0) _ Hg.out.ver Tryz.underlying45 rfl (info26 _) ?_)
                        | (refine wpList_store_row rfl 45 (.tmp 2) (.tmp 115) rfl w.heap.size v3.arr rfl rfl 45 _ Hg.out.res (info26 _) rfl (arr_one _) ?_))
                      refine bodyPost_ret (last _ v3 true _ (Hg.out.res.row _) rfl rfl) rfl ⟨v3, true, rfl, HZ.out, fun h => (by cases h), below_row Hg.out.low (Nat.le_refl _) _⟩
                    · obtain ⟨T, hT⟩ : ∃ T, T = ofB v3.text := ⟨_, rfl⟩
                      have HTX : Hid (∀ W, Calls Tryz.prog 38 #[.agg v3.arr] W fun e w' => e = .returned (.string T) ∧ Below W.heap.size W w') := Lib.hid (fun W => by rw [hT]; exact rtext_any v3 ho W)
                      have HZ : Hid (readV s = none) := Lib.hid (by rw [HFF.out, if_neg (fun h => hts h.2)])
                      have hne : ¬ T.toList = s.toList := fun e => hts (by rw [Lib.toList_data, Lib.toList_data, hT] at e; exact e)
                      have hne2 : (T.toList == s.toList) = false := by rw [beq_eq_false_iff_ne]; exact hne
                      have hne3 : decide (T.toList = s.toList) = false := decide_eq_false hne
                      clear HF HFF hb0 hnil ho hts hT
                      go_wp2_with (refine guarded26 rfl (.tmp 4) rfl (w.heap.size + 1) rfl v3 H8.out.ver ?_)
                      refine (HR.out _).mono ?_
                      rintro e wf ⟨rfl, hb⟩
                      have Hf := Lib.hid (H8.out.on hb)
                      clear H8 hb HR
                      go_wp2_with (refine guarded26 rfl (.tmp 4) rfl (w.heap.size + 1) rfl v3 Hf.out.ver ?_)
                      refine (HTX.out _).mono ?_
                      rintro e wg ⟨rfl, hb⟩
                      have Hg := Lib.hid (Hf.out.on hb)
                      clear Hf hb HTX
                      go_wp2_with (first
                        | (refine builds_none26 rfl rfl ?_)
                        | (refine wpList_store_row rfl 45 (.tmp 2) (.tmp 114) rfl w.heap.size Ver.zero.arr rfl rfl 45 _ Hg.out.res (info26 _) rfl (arr_one _) ?_))
                      refine bodyPost_ret (last _ Ver.zero false _ (Hg.out.res.row _) rfl rfl) rfl ⟨Ver.zero, false, rfl, HZ.out, fun _ => rfl, below_row Hg.out.low (Nat.le_refl _) _⟩
          · have g2 := isEmpty_yes (l := d.toList) (by rw [Lib.toList_data]; exact nil_of hd0)
            have hnil := nil_of hd0
            have HF : Hid (readV s = finF s.data.toList v2 d.data.toList) := Lib.hid (by
              rw [HTT.out]
              unfold tagF
              rw [← HDD.out, hnil, if_pos rfl, HV2.out, HA.out])
            clear HTT HDD HV2 HA hnil hd0
            go_upto_region 23 with fail
            clear g2
            by_cases hb0 : 0 < d.size
            · have f1 := isEmpty_no (l := d.toList) (by rw [Lib.toList_data]; exact ne_nil hb0)
              have HZ : Hid (readV s = none) := Lib.hid (by rw [HF.out]; unfold finF; rw [if_neg (fun h => ne_nil hb0 h.1)])
              clear HF hb0
              go_wp2_with (first
                | (refine builds_none26 rfl rfl ?_)
                | (refine wpList_store_row rfl 45 (.tmp 2) (.tmp 114) rfl w.heap.size Ver.zero.arr rfl rfl 45 _ H6.out.res (info26 _) rfl (arr_one _) ?_))
              refine bodyPost_ret (last _ Ver.zero false _ (H6.out.res.row _) rfl rfl) rfl ⟨Ver.zero, false, rfl, HZ.out, fun _ => rfl, below_row H6.out.low (Nat.le_refl _) _⟩
            · have f1 := isEmpty_yes (l := d.toList) (by rw [Lib.toList_data]; exact nil_of hb0)
              have hnil := nil_of hb0
              have HFF : Hid (readV s = if v2.ok = true ∧ v2.text = s.data.toList then some v2 else none) := Lib.hid (by rw [HF.out]; unfold finF; rw [hnil]; simp)
              cases ho : v2.ok with
              | false =>
                have HR : Hid (∀ W, Calls Tryz.prog 21 #[.agg v2.arr] W fun e w' => e = .returned (.bool false) ∧ Below W.heap.size W w') := Lib.hid (fun W => by have := right_any v2 W; rw [ho] at this; exact this)
                have HZ : Hid (readV s = none) := Lib.hid (by rw [HFF.out, ho]; simp)
                clear HF HFF hb0 hnil ho
                go_wp2_with (refine guarded26 rfl (.tmp 4) rfl (w.heap.size + 1) rfl v2 H6.out.ver ?_)
                refine (HR.out _).mono ?_
                rintro e wf ⟨rfl, hb⟩
                have Hf := Lib.hid (H6.out.on hb)
                clear H6 hb HR
                go_wp2_with (first
                  | (refine builds_none26 rfl rfl ?_)
                  | (refine wpList_store_row rfl 45 (.tmp 2) (.tmp 114) rfl w.heap.size Ver.zero.arr rfl rfl 45 _ Hf.out.res (info26 _) rfl (arr_one _) ?_))
                refine bodyPost_ret (last _ Ver.zero false _ (Hf.out.res.row _) rfl rfl) rfl ⟨Ver.zero, false, rfl, HZ.out, fun _ => rfl, below_row Hf.out.low (Nat.le_refl _) _⟩
              | true =>
                have HR : Hid (∀ W, Calls Tryz.prog 21 #[.agg v2.arr] W fun e w' => e = .returned (.bool true) ∧ Below W.heap.size W w') := Lib.hid (fun W => by have := right_any v2 W; rw [ho] at this; exact this)
                by_cases hts : v2.text = s.data.toList
                · have HTX : Hid (∀ W, Calls Tryz.prog 38 #[.agg v2.arr] W fun e w' => e = .returned (.string s) ∧ Below W.heap.size W w') := Lib.hid (fun W => by have := rtext_any v2 ho W; rw [hts, ← ofB_eq rfl] at this; exact this)
                  have HZ : Hid (readV s = some v2) := Lib.hid (by rw [HFF.out, if_pos ⟨ho, hts⟩])
                  clear HF HFF hb0 hnil ho hts
                  go_wp2_with (refine guarded26 rfl (.tmp 4) rfl (w.heap.size + 1) rfl v2 H6.out.ver ?_)
                  refine (HR.out _).mono ?_
                  rintro e wf ⟨rfl, hb⟩
                  have Hf := Lib.hid (H6.out.on hb)
                  clear H6 hb HR
                  go_wp2_with (refine guarded26 rfl (.tmp 4) rfl (w.heap.size + 1) rfl v2 Hf.out.ver ?_)
                  refine (HTX.out _).mono ?_
                  rintro e wg ⟨rfl, hb⟩
                  have Hg := Lib.hid (Hf.out.on hb)
                  clear Hf hb HTX
                  go_wp2_with (first
                    | (refine wpList_load_row rfl 45 (.tmp 4) rfl (w.heap.size + 1) rfl 45 v2.arr (0, 0) _ Hg.out.ver Tryz.underlying45 rfl (info26 _) ?_)
                    | (refine wpList_store_row rfl 45 (.tmp 2) (.tmp 115) rfl w.heap.size v2.arr rfl rfl 45 _ Hg.out.res (info26 _) rfl (arr_one _) ?_))
                  refine bodyPost_ret (last _ v2 true _ (Hg.out.res.row _) rfl rfl) rfl ⟨v2, true, rfl, HZ.out, fun h => (by cases h), below_row Hg.out.low (Nat.le_refl _) _⟩
                · obtain ⟨T, hT⟩ : ∃ T, T = ofB v2.text := ⟨_, rfl⟩
                  have HTX : Hid (∀ W, Calls Tryz.prog 38 #[.agg v2.arr] W fun e w' => e = .returned (.string T) ∧ Below W.heap.size W w') := Lib.hid (fun W => by rw [hT]; exact rtext_any v2 ho W)
                  have HZ : Hid (readV s = none) := Lib.hid (by rw [HFF.out, if_neg (fun h => hts h.2)])
                  have hne : ¬ T.toList = s.toList := fun e => hts (by rw [Lib.toList_data, Lib.toList_data, hT] at e; exact e)
                  have hne2 : (T.toList == s.toList) = false := by rw [beq_eq_false_iff_ne]; exact hne
                  have hne3 : decide (T.toList = s.toList) = false := decide_eq_false hne
                  clear HF HFF hb0 hnil ho hts hT
                  go_wp2_with (refine guarded26 rfl (.tmp 4) rfl (w.heap.size + 1) rfl v2 H6.out.ver ?_)
                  refine (HR.out _).mono ?_
                  rintro e wf ⟨rfl, hb⟩
                  have Hf := Lib.hid (H6.out.on hb)
                  clear H6 hb HR
                  go_wp2_with (refine guarded26 rfl (.tmp 4) rfl (w.heap.size + 1) rfl v2 Hf.out.ver ?_)
                  refine (HTX.out _).mono ?_
                  rintro e wg ⟨rfl, hb⟩
                  have Hg := Lib.hid (Hf.out.on hb)
                  clear Hf hb HTX
                  go_wp2_with (first
                    | (refine builds_none26 rfl rfl ?_)
                    | (refine wpList_store_row rfl 45 (.tmp 2) (.tmp 114) rfl w.heap.size Ver.zero.arr rfl rfl 45 _ Hg.out.res (info26 _) rfl (arr_one _) ?_))
                  refine bodyPost_ret (last _ Ver.zero false _ (Hg.out.res.row _) rfl rfl) rfl ⟨Ver.zero, false, rfl, HZ.out, fun _ => rfl, below_row Hg.out.low (Nat.le_refl _) _⟩
        · have e45 : ((c0.toNat : Int) == 45) = false := by
            rw [beq_eq_false_iff_ne]
            intro e
            exact h45 (UInt8.toNat_inj.1 (by show c0.toNat = 45; omega))
          have HF : Hid (readV s = finF s.data.toList v b.data.toList) := Lib.hid (by
            rw [HT.out]
            unfold tailF
            rw [if_neg (by rw [hhd]; simpa using h45)])
          clear HT h45 hhd hc0
          go_upto_region 23 with fail
          clear e45 hix0 p1 g1 hb1
          by_cases hb0 : 0 < b.size
          · have f1 := isEmpty_no (l := b.toList) (by rw [Lib.toList_data]; exact ne_nil hb0)
            have HZ : Hid (readV s = none) := Lib.hid (by rw [HF.out]; unfold finF; rw [if_neg (fun h => ne_nil hb0 h.1)])
            clear HF hb0
            go_wp2_with (first
              | (refine builds_none26 rfl rfl ?_)
              | (refine wpList_store_row rfl 45 (.tmp 2) (.tmp 114) rfl w.heap.size Ver.zero.arr rfl rfl 45 _ H1.out.res (info26 _) rfl (arr_one _) ?_))
            refine bodyPost_ret (last _ Ver.zero false _ (H1.out.res.row _) rfl rfl) rfl ⟨Ver.zero, false, rfl, HZ.out, fun _ => rfl, below_row H1.out.low (Nat.le_refl _) _⟩
          · have f1 := isEmpty_yes (l := b.toList) (by rw [Lib.toList_data]; exact nil_of hb0)
            have hnil := nil_of hb0
            have HFF : Hid (readV s = if v.ok = true ∧ v.text = s.data.toList then some v else none) := Lib.hid (by rw [HF.out]; unfold finF; rw [hnil]; simp)
            cases ho : v.ok with
            | false =>
              have HR : Hid (∀ W, Calls Tryz.prog 21 #[.agg v.arr] W fun e w' => e = .returned (.bool false) ∧ Below W.heap.size W w') := Lib.hid (fun W => by have := right_any v W; rw [ho] at this; exact this)
              have HZ : Hid (readV s = none) := Lib.hid (by rw [HFF.out, ho]; simp)
              clear HF HFF hb0 hnil ho
              go_wp2_with (refine guarded26 rfl (.tmp 4) rfl (w.heap.size + 1) rfl v H1.out.ver ?_)
              refine (HR.out _).mono ?_
              rintro e wf ⟨rfl, hb⟩
              have Hf := Lib.hid (H1.out.on hb)
              clear H1 hb HR
              go_wp2_with (first
                | (refine builds_none26 rfl rfl ?_)
                | (refine wpList_store_row rfl 45 (.tmp 2) (.tmp 114) rfl w.heap.size Ver.zero.arr rfl rfl 45 _ Hf.out.res (info26 _) rfl (arr_one _) ?_))
              refine bodyPost_ret (last _ Ver.zero false _ (Hf.out.res.row _) rfl rfl) rfl ⟨Ver.zero, false, rfl, HZ.out, fun _ => rfl, below_row Hf.out.low (Nat.le_refl _) _⟩
            | true =>
              have HR : Hid (∀ W, Calls Tryz.prog 21 #[.agg v.arr] W fun e w' => e = .returned (.bool true) ∧ Below W.heap.size W w') := Lib.hid (fun W => by have := right_any v W; rw [ho] at this; exact this)
              by_cases hts : v.text = s.data.toList
              · have HTX : Hid (∀ W, Calls Tryz.prog 38 #[.agg v.arr] W fun e w' => e = .returned (.string s) ∧ Below W.heap.size W w') := Lib.hid (fun W => by have := rtext_any v ho W; rw [hts, ← ofB_eq rfl] at this; exact this)
                have HZ : Hid (readV s = some v) := Lib.hid (by rw [HFF.out, if_pos ⟨ho, hts⟩])
                clear HF HFF hb0 hnil ho hts
                go_wp2_with (refine guarded26 rfl (.tmp 4) rfl (w.heap.size + 1) rfl v H1.out.ver ?_)
                refine (HR.out _).mono ?_
                rintro e wf ⟨rfl, hb⟩
                have Hf := Lib.hid (H1.out.on hb)
                clear H1 hb HR
                go_wp2_with (refine guarded26 rfl (.tmp 4) rfl (w.heap.size + 1) rfl v Hf.out.ver ?_)
                refine (HTX.out _).mono ?_
                rintro e wg ⟨rfl, hb⟩
                have Hg := Lib.hid (Hf.out.on hb)
                clear Hf hb HTX
                go_wp2_with (first
                  | (refine wpList_load_row rfl 45 (.tmp 4) rfl (w.heap.size + 1) rfl 45 v.arr (0, 0) _ Hg.out.ver Tryz.underlying45 rfl (info26 _) ?_)
                  | (refine wpList_store_row rfl 45 (.tmp 2) (.tmp 115) rfl w.heap.size v.arr rfl rfl 45 _ Hg.out.res (info26 _) rfl (arr_one _) ?_))
                refine bodyPost_ret (last _ v true _ (Hg.out.res.row _) rfl rfl) rfl ⟨v, true, rfl, HZ.out, fun h => (by cases h), below_row Hg.out.low (Nat.le_refl _) _⟩
              · obtain ⟨T, hT⟩ : ∃ T, T = ofB v.text := ⟨_, rfl⟩
                have HTX : Hid (∀ W, Calls Tryz.prog 38 #[.agg v.arr] W fun e w' => e = .returned (.string T) ∧ Below W.heap.size W w') := Lib.hid (fun W => by rw [hT]; exact rtext_any v ho W)
                have HZ : Hid (readV s = none) := Lib.hid (by rw [HFF.out, if_neg (fun h => hts h.2)])
                have hne : ¬ T.toList = s.toList := fun e => hts (by rw [Lib.toList_data, Lib.toList_data, hT] at e; exact e)
                have hne2 : (T.toList == s.toList) = false := by rw [beq_eq_false_iff_ne]; exact hne
                have hne3 : decide (T.toList = s.toList) = false := decide_eq_false hne
                clear HF HFF hb0 hnil ho hts hT
                go_wp2_with (refine guarded26 rfl (.tmp 4) rfl (w.heap.size + 1) rfl v H1.out.ver ?_)
                refine (HR.out _).mono ?_
                rintro e wf ⟨rfl, hb⟩
                have Hf := Lib.hid (H1.out.on hb)
                clear H1 hb HR
                go_wp2_with (refine guarded26 rfl (.tmp 4) rfl (w.heap.size + 1) rfl v Hf.out.ver ?_)
                refine (HTX.out _).mono ?_
                rintro e wg ⟨rfl, hb⟩
                have Hg := Lib.hid (Hf.out.on hb)
                clear Hf hb HTX
                go_wp2_with (first
                  | (refine builds_none26 rfl rfl ?_)
                  | (refine wpList_store_row rfl 45 (.tmp 2) (.tmp 114) rfl w.heap.size Ver.zero.arr rfl rfl 45 _ Hg.out.res (info26 _) rfl (arr_one _) ?_))
                refine bodyPost_ret (last _ Ver.zero false _ (Hg.out.res.row _) rfl rfl) rfl ⟨Ver.zero, false, rfl, HZ.out, fun _ => rfl, below_row Hg.out.low (Nat.le_refl _) _⟩
      · have g1 := isEmpty_yes (l := b.toList) (by rw [Lib.toList_data]; exact nil_of hb1)
        have hnil := nil_of hb1
        have HF : Hid (readV s = finF s.data.toList v b.data.toList) := Lib.hid (by
          rw [HT.out]
          unfold tailF
          rw [if_neg (by rw [hnil]; simp)])
        clear HT hnil
        go_upto_region 23 with fail
        clear g1 hb1
        by_cases hb0 : 0 < b.size
        · have f1 := isEmpty_no (l := b.toList) (by rw [Lib.toList_data]; exact ne_nil hb0)
          have HZ : Hid (readV s = none) := Lib.hid (by rw [HF.out]; unfold finF; rw [if_neg (fun h => ne_nil hb0 h.1)])
          clear HF hb0
          go_wp2_with (first
            | (refine builds_none26 rfl rfl ?_)
            | (refine wpList_store_row rfl 45 (.tmp 2) (.tmp 114) rfl w.heap.size Ver.zero.arr rfl rfl 45 _ H1.out.res (info26 _) rfl (arr_one _) ?_))
          refine bodyPost_ret (last _ Ver.zero false _ (H1.out.res.row _) rfl rfl) rfl ⟨Ver.zero, false, rfl, HZ.out, fun _ => rfl, below_row H1.out.low (Nat.le_refl _) _⟩
        · have f1 := isEmpty_yes (l := b.toList) (by rw [Lib.toList_data]; exact nil_of hb0)
          have hnil := nil_of hb0
          have HFF : Hid (readV s = if v.ok = true ∧ v.text = s.data.toList then some v else none) := Lib.hid (by rw [HF.out]; unfold finF; rw [hnil]; simp)
          cases ho : v.ok with
          | false =>
            have HR : Hid (∀ W, Calls Tryz.prog 21 #[.agg v.arr] W fun e w' => e = .returned (.bool false) ∧ Below W.heap.size W w') := Lib.hid (fun W => by have := right_any v W; rw [ho] at this; exact this)
            have HZ : Hid (readV s = none) := Lib.hid (by rw [HFF.out, ho]; simp)
            clear HF HFF hb0 hnil ho
            go_wp2_with (refine guarded26 rfl (.tmp 4) rfl (w.heap.size + 1) rfl v H1.out.ver ?_)
            refine (HR.out _).mono ?_
            rintro e wf ⟨rfl, hb⟩
            have Hf := Lib.hid (H1.out.on hb)
            clear H1 hb HR
            go_wp2_with (first
              | (refine builds_none26 rfl rfl ?_)
              | (refine wpList_store_row rfl 45 (.tmp 2) (.tmp 114) rfl w.heap.size Ver.zero.arr rfl rfl 45 _ Hf.out.res (info26 _) rfl (arr_one _) ?_))
            refine bodyPost_ret (last _ Ver.zero false _ (Hf.out.res.row _) rfl rfl) rfl ⟨Ver.zero, false, rfl, HZ.out, fun _ => rfl, below_row Hf.out.low (Nat.le_refl _) _⟩
          | true =>
            have HR : Hid (∀ W, Calls Tryz.prog 21 #[.agg v.arr] W fun e w' => e = .returned (.bool true) ∧ Below W.heap.size W w') := Lib.hid (fun W => by have := right_any v W; rw [ho] at this; exact this)
            by_cases hts : v.text = s.data.toList
            · have HTX : Hid (∀ W, Calls Tryz.prog 38 #[.agg v.arr] W fun e w' => e = .returned (.string s) ∧ Below W.heap.size W w') := Lib.hid (fun W => by have := rtext_any v ho W; rw [hts, ← ofB_eq rfl] at this; exact this)
              have HZ : Hid (readV s = some v) := Lib.hid (by rw [HFF.out, if_pos ⟨ho, hts⟩])
              clear HF HFF hb0 hnil ho hts
              go_wp2_with (refine guarded26 rfl (.tmp 4) rfl (w.heap.size + 1) rfl v H1.out.ver ?_)
              refine (HR.out _).mono ?_
              rintro e wf ⟨rfl, hb⟩
              have Hf := Lib.hid (H1.out.on hb)
              clear H1 hb HR
              go_wp2_with (refine guarded26 rfl (.tmp 4) rfl (w.heap.size + 1) rfl v Hf.out.ver ?_)
              refine (HTX.out _).mono ?_
              rintro e wg ⟨rfl, hb⟩
              have Hg := Lib.hid (Hf.out.on hb)
              clear Hf hb HTX
              go_wp2_with (first
                | (refine wpList_load_row rfl 45 (.tmp 4) rfl (w.heap.size + 1) rfl 45 v.arr (0, 0) _ Hg.out.ver Tryz.underlying45 rfl (info26 _) ?_)
                | (refine wpList_store_row rfl 45 (.tmp 2) (.tmp 115) rfl w.heap.size v.arr rfl rfl 45 _ Hg.out.res (info26 _) rfl (arr_one _) ?_))
              refine bodyPost_ret (last _ v true _ (Hg.out.res.row _) rfl rfl) rfl ⟨v, true, rfl, HZ.out, fun h => (by cases h), below_row Hg.out.low (Nat.le_refl _) _⟩
            · obtain ⟨T, hT⟩ : ∃ T, T = ofB v.text := ⟨_, rfl⟩
              have HTX : Hid (∀ W, Calls Tryz.prog 38 #[.agg v.arr] W fun e w' => e = .returned (.string T) ∧ Below W.heap.size W w') := Lib.hid (fun W => by rw [hT]; exact rtext_any v ho W)
              have HZ : Hid (readV s = none) := Lib.hid (by rw [HFF.out, if_neg (fun h => hts h.2)])
              have hne : ¬ T.toList = s.toList := fun e => hts (by rw [Lib.toList_data, Lib.toList_data, hT] at e; exact e)
              have hne2 : (T.toList == s.toList) = false := by rw [beq_eq_false_iff_ne]; exact hne
              have hne3 : decide (T.toList = s.toList) = false := decide_eq_false hne
              clear HF HFF hb0 hnil ho hts hT
              go_wp2_with (refine guarded26 rfl (.tmp 4) rfl (w.heap.size + 1) rfl v H1.out.ver ?_)
              refine (HR.out _).mono ?_
              rintro e wf ⟨rfl, hb⟩
              have Hf := Lib.hid (H1.out.on hb)
              clear H1 hb HR
              go_wp2_with (refine guarded26 rfl (.tmp 4) rfl (w.heap.size + 1) rfl v Hf.out.ver ?_)
              refine (HTX.out _).mono ?_
              rintro e wg ⟨rfl, hb⟩
              have Hg := Lib.hid (Hf.out.on hb)
              clear Hf hb HTX
              go_wp2_with (first
                | (refine builds_none26 rfl rfl ?_)
                | (refine wpList_store_row rfl 45 (.tmp 2) (.tmp 114) rfl w.heap.size Ver.zero.arr rfl rfl 45 _ Hg.out.res (info26 _) rfl (arr_one _) ?_))
              refine bodyPost_ret (last _ Ver.zero false _ (Hg.out.res.row _) rfl rfl) rfl ⟨Ver.zero, false, rfl, HZ.out, fun _ => rfl, below_row Hg.out.low (Nat.le_refl _) _⟩
end Go.Proofs.YtlfehjjnepiljaaGreatDoor
