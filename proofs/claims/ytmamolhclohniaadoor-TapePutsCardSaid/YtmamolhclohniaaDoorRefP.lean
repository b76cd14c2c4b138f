/- Proved here: Right and Digits of puncheonref02. -/
import Derived.Test.YtmamolhclohniaaDoorJoins2
namespace Go.Proofs.YtmamolhclohniaaDoor
open Go.RowKit Go.Shelf

set_option maxHeartbeats 400000 in
theorem rright_any (p : Part) (w : World) : Calls Tryd.prog 10 #[aggP p] w fun e w' => e = .returned (.bool (rightB p)) ∧ Below w.heap.size w w' := by
  obtain ⟨i, n, t⟩ := p
  unfold aggP
  cases i with
  | true =>
    by_cases hn : n = 0
    · subst hn
      have HE : Hid (rightB ⟨true, 0, t⟩ = true) := Lib.hid rfl
      rw [HE.out]
      go_enter Tryd.func10, Tryd.ntmps10
      go_wp2
      go_ret
      exact ⟨rfl, (Below.refl _ _).alloc (Nat.le_refl _) _⟩
    · have HE : Hid (rightB ⟨true, n, t⟩ = false) := Lib.hid (by simp [rightB, hn])
      rw [HE.out]
      have h1 : ((n : Int) == 0) = false := by rw [beq_eq_false_iff_ne]; omega
      clear hn
      go_enter Tryd.func10, Tryd.ntmps10
      go_wp2
      all_goals first | (go_ret; exact ⟨rfl, (Below.refl _ _).alloc (Nat.le_refl _) _⟩) | (exfalso; omega)
  | false =>
    by_cases ht : t = []
    · subst ht
      have HE : Hid (rightB ⟨false, n, []⟩ = true) := Lib.hid rfl
      rw [HE.out]
      go_enter Tryd.func10, Tryd.ntmps10
      go_wp2
      go_ret
      exact ⟨rfl, (Below.refl _ _).alloc (Nat.le_refl _) _⟩
    · have HE : Hid (rightB ⟨false, n, t⟩ = false) := Lib.hid (by simp [rightB, ht])
      rw [HE.out]
      have h1 : t.isEmpty = false := by cases t <;> simp_all
      have h2 : (⟨t.toArray⟩ : ByteArray).toList = t := Lib.toList_data _
      clear ht
      go_enter Tryd.func10, Tryd.ntmps10
      go_wp2
      all_goals first | (go_ret; exact ⟨rfl, (Below.refl _ _).alloc (Nat.le_refl _) _⟩) | (exfalso; simp_all; done)

theorem dig_lit (n : Nat) : ((UInt8.ofNat (48 + n % 10)).toNat : Int) = 48 + (n : Int) % 10 := by
  rw [ofNat_dg (n % 10) (by omega)]
  omega

set_option maxRecDepth 100000 in
set_option maxHeartbeats 1000000 in
theorem rdigits_any (n : Nat) (hn : n < 18446744073709551616) (w : World) : Calls Tryd.prog 32 #[.int .u64 n] w fun e w' => e = .returned (.string ⟨(Lib.decDigits n).toArray⟩) ∧ Below w.heap.size w w' := by
  induction n using Nat.strongRecOn generalizing w with
  | ind n ih =>
    obtain ⟨c, hc⟩ : ∃ c, c = UInt8.ofNat (48 + n % 10) := ⟨_, rfl⟩
    have hcv : (convert 49 9 (.slice (some ⟨w.heap.size, 0, none⟩) 1 1)).run Tryd.prog (w.alloc (.cells #[.int .u8 (48 + (n : Int) % 10)] 5)) = .ok (.string ⟨#[c]⟩) (w.alloc (.cells #[.int .u8 (48 + (n : Int) % 10)] 5)) := by
      refine run_convert_bytes_back (P := Tryd.prog) _ 49 9 5 ⟨w.heap.size, 0, none⟩ 1 [c] Tryd.underlying49 Tryd.underlying5 Tryd.underlying9 (fun j hj => ?_)
      have : j = 0 := by simpa using hj
      subst this
      rw [add_at, World.cell?_alloc_new]
      simp only [List.getElem_cons_zero]
      rw [hc, dig_lit]
      rfl
    have hm0 : (0 : Int) ≤ (n : Int) % 10 := by omega
    have hm1 : (n : Int) % 10 ≤ 9 := by omega
    have hb0 := bal (Below.refl _ w) (.cells #[.int .u8 (48 + (n : Int) % 10)] 5)
    by_cases h : n < 10
    · have HD : Hid ((⟨(Lib.decDigits n).toArray⟩ : ByteArray) = ⟨#[c]⟩) := Lib.hid (by rw [Lib.decDigits_one h, hc, Nat.mod_eq_of_lt h])
      rw [HD.out]
      have t1 : decide ((10 : Int) ≤ (n : Int)) = false := decide_eq_false (by omega)
      clear ih hc
      go_enter Tryd.func32, Tryd.ntmps32
      go_wp2_with fail
      go_ret
      exact ⟨rfl, hb0⟩
    · have HD : Hid ((⟨(Lib.decDigits n).toArray⟩ : ByteArray) = ⟨(Lib.decDigits (n / 10)).toArray⟩ ++ ⟨#[c]⟩) := Lib.hid (by
        have := cat_eq (Lib.decDigits (n / 10)) [c]
        rw [this, dec_unf n h, hc])
      rw [HD.out]
      have t1 : decide ((10 : Int) ≤ (n : Int)) = true := decide_eq_true (by omega)
      have hl := dec_len (n / 10) (by omega)
      have HI := Lib.hid (ih (n / 10) (by omega) (by omega))
      clear ih hc
      go_enter Tryd.func32, Tryd.ntmps32
      go_wp2_with fail
      have hdi : ((n : Int) / 10) = ((n / 10 : Nat) : Int) := by omega
      rw [hdi]
      clear hdi
      refine (HI.out _).mono ?_
      rintro e w1 ⟨rfl, hb1⟩
      go_wp2_with fail
      go_ret
      exact ⟨rfl, bch hb0 hb1⟩
end Go.Proofs.YtmamolhclohniaaDoor
