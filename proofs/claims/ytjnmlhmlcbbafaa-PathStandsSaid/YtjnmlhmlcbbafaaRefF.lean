/- Proved here: Beneath of puncheonref01 in all cases; less of puncheonref01. -/
import Derived.Test.YtjnmlhmlcbbafaaRefE
namespace Go.Proofs.Ytjnmlhmlcbbafaa
open Go.RowKit Go.Shelf

set_option maxRecDepth 100000 in
set_option maxHeartbeats 2000000 in
theorem rben_root (w : World) : Calls Try.prog 28 #[.string ⟨#[47]⟩, .string ⟨#[47]⟩] w (RYes [] w) := by
  go_enter Try.func28, Try.ntmps28
  go_wp2_with fail
  refine (rnames_root0 _).mono ?_
  rintro e w1 ⟨rfl, rfl⟩
  go_wp2_with fail
  refine (rnames_root0 _).mono ?_
  rintro e w2 ⟨rfl, rfl⟩
  go_wp2
  go_loopw [37] (fun i wr => i = .int .i64 0 ∧ wr = w) (fun i _ => 0)
  case atStart => exact ⟨rfl, rfl⟩
  case round =>
    obtain ⟨rfl, rfl⟩ := hrel
    go_wp2
    go_ret2
    exact ⟨_, rfl, RdS.nil _, Below.refl _ _⟩

theorem pre_no (l d : List Str) (h : ¬ d <+: l) : l.length < d.length ∨ (d.length ≤ l.length ∧ ∃ (j : Nat) (x y : Str), l[j]? = some x ∧ d[j]? = some y ∧ y ≠ x) := by
  induction d generalizing l with
  | nil => exact absurd (List.nil_prefix) h
  | cons a d ih =>
    cases l with
    | nil => left; simp
    | cons b l =>
      by_cases e : a = b
      · subst e
        rcases ih l (fun k => h (List.cons_prefix_cons.2 ⟨rfl, k⟩)) with k | ⟨k, j, x, y, h1, h2, h3⟩
        · left; simp; omega
        · right; exact ⟨by simp; omega, j + 1, x, y, by simpa using h1, by simpa using h2, h3⟩
      · by_cases hl : l.length < d.length
        · left; simp; omega
        · right; exact ⟨by simp; omega, 0, b, a, rfl, rfl, e⟩

theorem rben_any (p d : ByteArray) (hp : p.size ≤ 1000000) (hd : d.size ≤ 1000000) (w : World) :
    (underB p.data.toList d.data.toList = true → Calls Try.prog 28 #[.string p, .string d] w (RYes ((namesL p.data.toList).drop (namesL d.data.toList).length) w)) ∧
    (underB p.data.toList d.data.toList = false → Calls Try.prog 28 #[.string p, .string d] w (RNo w)) := by
  by_cases hv : validB p.data.toList = true
  · by_cases hv2 : validB d.data.toList = true
    · have hu := underB_is _ _ hv hv2
      refine ⟨fun h => ?_, fun h => ?_⟩
      · have h := hu.1 h
        by_cases hr : p.data.toList = [47]
        · have e0 : namesL p.data.toList = [] := (names_root _ hv).2 hr
          rw [e0] at h
          have e1 : namesL d.data.toList = [] := List.prefix_nil.1 h
          have hr2 := (names_root _ hv2).1 e1
          rw [e0, e1]
          have ep : p = ⟨#[47]⟩ := ba_eq p [47] hr
          have ed : d = ⟨#[47]⟩ := ba_eq d [47] hr2
          subst ep; subst ed
          exact rben_root w
        · exact rben_yes p d hp hd hr hv hv2 h w
      · have h : ¬ namesL d.data.toList <+: namesL p.data.toList := fun k => by rw [hu.2 k] at h; cases h
        rcases pre_no _ _ h with k | ⟨k, j, x, y, h1, h2, h3⟩
        · exact rben_long p d hp hd hv hv2 k w
        · exact rben_miss p d hp hd hv hv2 k j x y h1 h2 h3 w
    · have hv2 := Bool.eq_false_iff.2 hv2
      refine ⟨fun h => ?_, fun _ => rben_bad2 p d hp hd hv hv2 w⟩
      rw [underB_no2 _ _ hv2] at h; cases h
  · have hv := Bool.eq_false_iff.2 hv
    refine ⟨fun h => ?_, fun _ => rben_bad1 p d hp hd hv w⟩
    rw [underB_no1 _ _ hv] at h; cases h

theorem cb_ends (a b : Str) (h : a = [] ∨ b = []) : decide (Lib.compareBytes a b < 0) = decide (a.length < b.length) := by
  rcases h with rfl | rfl
  · cases b with
    | nil => rfl
    | cons y ys => simp [Lib.compareBytes]
  · cases a with
    | nil => rfl
    | cons x xs => simp [Lib.compareBytes]

theorem fin_less {m n k : Nat} {R : Bool} (he : decide (m - k < n - k) = R) (hk : k ≤ m ∧ k ≤ n) : Ending.returned (.bool (decide (m < n))) = .returned (.bool R) := by
  refine ret_bool ?_
  rw [← he]
  exact decide_eq_decide.2 (by omega)

theorem byte_lt (x y : UInt8) : x < y ↔ (x.toNat : Int) < (y.toNat : Int) := by
  rw [UInt8.lt_iff_toNat_lt]; omega

set_option maxRecDepth 100000 in
set_option maxHeartbeats 2000000 in
theorem rless_any (a b : ByteArray) (ha : a.size ≤ 1000000) (w : World) :
    Calls Try.prog 46 #[.string a, .string b] w fun e w' => e = .returned (.bool (decide (Lib.compareBytes a.data.toList b.data.toList < 0))) ∧ Below w.heap.size w w' := by
  obtain ⟨R, hR⟩ : ∃ R, decide (Lib.compareBytes a.data.toList b.data.toList < 0) = R := ⟨_, rfl⟩
  rw [hR]
  have HR := Lib.hid hR
  have HA := Lib.hid (show a.data.toList.length = a.size from rfl)
  have HB := Lib.hid (show b.data.toList.length = b.size from rfl)
  clear hR
  go_enter Try.func46, Try.ntmps46
  go_wp2
  go_loopw [5] (fun i wr => ∃ k : Nat, k ≤ a.size ∧ k ≤ b.size ∧ i = .int .i64 k ∧ Hid (decide (Lib.compareBytes (a.data.toList.drop k) (b.data.toList.drop k) < 0) = R) ∧ Hid (Below w.heap.size w wr)) (fun i _ => a.size - (intOf i).toNat)
  case atStart => exact ⟨0, Nat.zero_le _, Nat.zero_le _, rfl, HR, Below.refl _ _⟩
  case round =>
    obtain ⟨k, hka, hkb, rfl, HR1, HW⟩ := hrel
    clear HR
    by_cases h1 : k < a.size
    · by_cases h2 : k < b.size
      · have ea : a.data.toList.drop k = a[k] :: a.data.toList.drop (k + 1) := (List.getElem_cons_drop (by rw [HA.out]; exact h1)).symm
        have eb : b.data.toList.drop k = b[k] :: b.data.toList.drop (k + 1) := (List.getElem_cons_drop (by rw [HB.out]; exact h2)).symm
        have HE := Lib.hid HR1.out
        have he := HR1.out
        rw [ea, eb, cb_cons] at he
        clear ea eb
        rcases byte_tri a[k] b[k] with hlt | heq | hgt
        · rw [if_pos hlt] at he
          have HLT := Lib.hid (UInt8.lt_iff_toNat_lt.1 hlt)
          have hlt := (byte_lt _ _).1 hlt
          have q1 : ((a[k].toNat : Int) == (b[k].toNat : Int)) = false := by rw [beq_eq_false_iff_ne]; omega
          have q2 : ((a[k].toNat : Int) != (b[k].toNat : Int)) = true := by rw [bne, q1]; rfl
          have q3 : decide ((a[k].toNat : Int) < (b[k].toNat : Int)) = true := decide_eq_true hlt
          clear hlt
          go_wp2
          go_region
          go_wp2
          go_region
          go_wp2
          go_ret
          exact ⟨ret_bool ((decide_eq_true HLT.out).trans (by rw [← he]; rfl)), below_drewN HW.out 2⟩
        · have q1 : ((a[k].toNat : Int) == (b[k].toNat : Int)) = true := by rw [heq, beq_self_eq_true]
          have q2 : ((a[k].toNat : Int) != (b[k].toNat : Int)) = false := by rw [bne, q1]; rfl
          rw [heq, if_neg (byte_irr _), if_neg (byte_irr _)] at he
          have HE2 := Lib.hid he
          clear heq he
          go_wp2
          go_region
          go_wp2
          go_roundw
          case rel => exact ⟨k + 1, h1, h2, by go_num, HE2, below_drewN HW.out 1⟩
          case measure => simp [intOf]; omega
        · rw [if_neg (byte_asymm _ _ hgt), if_pos hgt] at he
          have HLT := Lib.hid (UInt8.lt_iff_toNat_lt.1 hgt)
          have hgt := (byte_lt _ _).1 hgt
          have q1 : ((a[k].toNat : Int) == (b[k].toNat : Int)) = false := by rw [beq_eq_false_iff_ne]; omega
          have q2 : ((a[k].toNat : Int) != (b[k].toNat : Int)) = true := by rw [bne, q1]; rfl
          have q3 : decide ((a[k].toNat : Int) < (b[k].toNat : Int)) = false := decide_eq_false (by omega)
          clear hgt
          go_wp2
          go_region
          go_wp2
          go_region
          go_wp2
          go_ret
          exact ⟨ret_bool ((decide_eq_false (Nat.lt_asymm HLT.out)).trans (by rw [← he]; rfl)), below_drewN HW.out 2⟩
      · have he := HR1.out
        rw [cb_ends _ _ (.inr (List.drop_of_length_le (by rw [HB.out]; omega))), List.length_drop, List.length_drop, HA.out, HB.out] at he
        go_wp2
        go_ret
        exact ⟨fin_less he (by omega), HW.out⟩
    · have he := HR1.out
      rw [cb_ends _ _ (.inl (List.drop_of_length_le (by rw [HA.out]; omega))), List.length_drop, List.length_drop, HA.out, HB.out] at he
      go_wp2
      go_ret
      exact ⟨fin_less he (by omega), HW.out⟩
end Go.Proofs.Ytjnmlhmlcbbafaa
