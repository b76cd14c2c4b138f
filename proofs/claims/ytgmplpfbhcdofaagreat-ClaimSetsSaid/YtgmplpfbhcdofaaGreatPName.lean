/- Proved here: letter, and Name of package path: what each hands back for every text. -/
import Derived.Test.YtgmplpfbhcdofaaGreatRows
import Derived.Test.YtgmplpfbhcdofaaGreatPMath
import Derived.WalkKit
import Derived.Lib.Strings
import Derived.Lib.Hide
import Derived.WalkSpells
import Derived.WalkLawsBesides
namespace Go.Proofs.YtgmplpfbhcdofaaGreat.Pt
open Go.RowKit

theorem ret_bool {a b : Bool} (h : a = b) : Ending.returned (.bool a) = .returned (.bool b) := by rw [h]

set_option maxHeartbeats 400000 in
theorem letter_any (r : Int) (w : World) : Calls Tryz.prog 151 #[.int .i32 r] w fun e w' => e = .returned (.bool (letB r)) ∧ w = w' := by
  by_cases h : letB r = true
  · have h' : 97 ≤ r ∧ r ≤ 122 ∨ 48 ≤ r ∧ r ≤ 57 ∨ r = 46 ∨ r = 95 ∨ r = 43 ∨ r = 45 := by simpa [letB] using h
    rw [h]
    clear h
    go_enter Tryz.func151, Tryz.ntmps151
    go_wp2
    all_goals (go_ret; exact ⟨rfl, rfl⟩)
  · have h' : ¬ (97 ≤ r ∧ r ≤ 122 ∨ 48 ≤ r ∧ r ≤ 57 ∨ r = 46 ∨ r = 95 ∨ r = 43 ∨ r = 45) := by simpa [letB] using h
    rw [Bool.eq_false_iff.2 h]
    clear h
    go_enter Tryz.func151, Tryz.ntmps151
    go_wp2
    all_goals (go_ret; exact ⟨rfl, rfl⟩)

theorem isEmpty_no {l : List UInt8} (h : l ≠ []) : l.isEmpty = false := by cases l <;> simp_all
theorem beq_no {l m : List UInt8} (h : l ≠ m) : (l == m) = false := by simp [h]

set_option maxHeartbeats 1000000 in
theorem name_any (s : ByteArray) (w : World) : Calls Tryz.prog 124 #[.string s] w fun e w' => e = .returned (.bool (nameB s.data.toList)) ∧ Below w.heap.size w w' := by
  have hl : s.data.toList.length = s.size := rfl
  by_cases h1 : s.toList = [] ∨ s.toList = [46] ∨ s.toList = [46, 46] ∨ (32 : Int) < (s.size : Int)
  · rw [nameB_no _ (by
      rw [Lib.toList_data] at h1
      rcases h1 with h | h | h | h
      · exact .inl h
      · exact .inr (.inl h)
      · exact .inr (.inr (.inl h))
      · exact .inr (.inr (.inr (by omega))))]
    go_enter Tryz.func124, Tryz.ntmps124
    go_wp2
    all_goals first | (go_ret; exact ⟨rfl, Below.refl _ _⟩) | (exfalso; simp_all; done) | (exfalso; simp_all; omega)
  · have e1 : s.toList ≠ [] := fun h => h1 (.inl h)
    have e2 : s.toList ≠ [46] := fun h => h1 (.inr (.inl h))
    have e3 : s.toList ≠ [46, 46] := fun h => h1 (.inr (.inr (.inl h)))
    have e4 : (s.size : Int) ≤ 32 := by omega
    have HN := nameB_mid s.data.toList (by rw [← Lib.toList_data]; exact e1) (by rw [← Lib.toList_data]; exact e2) (by rw [← Lib.toList_data]; exact e3) (by omega)
    have f1 := isEmpty_no e1
    have f2 := beq_no e2
    have f3 := beq_no e3
    clear h1 hl e1 e2 e3
    rw [HN]
    clear HN
    go_enter Tryz.func124, Tryz.ntmps124
    go_wp2
    go_loopw [4, 22, 23, 24, 25, 26, 27] (fun _ _ _ _ _ _ _ w' => ∃ pos : Nat, w' = w.iter s pos ∧ pos ≤ s.size ∧ ∀ j (hj : j < s.size), j < pos → okB s[j] = true) (fun _ _ _ _ _ _ _ w' => s.size - w'.iterPos w.heap.size)
    case atStart => exact ⟨0, rfl, Nat.zero_le _, fun j _ hj => absurd hj (Nat.not_lt_zero _)⟩
    case round =>
      obtain ⟨pos, rfl, hp, hok⟩ := hrel
      have HOK := Lib.hid hok
      clear hok
      by_cases hlt : pos < s.size
      · by_cases ha : (s[pos]'hlt).toNat < 128
        · have hnx : ∀ ty, (Instr.next (.pointer (some ⟨w.heap.size, 0, none⟩)) true ty).run Tryz.prog (w.iter s pos) = _ := fun ty => run_next_ascii w s pos ty hlt ha
          by_cases hb : letB ((s[pos]'hlt).toNat : Int) = true
          · go_wp2_with (go_at_call 151; refine (letter_any _ _).mono ?_; rintro e w' ⟨rfl, rfl⟩)
            go_roundw
            case rel => exact ⟨pos + 1, rfl, hlt, fun j hj hjp => by
              rcases Nat.lt_or_ge j pos with h | h
              · exact HOK.out j hj h
              · obtain rfl : j = pos := by omega
                exact hb⟩
            case measure => simp; omega
          · have hb' : letB ((s[pos]'hlt).toNat : Int) = false := Bool.eq_false_iff.2 hb
            have HA := Lib.hid (all_no s okB pos hlt hb')
            clear hb
            go_wp2_with (go_at_call 151; refine (letter_any _ _).mono ?_; rintro e w' ⟨rfl, rfl⟩)
            go_ret
            exact ⟨ret_bool HA.out.symm, (Below.refl _ _).alloc (Nat.le_refl _) _⟩
        · have hnx : ∀ ty, (Instr.next (.pointer (some ⟨w.heap.size, 0, none⟩)) true ty).run Tryz.prog (w.iter s pos) = _ := fun ty => run_next_any w s pos ty hlt
          have hd := decode_high s pos hlt (by omega)
          have hb' : letB ((Utf8.decode s pos).1 : Int) = false := letB_high _ (by omega)
          have HA := Lib.hid (all_no s okB pos hlt (letB_high _ (by omega)))
          clear hd
          go_wp2_with (go_at_call 151; refine (letter_any _ _).mono ?_; rintro e w' ⟨rfl, rfl⟩)
          go_ret
          exact ⟨ret_bool HA.out.symm, (Below.refl _ _).alloc (Nat.le_refl _) _⟩
      · have hnx : ∀ ty, (Instr.next (.pointer (some ⟨w.heap.size, 0, none⟩)) true ty).run Tryz.prog (w.iter s pos) = _ := fun ty => run_next_end w s pos ty hlt
        go_wp2
        go_ret
        exact ⟨ret_bool (all_yes s okB fun j hj => HOK.out j hj (by omega)).symm, (Below.refl _ _).alloc (Nat.le_refl _) _⟩
end Go.Proofs.YtgmplpfbhcdofaaGreat.Pt
