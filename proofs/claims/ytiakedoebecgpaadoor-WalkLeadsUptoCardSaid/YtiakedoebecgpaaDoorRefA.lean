/- Proved here: Name of puncheonref01 for every text. -/
import Derived.Test.YtiakedoebecgpaaDoorFew
namespace Go.Proofs.YtiakedoebecgpaaDoor
open Go.RowKit Go.Shelf

theorem okB_iff (c : UInt8) : okB c = true ↔ (97 ≤ (c.toNat : Int) ∧ (c.toNat : Int) ≤ 122 ∨ 48 ≤ (c.toNat : Int) ∧ (c.toNat : Int) ≤ 57 ∨ (c.toNat : Int) = 46 ∨ (c.toNat : Int) = 95 ∨ (c.toNat : Int) = 43 ∨ (c.toNat : Int) = 45) := by
  unfold okB letB; exact decide_eq_true_iff

set_option maxRecDepth 100000 in
set_option maxHeartbeats 4000000 in
theorem rname_bad (s : ByteArray) (hs : s.size ≤ 9223372036854775807) (j : Nat) (hj : j < s.size) (hb : okB s[j] = false) (w : World) : Calls Tryd.prog 81 #[.string s] w fun e w' => e = .returned (.bool false) ∧ w = w' := by
  have HB := Lib.hid hb
  clear hb
  go_enter Tryd.func81, Tryd.ntmps81
  go_wp2
  go_loop [7] (fun i => ∃ k : Nat, k ≤ j ∧ i = .int .i64 k) (fun i => s.size - (intOf i).toNat)
  case atStart => exact ⟨0, Nat.zero_le _, rfl⟩
  case round =>
    obtain ⟨k, hk, rfl⟩ := hrel
    have hlt : k < s.size := by omega
    obtain ⟨c, hc⟩ : ∃ c : UInt8, c = s[k] := ⟨_, rfl⟩
    have h255 : ((s[k]'hlt).toNat : Int) ≤ 255 := by have := (s[k]'hlt).toNat_lt; omega
    by_cases hok : okB (s[k]'hlt) = true
    · have h' := (okB_iff _).1 hok
      have HK : Hid (k ≠ j) := fun e => by subst e; rw [HB.out] at hok; cases hok
      clear hok hc
      rcases h' with h' | h' | h' | h' | h' | h'
      · have q1 : decide (((s[k]'hlt).toNat : Int) < 97) = false := decide_eq_false (by omega)
        have q2 : decide ((122 : Int) < ((s[k]'hlt).toNat : Int)) = false := decide_eq_false (by omega)
        clear h'
        go_wp2
        go_round
        case rel => exact ⟨k + 1, by have := HK.out; omega, by go_num⟩
        case measure => simp [intOf]; omega
      · have q1 : decide (((s[k]'hlt).toNat : Int) < 97) = true := decide_eq_true (by omega)
        have q3 : decide (((s[k]'hlt).toNat : Int) < 48) = false := decide_eq_false (by omega)
        have q4 : decide ((57 : Int) < ((s[k]'hlt).toNat : Int)) = false := decide_eq_false (by omega)
        clear h'
        go_wp2
        go_round
        case rel => exact ⟨k + 1, by have := HK.out; omega, by go_num⟩
        case measure => simp [intOf]; omega
      · have q1 : decide (((s[k]'hlt).toNat : Int) < 97) = true := decide_eq_true (by omega)
        have q3 : decide (((s[k]'hlt).toNat : Int) < 48) = true := decide_eq_true (by omega)
        have q5 : (((s[k]'hlt).toNat : Int) != 46) = false := by rw [bne_eq_false_iff_eq]; omega
        clear h'
        go_wp2
        go_round
        case rel => exact ⟨k + 1, by have := HK.out; omega, by go_num⟩
        case measure => simp [intOf]; omega
      · have q1 : decide (((s[k]'hlt).toNat : Int) < 97) = true := decide_eq_true (by omega)
        have q3 : decide (((s[k]'hlt).toNat : Int) < 48) = false := decide_eq_false (by omega)
        have q4 : decide ((57 : Int) < ((s[k]'hlt).toNat : Int)) = true := decide_eq_true (by omega)
        have q5 : (((s[k]'hlt).toNat : Int) != 46) = true := by rw [bne_iff_ne]; omega
        have q6 : (((s[k]'hlt).toNat : Int) != 95) = false := by rw [bne_eq_false_iff_eq]; omega
        clear h'
        go_wp2
        go_round
        case rel => exact ⟨k + 1, by have := HK.out; omega, by go_num⟩
        case measure => simp [intOf]; omega
      · have q1 : decide (((s[k]'hlt).toNat : Int) < 97) = true := decide_eq_true (by omega)
        have q3 : decide (((s[k]'hlt).toNat : Int) < 48) = true := decide_eq_true (by omega)
        have q5 : (((s[k]'hlt).toNat : Int) != 46) = true := by rw [bne_iff_ne]; omega
        have q6 : (((s[k]'hlt).toNat : Int) != 95) = true := by rw [bne_iff_ne]; omega
        have q7 : (((s[k]'hlt).toNat : Int) != 43) = false := by rw [bne_eq_false_iff_eq]; omega
        clear h'
        go_wp2
        go_round
        case rel => exact ⟨k + 1, by have := HK.out; omega, by go_num⟩
        case measure => simp [intOf]; omega
      · have q1 : decide (((s[k]'hlt).toNat : Int) < 97) = true := decide_eq_true (by omega)
        have q3 : decide (((s[k]'hlt).toNat : Int) < 48) = true := decide_eq_true (by omega)
        have q5 : (((s[k]'hlt).toNat : Int) != 46) = true := by rw [bne_iff_ne]; omega
        have q6 : (((s[k]'hlt).toNat : Int) != 95) = true := by rw [bne_iff_ne]; omega
        have q7 : (((s[k]'hlt).toNat : Int) != 43) = true := by rw [bne_iff_ne]; omega
        have q8 : (((s[k]'hlt).toNat : Int) != 45) = false := by rw [bne_eq_false_iff_eq]; omega
        clear h'
        go_wp2
        go_round
        case rel => exact ⟨k + 1, by have := HK.out; omega, by go_num⟩
        case measure => simp [intOf]; omega
    · have h1 : ¬ _ := fun e => hok ((okB_iff _).2 e)
      have h0 : (0 : Int) ≤ ((s[k]'hlt).toNat : Int) := by omega
      have h' : (((s[k]'hlt).toNat : Int) < 48 ∧ ((s[k]'hlt).toNat : Int) ≠ 43 ∧ ((s[k]'hlt).toNat : Int) ≠ 45 ∧ ((s[k]'hlt).toNat : Int) ≠ 46) ∨ (58 ≤ ((s[k]'hlt).toNat : Int) ∧ ((s[k]'hlt).toNat : Int) ≤ 96 ∧ ((s[k]'hlt).toNat : Int) ≠ 95) ∨ (123 ≤ ((s[k]'hlt).toNat : Int)) := by omega
      clear hok hc h1
      rcases h' with h' | h' | h'
      · have q1 : decide (((s[k]'hlt).toNat : Int) < 97) = true := decide_eq_true (by omega)
        have q3 : decide (((s[k]'hlt).toNat : Int) < 48) = true := decide_eq_true (by omega)
        have q5 : (((s[k]'hlt).toNat : Int) != 46) = true := by rw [bne_iff_ne]; omega
        have q6 : (((s[k]'hlt).toNat : Int) != 95) = true := by rw [bne_iff_ne]; omega
        have q7 : (((s[k]'hlt).toNat : Int) != 43) = true := by rw [bne_iff_ne]; omega
        have q8 : (((s[k]'hlt).toNat : Int) != 45) = true := by rw [bne_iff_ne]; omega
        clear h'
        go_wp2
        go_ret
        exact ⟨rfl, rfl⟩
      · have q1 : decide (((s[k]'hlt).toNat : Int) < 97) = true := decide_eq_true (by omega)
        have q3 : decide (((s[k]'hlt).toNat : Int) < 48) = false := decide_eq_false (by omega)
        have q4 : decide ((57 : Int) < ((s[k]'hlt).toNat : Int)) = true := decide_eq_true (by omega)
        have q5 : (((s[k]'hlt).toNat : Int) != 46) = true := by rw [bne_iff_ne]; omega
        have q6 : (((s[k]'hlt).toNat : Int) != 95) = true := by rw [bne_iff_ne]; omega
        have q7 : (((s[k]'hlt).toNat : Int) != 43) = true := by rw [bne_iff_ne]; omega
        have q8 : (((s[k]'hlt).toNat : Int) != 45) = true := by rw [bne_iff_ne]; omega
        clear h'
        go_wp2
        go_ret
        exact ⟨rfl, rfl⟩
      · have q1 : decide (((s[k]'hlt).toNat : Int) < 97) = false := decide_eq_false (by omega)
        have q2 : decide ((122 : Int) < ((s[k]'hlt).toNat : Int)) = true := decide_eq_true (by omega)
        have q3 : decide (((s[k]'hlt).toNat : Int) < 48) = false := decide_eq_false (by omega)
        have q4 : decide ((57 : Int) < ((s[k]'hlt).toNat : Int)) = true := decide_eq_true (by omega)
        have q5 : (((s[k]'hlt).toNat : Int) != 46) = true := by rw [bne_iff_ne]; omega
        have q6 : (((s[k]'hlt).toNat : Int) != 95) = true := by rw [bne_iff_ne]; omega
        have q7 : (((s[k]'hlt).toNat : Int) != 43) = true := by rw [bne_iff_ne]; omega
        have q8 : (((s[k]'hlt).toNat : Int) != 45) = true := by rw [bne_iff_ne]; omega
        clear h'
        go_wp2
        go_ret
        exact ⟨rfl, rfl⟩

theorem tl_eq (s : ByteArray) : s.toList = s.data.toList := Lib.toList_data s

set_option maxRecDepth 100000 in
set_option maxHeartbeats 4000000 in
theorem rname_good (s : ByteArray) (hs : s.size ≤ 9223372036854775807) (b : Bool) (hall : ∀ j (hj : j < s.size), okB s[j] = true)
    (hb : (1 ≤ s.size ∧ s.size ≤ 32 ∧ s.data.toList ≠ [46] ∧ s.data.toList ≠ [46, 46] ∧ b = true) ∨ ((s.size = 0 ∨ 32 < s.size ∨ s.data.toList = [46] ∨ s.data.toList = [46, 46]) ∧ b = false)) (w : World) :
    Calls Tryd.prog 81 #[.string s] w fun e w' => e = .returned (.bool b) ∧ w = w' := by
  have HALL := Lib.hid hall
  have HB := Lib.hid hb
  clear hall hb
  go_enter Tryd.func81, Tryd.ntmps81
  go_wp2
  go_loop [7] (fun i => ∃ k : Nat, k ≤ s.size ∧ i = .int .i64 k) (fun i => s.size - (intOf i).toNat)
  case atStart => exact ⟨0, Nat.zero_le _, rfl⟩
  case round =>
    obtain ⟨k, hk, rfl⟩ := hrel
    by_cases hlt : k < s.size
    · have h255 : ((s[k]'hlt).toNat : Int) ≤ 255 := by have := (s[k]'hlt).toNat_lt; omega
      have h' := (okB_iff _).1 (HALL.out k hlt)
      rcases h' with h' | h' | h' | h' | h' | h'
      · have q1 : decide (((s[k]'hlt).toNat : Int) < 97) = false := decide_eq_false (by omega)
        have q2 : decide ((122 : Int) < ((s[k]'hlt).toNat : Int)) = false := decide_eq_false (by omega)
        clear h'
        go_wp2
        go_round
        case rel => exact ⟨k + 1, hlt, by go_num⟩
        case measure => simp [intOf]; omega
      · have q1 : decide (((s[k]'hlt).toNat : Int) < 97) = true := decide_eq_true (by omega)
        have q3 : decide (((s[k]'hlt).toNat : Int) < 48) = false := decide_eq_false (by omega)
        have q4 : decide ((57 : Int) < ((s[k]'hlt).toNat : Int)) = false := decide_eq_false (by omega)
        clear h'
        go_wp2
        go_round
        case rel => exact ⟨k + 1, hlt, by go_num⟩
        case measure => simp [intOf]; omega
      · have q1 : decide (((s[k]'hlt).toNat : Int) < 97) = true := decide_eq_true (by omega)
        have q3 : decide (((s[k]'hlt).toNat : Int) < 48) = true := decide_eq_true (by omega)
        have q5 : (((s[k]'hlt).toNat : Int) != 46) = false := by rw [bne_eq_false_iff_eq]; omega
        clear h'
        go_wp2
        go_round
        case rel => exact ⟨k + 1, hlt, by go_num⟩
        case measure => simp [intOf]; omega
      · have q1 : decide (((s[k]'hlt).toNat : Int) < 97) = true := decide_eq_true (by omega)
        have q3 : decide (((s[k]'hlt).toNat : Int) < 48) = false := decide_eq_false (by omega)
        have q4 : decide ((57 : Int) < ((s[k]'hlt).toNat : Int)) = true := decide_eq_true (by omega)
        have q5 : (((s[k]'hlt).toNat : Int) != 46) = true := by rw [bne_iff_ne]; omega
        have q6 : (((s[k]'hlt).toNat : Int) != 95) = false := by rw [bne_eq_false_iff_eq]; omega
        clear h'
        go_wp2
        go_round
        case rel => exact ⟨k + 1, hlt, by go_num⟩
        case measure => simp [intOf]; omega
      · have q1 : decide (((s[k]'hlt).toNat : Int) < 97) = true := decide_eq_true (by omega)
        have q3 : decide (((s[k]'hlt).toNat : Int) < 48) = true := decide_eq_true (by omega)
        have q5 : (((s[k]'hlt).toNat : Int) != 46) = true := by rw [bne_iff_ne]; omega
        have q6 : (((s[k]'hlt).toNat : Int) != 95) = true := by rw [bne_iff_ne]; omega
        have q7 : (((s[k]'hlt).toNat : Int) != 43) = false := by rw [bne_eq_false_iff_eq]; omega
        clear h'
        go_wp2
        go_round
        case rel => exact ⟨k + 1, hlt, by go_num⟩
        case measure => simp [intOf]; omega
      · have q1 : decide (((s[k]'hlt).toNat : Int) < 97) = true := decide_eq_true (by omega)
        have q3 : decide (((s[k]'hlt).toNat : Int) < 48) = true := decide_eq_true (by omega)
        have q5 : (((s[k]'hlt).toNat : Int) != 46) = true := by rw [bne_iff_ne]; omega
        have q6 : (((s[k]'hlt).toNat : Int) != 95) = true := by rw [bne_iff_ne]; omega
        have q7 : (((s[k]'hlt).toNat : Int) != 43) = true := by rw [bne_iff_ne]; omega
        have q8 : (((s[k]'hlt).toNat : Int) != 45) = false := by rw [bne_eq_false_iff_eq]; omega
        clear h'
        go_wp2
        go_round
        case rel => exact ⟨k + 1, hlt, by go_num⟩
        case measure => simp [intOf]; omega
    · rcases HB.out with ⟨g1, g2, g3, g4, rfl⟩ | ⟨g, rfl⟩
      · have f1 : (1 : Int) ≤ (s.size : Int) := by omega
        have f2 : (s.size : Int) ≤ 32 := by omega
        have f3 : (s.toList == [46]) = false := by rw [tl_eq]; simp [g3]
        have f4 : (s.toList == [46, 46]) = false := by rw [tl_eq]; simp [g4]
        have f5 : (s.toList != [46]) = true := by rw [tl_eq]; simp [g3]
        have f6 : (s.toList != [46, 46]) = true := by rw [tl_eq]; simp [g4]
        clear g1 g2 g3 g4
        go_wp2
        go_ret
        exact ⟨rfl, rfl⟩
      · rcases g with g | g | g | g
        · have f1 : (s.size : Int) < 1 := by omega
          clear g
          go_wp2
          go_ret
          exact ⟨rfl, rfl⟩
        · have f1 : (1 : Int) ≤ (s.size : Int) := by omega
          have f2 : (32 : Int) < (s.size : Int) := by omega
          clear g
          go_wp2
          go_ret
          exact ⟨rfl, rfl⟩
        · have hl : s.size = 1 := by
            have : s.data.toList.length = s.size := rfl
            rw [g] at this; exact this.symm
          have f1 : (1 : Int) ≤ (s.size : Int) := by omega
          have f2 : (s.size : Int) ≤ 32 := by omega
          have f3 : (s.toList == [46]) = true := by rw [tl_eq]; simp [g]
          have f5 : (s.toList != [46]) = false := by rw [tl_eq]; simp [g]
          clear g hl
          go_wp2
          go_ret
          exact ⟨rfl, rfl⟩
        · have hl : s.size = 2 := by
            have : s.data.toList.length = s.size := rfl
            rw [g] at this; exact this.symm
          have f1 : (1 : Int) ≤ (s.size : Int) := by omega
          have f2 : (s.size : Int) ≤ 32 := by omega
          have f3 : (s.toList == [46]) = false := by rw [tl_eq]; simp [g]
          have f5 : (s.toList != [46]) = true := by rw [tl_eq]; simp [g]
          have f4 : (s.toList == [46, 46]) = true := by rw [tl_eq]; simp [g]
          have f6 : (s.toList != [46, 46]) = false := by rw [tl_eq]; simp [g]
          clear g hl
          go_wp2
          go_ret
          exact ⟨rfl, rfl⟩

theorem rname_any (s : ByteArray) (hs : s.size ≤ 9223372036854775807) (w : World) : Calls Tryd.prog 81 #[.string s] w fun e w' => e = .returned (.bool (nameB s.data.toList)) ∧ w = w' := by
  have hl : s.data.toList.length = s.size := rfl
  by_cases hall : ∀ j (hj : j < s.size), okB s[j] = true
  · refine rname_good s hs _ hall ?_ w
    by_cases g : 1 ≤ s.size ∧ s.size ≤ 32 ∧ s.data.toList ≠ [46] ∧ s.data.toList ≠ [46, 46]
    · obtain ⟨g1, g2, g3, g4⟩ := g
      refine .inl ⟨g1, g2, g3, g4, ?_⟩
      rw [nameB_mid _ (fun e => by rw [e] at hl; simp at hl; omega) g3 g4 (by omega)]
      exact all_yes s okB hall
    · have hd : s.size = 0 ∨ 32 < s.size ∨ s.data.toList = [46] ∨ s.data.toList = [46, 46] := by
        by_cases g1 : s.size = 0
        · exact .inl g1
        · by_cases g2 : 32 < s.size
          · exact .inr (.inl g2)
          · by_cases g3 : s.data.toList = [46]
            · exact .inr (.inr (.inl g3))
            · by_cases g4 : s.data.toList = [46, 46]
              · exact .inr (.inr (.inr g4))
              · exact absurd ⟨by omega, by omega, g3, g4⟩ g
      refine .inr ⟨hd, nameB_no _ ?_⟩
      rcases hd with g1 | g1 | g1 | g1
      · exact .inl (List.eq_nil_of_length_eq_zero (by omega))
      · exact .inr (.inr (.inr (by omega)))
      · exact .inr (.inl g1)
      · exact .inr (.inr (.inl g1))
  · obtain ⟨j, hj, hb⟩ : ∃ j, ∃ hj : j < s.size, okB s[j] = false := by
      apply Classical.byContradiction
      intro hn
      apply hall
      intro j hj
      by_cases h : okB s[j] = true
      · exact h
      · exact absurd ⟨j, hj, Bool.eq_false_iff.2 h⟩ hn
    have e : nameB s.data.toList = false := by
      unfold nameB
      rw [all_no s okB j hj hb, Bool.and_false]
    rw [e]
    exact rname_bad s hs j hj hb w
end Go.Proofs.YtiakedoebecgpaaDoor
