/- Proved here: Compare of puncheonref01 for every two texts of at most a million bytes. | Proved here: Name of puncheonref01 for every text. | Proved here: Cut of puncheonref01 for every text of at most a million bytes: its parts, in a new slice. | Proved here: Names of puncheonref01 for every text of at most a million bytes. | Proved here: Right, Join, Up and Base of puncheonref01. | Proved here: Beneath of puncheonref01 for every two texts of at most a million bytes. | Proved here: Beneath of puncheonref01 in all cases; less of puncheonref01. -/
import Derived.Test.YtophihnjlodmjaaDoorMP1
import Derived.Deep.AppendLies
import Derived.Laws.AppendOwnNone
import Derived.StillTailTactics
namespace Go.Proofs.YtophihnjlodmjaaDoor.Pt
open Go.RowKit Go.Shelf

theorem okB_iff (c : UInt8) : okB c = true ↔ (97 ≤ (c.toNat : Int) ∧ (c.toNat : Int) ≤ 122 ∨ 48 ≤ (c.toNat : Int) ∧ (c.toNat : Int) ≤ 57 ∨ (c.toNat : Int) = 46 ∨ (c.toNat : Int) = 95 ∨ (c.toNat : Int) = 43 ∨ (c.toNat : Int) = 45) := by
  unfold okB letB; exact decide_eq_true_iff

set_option maxRecDepth 100000 in
set_option maxHeartbeats 4000000 in
theorem rname_bad (s : ByteArray) (hs : s.size ≤ 9223372036854775807) (j : Nat) (hj : j < s.size) (hb : okB s[j] = false) (w : World) : Calls Tryd.prog 65 #[.string s] w fun e w' => e = .returned (.bool false) ∧ w = w' := by
  have HB := Lib.hid hb
  clear hb
  go_enter Tryd.func65, Tryd.ntmps65
  go_wp2
  go_loop [7] (fun i => ∃ k : Nat, k ≤ j ∧ i = .int .i64 k) (fun i => s.size - (intOf i).toNat)
  case atStart => exact ⟨0, Nat.zero_le _, rfl⟩
  case round =>
    obtain ⟨k, hk, rfl⟩ := hrel
    have hlt : k < s.size := by omega
    obtain ⟨c, hc⟩ : ∃ c : UInt8, c = s[k] := ⟨_, rfl⟩
    have h255 : ((s[k]'hlt).toNat : Int) ≤ 255 := by have := (s[k]'hlt).toNat_lt; omega
    by_cases hok : okB (s[k]'hlt) = true
    · have h' := (okB_iff _).1 hok
      have HK : Hid (k ≠ j) := fun e => by subst e; rw [HB.out] at hok; cases hok
      clear hok hc
      rcases h' with h' | h' | h' | h' | h' | h'
      · have q1 : decide (((s[k]'hlt).toNat : Int) < 97) = false := decide_eq_false (by omega)
        have q2 : decide ((122 : Int) < ((s[k]'hlt).toNat : Int)) = false := decide_eq_false (by omega)
        clear h'
        go_wp2
        go_round
        case rel => exact ⟨k + 1, by have := HK.out; omega, by go_num⟩
        case measure => simp [intOf]; omega
      · have q1 : decide (((s[k]'hlt).toNat : Int) < 97) = true := decide_eq_true (by omega)
        have q3 : decide (((s[k]'hlt).toNat : Int) < 48) = false := decide_eq_false (by omega)
        have q4 : decide ((57 : Int) < ((s[k]'hlt).toNat : Int)) = false := decide_eq_false (by omega)
        clear h'
        go_wp2
        go_round
        case rel => exact ⟨k + 1, by have := HK.out; omega, by go_num⟩
        case measure => simp [intOf]; omega
      · have q1 : decide (((s[k]'hlt).toNat : Int) < 97) = true := decide_eq_true (by omega)
        have q3 : decide (((s[k]'hlt).toNat : Int) < 48) = true := decide_eq_true (by omega)
        have q5 : (((s[k]'hlt).toNat : Int) != 46) = false := by rw [bne_eq_false_iff_eq]; omega
        clear h'
        go_wp2
        go_round
        case rel => exact ⟨k + 1, by have := HK.out; omega, by go_num⟩
        case measure => simp [intOf]; omega
      · have q1 : decide (((s[k]'hlt).toNat : Int) < 97) = true := decide_eq_true (by omega)
        have q3 : decide (((s[k]'hlt).toNat : Int) < 48) = false := decide_eq_false (by omega)
        have q4 : decide ((57 : Int) < ((s[k]'hlt).toNat : Int)) = true := decide_eq_true (by omega)
        have q5 : (((s[k]'hlt).toNat : Int) != 46) = true := by rw [bne_iff_ne]; omega
        have q6 : (((s[k]'hlt).toNat : Int) != 95) = false := by rw [bne_eq_false_iff_eq]; omega
        clear h'
        go_wp2
        go_round
        case rel => exact ⟨k + 1, by have := HK.out; omega, by go_num⟩
        case measure => simp [intOf]; omega
      · have q1 : decide (((s[k]'hlt).toNat : Int) < 97) = true := decide_eq_true (by omega)
        have q3 : decide (((s[k]'hlt).toNat : Int) < 48) = true := decide_eq_true (by omega)
        have q5 : (((s[k]'hlt).toNat : Int) != 46) = true := by rw [bne_iff_ne]; omega
        have q6 : (((s[k]'hlt).toNat : Int) != 95) = true := by rw [bne_iff_ne]; omega
        have q7 : (((s[k]'hlt).toNat : Int) != 43) = false := by rw [bne_eq_false_iff_eq]; omega
        clear h'
        go_wp2
        go_round
        case rel => exact ⟨k + 1, by have := HK.out; omega, by go_num⟩
        case measure => simp [intOf]; omega
      · have q1 : decide (((s[k]'hlt).toNat : Int) < 97) = true := decide_eq_true (by omega)
        have q3 : decide (((s[k]'hlt).toNat : Int) < 48) = true := decide_eq_true (by omega)
        have q5 : (((s[k]'hlt).toNat : Int) != 46) = true := by rw [bne_iff_ne]; omega
        have q6 : (((s[k]'hlt).toNat : Int) != 95) = true := by rw [bne_iff_ne]; omega
        have q7 : (((s[k]'hlt).toNat : Int) != 43) = true := by rw [bne_iff_ne]; omega
        have q8 : (((s[k]'hlt).toNat : Int) != 45) = false := by rw [bne_eq_false_iff_eq]; omega
        clear h'
        go_wp2
        go_round
        case rel => exact ⟨k + 1, by have := HK.out; omega, by go_num⟩
        case measure => simp [intOf]; omega
    · have h1 : ¬ _ := fun e => hok ((okB_iff _).2 e)
      have h0 : (0 : Int) ≤ ((s[k]'hlt).toNat : Int) := by omega
      have h' : (((s[k]'hlt).toNat : Int) < 48 ∧ ((s[k]'hlt).toNat : Int) ≠ 43 ∧ ((s[k]'hlt).toNat : Int) ≠ 45 ∧ ((s[k]'hlt).toNat : Int) ≠ 46) ∨ (58 ≤ ((s[k]'hlt).toNat : Int) ∧ ((s[k]'hlt).toNat : Int) ≤ 96 ∧ ((s[k]'hlt).toNat : Int) ≠ 95) ∨ (123 ≤ ((s[k]'hlt).toNat : Int)) := by omega
      clear hok hc h1
      rcases h' with h' | h' | h'
      · have q1 : decide (((s[k]'hlt).toNat : Int) < 97) = true := decide_eq_true (by omega)
        have q3 : decide (((s[k]'hlt).toNat : Int) < 48) = true := decide_eq_true (by omega)
        have q5 : (((s[k]'hlt).toNat : Int) != 46) = true := by rw [bne_iff_ne]; omega
        have q6 : (((s[k]'hlt).toNat : Int) != 95) = true := by rw [bne_iff_ne]; omega
        have q7 : (((s[k]'hlt).toNat : Int) != 43) = true := by rw [bne_iff_ne]; omega
        have q8 : (((s[k]'hlt).toNat : Int) != 45) = true := by rw [bne_iff_ne]; omega
        clear h'
        go_wp2
        go_ret
        exact ⟨rfl, rfl⟩
      · have q1 : decide (((s[k]'hlt).toNat : Int) < 97) = true := decide_eq_true (by omega)
        have q3 : decide (((s[k]'hlt).toNat : Int) < 48) = false := decide_eq_false (by omega)
        have q4 : decide ((57 : Int) < ((s[k]'hlt).toNat : Int)) = true := decide_eq_true (by omega)
        have q5 : (((s[k]'hlt).toNat : Int) != 46) = true := by rw [bne_iff_ne]; omega
        have q6 : (((s[k]'hlt).toNat : Int) != 95) = true := by rw [bne_iff_ne]; omega
        have q7 : (((s[k]'hlt).toNat : Int) != 43) = true := by rw [bne_iff_ne]; omega
        have q8 : (((s[k]'hlt).toNat : Int) != 45) = true := by rw [bne_iff_ne]; omega
        clear h'
        go_wp2
        go_ret
        exact ⟨rfl, rfl⟩
      · have q1 : decide (((s[k]'hlt).toNat : Int) < 97) = false := decide_eq_false (by omega)
        have q2 : decide ((122 : Int) < ((s[k]'hlt).toNat : Int)) = true := decide_eq_true (by omega)
        have q3 : decide (((s[k]'hlt).toNat : Int) < 48) = false := decide_eq_false (by omega)
        have q4 : decide ((57 : Int) < ((s[k]'hlt).toNat : Int)) = true := decide_eq_true (by omega)
        have q5 : (((s[k]'hlt).toNat : Int) != 46) = true := by rw [bne_iff_ne]; omega
        have q6 : (((s[k]'hlt).toNat : Int) != 95) = true := by rw [bne_iff_ne]; omega
        have q7 : (((s[k]'hlt).toNat : Int) != 43) = true := by rw [bne_iff_ne]; omega
        have q8 : (((s[k]'hlt).toNat : Int) != 45) = true := by rw [bne_iff_ne]; omega
        clear h'
        go_wp2
        go_ret
        exact ⟨rfl, rfl⟩

theorem tl_eq (s : ByteArray) : s.toList = s.data.toList := Lib.toList_data s

set_option maxRecDepth 100000 in
set_option maxHeartbeats 4000000 in
theorem rname_good (s : ByteArray) (hs : s.size ≤ 9223372036854775807) (b : Bool) (hall : ∀ j (hj : j < s.size), okB s[j] = true)
    (hb : (1 ≤ s.size ∧ s.size ≤ 32 ∧ s.data.toList ≠ [46] ∧ s.data.toList ≠ [46, 46] ∧ b = true) ∨ ((s.size = 0 ∨ 32 < s.size ∨ s.data.toList = [46] ∨ s.data.toList = [46, 46]) ∧ b = false)) (w : World) :
    Calls Tryd.prog 65 #[.string s] w fun e w' => e = .returned (.bool b) ∧ w = w' := by
  have HALL := Lib.hid hall
  have HB := Lib.hid hb
  clear hall hb
  go_enter Tryd.func65, Tryd.ntmps65
  go_wp2
  go_loop [7] (fun i => ∃ k : Nat, k ≤ s.size ∧ i = .int .i64 k) (fun i => s.size - (intOf i).toNat)
  case atStart => exact ⟨0, Nat.zero_le _, rfl⟩
  case round =>
    obtain ⟨k, hk, rfl⟩ := hrel
    by_cases hlt : k < s.size
    · have h255 : ((s[k]'hlt).toNat : Int) ≤ 255 := by have := (s[k]'hlt).toNat_lt; omega
      have h' := (okB_iff _).1 (HALL.out k hlt)
      rcases h' with h' | h' | h' | h' | h' | h'
      · have q1 : decide (((s[k]'hlt).toNat : Int) < 97) = false := decide_eq_false (by omega)
        have q2 : decide ((122 : Int) < ((s[k]'hlt).toNat : Int)) = false := decide_eq_false (by omega)
        clear h'
        go_wp2
        go_round
        case rel => exact ⟨k + 1, hlt, by go_num⟩
        case measure => simp [intOf]; omega
      · have q1 : decide (((s[k]'hlt).toNat : Int) < 97) = true := decide_eq_true (by omega)
        have q3 : decide (((s[k]'hlt).toNat : Int) < 48) = false := decide_eq_false (by omega)
        have q4 : decide ((57 : Int) < ((s[k]'hlt).toNat : Int)) = false := decide_eq_false (by omega)
        clear h'
        go_wp2
        go_round
        case rel => exact ⟨k + 1, hlt, by go_num⟩
        case measure => simp [intOf]; omega
      · have q1 : decide (((s[k]'hlt).toNat : Int) < 97) = true := decide_eq_true (by omega)
        have q3 : decide (((s[k]'hlt).toNat : Int) < 48) = true := decide_eq_true (by omega)
        have q5 : (((s[k]'hlt).toNat : Int) != 46) = false := by rw [bne_eq_false_iff_eq]; omega
        clear h'
        go_wp2
        go_round
        case rel => exact ⟨k + 1, hlt, by go_num⟩
        case measure => simp [intOf]; omega
      · have q1 : decide (((s[k]'hlt).toNat : Int) < 97) = true := decide_eq_true (by omega)
        have q3 : decide (((s[k]'hlt).toNat : Int) < 48) = false := decide_eq_false (by omega)
        have q4 : decide ((57 : Int) < ((s[k]'hlt).toNat : Int)) = true := decide_eq_true (by omega)
        have q5 : (((s[k]'hlt).toNat : Int) != 46) = true := by rw [bne_iff_ne]; omega
        have q6 : (((s[k]'hlt).toNat : Int) != 95) = false := by rw [bne_eq_false_iff_eq]; omega
        clear h'
        go_wp2
        go_round
        case rel => exact ⟨k + 1, hlt, by go_num⟩
        case measure => simp [intOf]; omega
      · have q1 : decide (((s[k]'hlt).toNat : Int) < 97) = true := decide_eq_true (by omega)
        have q3 : decide (((s[k]'hlt).toNat : Int) < 48) = true := decide_eq_true (by omega)
        have q5 : (((s[k]'hlt).toNat : Int) != 46) = true := by rw [bne_iff_ne]; omega
        have q6 : (((s[k]'hlt).toNat : Int) != 95) = true := by rw [bne_iff_ne]; omega
        have q7 : (((s[k]'hlt).toNat : Int) != 43) = false := by rw [bne_eq_false_iff_eq]; omega
        clear h'
        go_wp2
        go_round
        case rel => exact ⟨k + 1, hlt, by go_num⟩
        case measure => simp [intOf]; omega
      · have q1 : decide (((s[k]'hlt).toNat : Int) < 97) = true := decide_eq_true (by omega)
        have q3 : decide (((s[k]'hlt).toNat : Int) < 48) = true := decide_eq_true (by omega)
        have q5 : (((s[k]'hlt).toNat : Int) != 46) = true := by rw [bne_iff_ne]; omega
        have q6 : (((s[k]'hlt).toNat : Int) != 95) = true := by rw [bne_iff_ne]; omega
        have q7 : (((s[k]'hlt).toNat : Int) != 43) = true := by rw [bne_iff_ne]; omega
        have q8 : (((s[k]'hlt).toNat : Int) != 45) = false := by rw [bne_eq_false_iff_eq]; omega
        clear h'
        go_wp2
        go_round
        case rel => exact ⟨k + 1, hlt, by go_num⟩
        case measure => simp [intOf]; omega
    · rcases HB.out with ⟨g1, g2, g3, g4, rfl⟩ | ⟨g, rfl⟩
      · have f1 : (1 : Int) ≤ (s.size : Int) := by omega
        have f2 : (s.size : Int) ≤ 32 := by omega
        have f3 : (s.toList == [46]) = false := by rw [tl_eq]; simp [g3]
        have f4 : (s.toList == [46, 46]) = false := by rw [tl_eq]; simp [g4]
        have f5 : (s.toList != [46]) = true := by rw [tl_eq]; simp [g3]
        have f6 : (s.toList != [46, 46]) = true := by rw [tl_eq]; simp [g4]
        clear g1 g2 g3 g4
        go_wp2
        go_ret
        exact ⟨rfl, rfl⟩
      · rcases g with g | g | g | g
        · have f1 : (s.size : Int) < 1 := by omega
          clear g
          go_wp2
          go_ret
          exact ⟨rfl, rfl⟩
        · have f1 : (1 : Int) ≤ (s.size : Int) := by omega
          have f2 : (32 : Int) < (s.size : Int) := by omega
          clear g
          go_wp2
          go_ret
          exact ⟨rfl, rfl⟩
        · have hl : s.size = 1 := by
            have : s.data.toList.length = s.size := rfl
            rw [g] at this; exact this.symm
          have f1 : (1 : Int) ≤ (s.size : Int) := by omega
          have f2 : (s.size : Int) ≤ 32 := by omega
          have f3 : (s.toList == [46]) = true := by rw [tl_eq]; simp [g]
          have f5 : (s.toList != [46]) = false := by rw [tl_eq]; simp [g]
          clear g hl
          go_wp2
          go_ret
          exact ⟨rfl, rfl⟩
        · have hl : s.size = 2 := by
            have : s.data.toList.length = s.size := rfl
            rw [g] at this; exact this.symm
          have f1 : (1 : Int) ≤ (s.size : Int) := by omega
          have f2 : (s.size : Int) ≤ 32 := by omega
          have f3 : (s.toList == [46]) = false := by rw [tl_eq]; simp [g]
          have f5 : (s.toList != [46]) = true := by rw [tl_eq]; simp [g]
          have f4 : (s.toList == [46, 46]) = true := by rw [tl_eq]; simp [g]
          have f6 : (s.toList != [46, 46]) = false := by rw [tl_eq]; simp [g]
          clear g hl
          go_wp2
          go_ret
          exact ⟨rfl, rfl⟩

theorem rname_any (s : ByteArray) (hs : s.size ≤ 9223372036854775807) (w : World) : Calls Tryd.prog 65 #[.string s] w fun e w' => e = .returned (.bool (nameB s.data.toList)) ∧ w = w' := by
  have hl : s.data.toList.length = s.size := rfl
  by_cases hall : ∀ j (hj : j < s.size), okB s[j] = true
  · refine rname_good s hs _ hall ?_ w
    by_cases g : 1 ≤ s.size ∧ s.size ≤ 32 ∧ s.data.toList ≠ [46] ∧ s.data.toList ≠ [46, 46]
    · obtain ⟨g1, g2, g3, g4⟩ := g
      refine .inl ⟨g1, g2, g3, g4, ?_⟩
      rw [nameB_mid _ (fun e => by rw [e] at hl; simp at hl; omega) g3 g4 (by omega)]
      exact all_yes s okB hall
    · have hd : s.size = 0 ∨ 32 < s.size ∨ s.data.toList = [46] ∨ s.data.toList = [46, 46] := by
        by_cases g1 : s.size = 0
        · exact .inl g1
        · by_cases g2 : 32 < s.size
          · exact .inr (.inl g2)
          · by_cases g3 : s.data.toList = [46]
            · exact .inr (.inr (.inl g3))
            · by_cases g4 : s.data.toList = [46, 46]
              · exact .inr (.inr (.inr g4))
              · exact absurd ⟨by omega, by omega, g3, g4⟩ g
      refine .inr ⟨hd, nameB_no _ ?_⟩
      rcases hd with g1 | g1 | g1 | g1
      · exact .inl (List.eq_nil_of_length_eq_zero (by omega))
      · exact .inr (.inr (.inr (by omega)))
      · exact .inr (.inl g1)
      · exact .inr (.inr (.inl g1))
  · obtain ⟨j, hj, hb⟩ : ∃ j, ∃ hj : j < s.size, okB s[j] = false := by
      apply Classical.byContradiction
      intro hn
      apply hall
      intro j hj
      by_cases h : okB s[j] = true
      · exact h
      · exact absurd ⟨j, hj, Bool.eq_false_iff.2 h⟩ hn
    have e : nameB s.data.toList = false := by
      unfold nameB
      rw [all_no s okB j hj hb, Bool.and_false]
    rw [e]
    exact rname_bad s hs j hj hb w
/-- What is owned may stand on any lower base; and behind a store into it. -/
theorem owns_set {w : World} {B g n cap : Nat} {xs : List Value} (h : w.ownsRow B 9 1 (.slice (some ⟨g, 0, none⟩) n cap) n xs) (j : Nat) (u : Value) :
    (w.setCell ⟨g, j, none⟩ u).ownsRow B 9 1 (.slice (some ⟨g, 0, none⟩) n cap) n (xs.set j u) := by
  obtain ⟨h1, h2⟩ := h
  rcases h2 with ⟨h0, _⟩ | ⟨g', cap', cur, hv, hg, hh, hn, hcap, hsz, htake⟩
  · cases h0
  · cases hv
    refine ⟨by rw [List.length_set]; exact h1, .inr ⟨g, cap, cur.setIfInBounds j u, rfl, hg, ?_, hn, hcap, by rw [Array.size_setIfInBounds]; exact hsz, ?_⟩⟩
    · simp [World.setCell, Array.getElem?_modify, hh]
    · rw [Array.toList_setIfInBounds, List.take_set, htake]
end Go.Proofs.YtophihnjlodmjaaDoor.Pt

namespace Go.Proofs.YtophihnjlodmjaaDoor.Pt
open Go.RowKit Go.Shelf

theorem cutP_snoc (a : Str) (c : UInt8) (hc : c ≠ 47) : ∃ init last, cutP a = init ++ [last] ∧ cutP (a ++ [c]) = init ++ [last ++ [c]] := by
  induction a with
  | nil => exact ⟨[], [], rfl, by rw [List.nil_append, cutP_cons, if_neg hc]; rfl⟩
  | cons d t ih =>
    obtain ⟨init, last, h1, h2⟩ := ih
    rw [List.cons_append, cutP_cons, cutP_cons, h1, h2]
    by_cases hd : d = 47
    · exact ⟨[] :: init, last, by rw [if_pos hd]; rfl, by rw [if_pos hd]; rfl⟩
    · rw [if_neg hd, if_neg hd]
      cases init with
      | nil => exact ⟨[], d :: last, rfl, rfl⟩
      | cons h i => exact ⟨(d :: h) :: i, last, rfl, rfl⟩
theorem cutP_snoc47 (a : Str) : cutP (a ++ [47]) = cutP a ++ [[]] := cutP_app a []
theorem cutP_len (a : Str) : (cutP a).length ≤ a.length + 1 := by
  rw [cutP_count]
  have := List.count_le_length (a := (47 : UInt8)) (l := a)
  omega

theorem part_len (s : Str) : ∀ x ∈ cutP s, x.length ≤ s.length := by
  induction s with
  | nil => intro x hx; simp [cutP] at hx; simp [hx]
  | cons c s ih =>
    intro x hx
    rw [cutP_cons] at hx
    by_cases hc : c = 47
    · rw [if_pos hc] at hx
      rcases List.mem_cons.1 hx with rfl | hx
      · simp
      · have := ih x hx; simp; omega
    · rw [if_neg hc] at hx
      cases e : cutP s with
      | nil => exact absurd e (cutP_ne s)
      | cons h t =>
        rw [e] at hx ih
        rcases List.mem_cons.1 hx with rfl | hx
        · have := ih h (by simp); simp; omega
        · have := ih x (by simp [hx]); simp; omega

set_option maxRecDepth 100000 in
set_option maxHeartbeats 4000000 in
theorem rcut_any (s : ByteArray) (hs : s.size ≤ 2000000) (w : World) : Calls Tryd.prog 64 #[.string s] w fun e w' => ∃ v, e = .returned v ∧ w'.ownsRow w.heap.size 9 1 v (cutP s.data.toList).length ((cutP s.data.toList).map encS) ∧ Below w.heap.size w w' := by
  have hl : s.data.toList.length = s.size := rfl
  have HLs := Lib.hid hl
  have hs1 : (s.size : Int) ≤ 2000000 := by omega
  obtain ⟨i0, hi, hz0, hz1, hz2⟩ := info_parts info9
  clear hl
  go_enter Tryd.func64, Tryd.ntmps64
  go_wp2
  have HO : Hid ((w.alloc (.cells #[.string ⟨#[]⟩] 9)).ownsRow w.heap.size 9 1 (.slice (some ⟨w.heap.size, 0, none⟩) 1 1) 1 [encS []]) :=
    World.ownsRow_lit (base := w.heap.size) (e := 9) (size := 1) w #[.string ⟨#[]⟩] 1 (Nat.le_refl _) (by unfold maxLen; omega) rfl
  go_loopw [3, 8] (fun v i wr => ∃ k nn : Nat, ∃ a : Option Addr, ∃ cap : Nat, v = .slice a nn cap ∧ k ≤ s.size ∧ i = .int .i64 k ∧ Hid (nn = (cutP (s.data.toList.take k)).length) ∧ Hid (wr.ownsRow w.heap.size 9 1 (.slice a nn cap) nn ((cutP (s.data.toList.take k)).map encS)) ∧ Below w.heap.size w wr) (fun _ i _ => s.size - (intOf i).toNat)
  case atStart => exact ⟨0, 1, _, 1, rfl, Nat.zero_le _, rfl, rfl, HO, (Below.refl _ _).alloc (Nat.le_refl _) _⟩
  case round =>
    obtain ⟨k, nn, a, cap, rfl, hk, rfl, HN, HR, hB⟩ := hrel
    by_cases hlt : k < s.size
    · have htk : s.data.toList.take (k + 1) = s.data.toList.take k ++ [s[k]'hlt] := by
        rw [List.take_add_one, List.getElem?_eq_getElem (by rw [HLs.out]; exact hlt)]; rfl
      have hnn : nn ≤ 2000001 := by
        have h1 := cutP_len (s.data.toList.take k)
        rw [← HN.out, List.length_take] at h1
        omega
      have hpos : 0 < nn := by
        have := List.length_pos_iff.2 (cutP_ne (s.data.toList.take k))
        rw [← HN.out] at this; exact this
      obtain ⟨g, cap', ha, hgB, hglt⟩ := HR.out.form hpos
      obtain ⟨rfl, rfl⟩ : a = some ⟨g, 0, none⟩ ∧ cap = cap' := by injection ha with h1 h2 h3; exact ⟨h1, h3⟩
      clear ha
      by_cases hc : s[k]'hlt = 47
      · have e1 : (((s[k]'hlt).toNat : Int) == 47) = true := by rw [hc]; rfl
        have HT := Lib.hid (show cutP (s.data.toList.take (k + 1)) = cutP (s.data.toList.take k) ++ [[]] by rw [htk, hc, cutP_snoc47])
        clear htk hc
        go_wp2_with (at_builtin; refine wpList_append_own _ rfl _ _ 69 rfl w.heap.size 9 i0 (.string ⟨#[]⟩) 1 16 Tryd.underlying69 hi hz0 hz1 hz2 rfl (by decide) _ _ _ rfl (HR.out.alloc _) ⟨wr.heap.size, 0, none⟩ 1 1 [.string ⟨#[]⟩] rfl rfl ?c1 ?c2 ?c3 ?c4 ?c5 ?_)
        case c1 => exact cell_one_new _ _ _
        case c2 => simp [Value.oneCell']
        case c3 => unfold maxLen; omega
        case c4 => omega
        case c5 => have := hB.size; simp; omega
        intro v' w2 hown' hgrow _
        obtain ⟨g', cap2, rfl⟩ := ownsRow_succ hown'
        have HO2 := Lib.hid hown'
        have HB2 := Lib.hid ((hB.alloc hB.size (.cells #[.string ⟨#[]⟩] 9)).grown hgrow (by have := hB.size; simp; omega) (fun j ej => by simp [Value.ownBlock] at ej; omega))
        clear hown' hgrow
        go_wp2
        go_roundw
        case rel =>
          refine ⟨k + 1, nn + 1, _, _, rfl, hlt, by go_num, ?_, ?_, HB2.out⟩
          · show nn + 1 = _
            rw [HT.out, List.length_append, ← HN.out]; rfl
          · show w2.ownsRow _ _ _ _ _ _
            rw [HT.out, List.map_append]
            exact HO2.out
        case measure => simp [intOf]; omega
      · have e1 : (((s[k]'hlt).toNat : Int) == 47) = false := by
          rw [beq_eq_false_iff_ne]
          intro h
          apply hc
          apply UInt8.toNat_inj.1
          show (s[k]'hlt).toNat = 47
          omega
        obtain ⟨init, last, h1, h2⟩ := cutP_snoc (s.data.toList.take k) (s[k]'hlt) hc
        rw [← htk] at h2
        obtain ⟨m, hm⟩ : ∃ m, init.length = m := ⟨_, rfl⟩
        have hnm : nn = m + 1 := by rw [HN.out, h1, List.length_append, hm]; rfl
        have HH1 := Lib.hid h1
        have HH2 := Lib.hid h2
        have HM := Lib.hid hm
        have hcl : wr.cell? ⟨g, m, none⟩ = some (.string ⟨last.toArray⟩) := own_cell HR.out m (encS last) (by
          rw [HH1.out, List.map_append, List.getElem?_append_right (by rw [List.length_map]; omega), List.length_map, hm, Nat.sub_self]; rfl)
        have hfr := HR.out.frozenAt m
        have q1 : IntKind.i64.wrap ((nn : Int) - 1) = (m : Int) := by rw [IntWalk.i64_in _ (by omega)]; omega
        have q2 : (0 : Int) ≤ (m : Int) := by omega
        have q3 : (m : Int) < (nn : Int) := by omega
        have q4 : IntKind.i64.wrap ((k : Int) + 1) = (k : Int) + 1 := IntWalk.i64_in _ (by omega)
        have q5 : (0 : Int) ≤ (k : Int) := by omega
        have q6 : (k : Int) ≤ (k : Int) + 1 := by omega
        have q7 : (k : Int) + 1 ≤ (s.size : Int) := by omega
        have q8 : ((k : Int) + 1).toNat = k + 1 := by omega
        have HNM := Lib.hid hnm
        have q9 : last.length + (min (k + 1) s.size - k) ≤ 9223372036854775807 := by
          have h3 := part_len (s.data.toList.take k) last (by rw [HH1.out]; simp)
          rw [List.length_take] at h3
          omega
        clear htk hc h1 h2 hm hnm
        go_wp2
        go_region
        go_wp2
        have eb : (⟨last.toArray⟩ : ByteArray) ++ s.extract k (k + 1) = ⟨(last ++ [s[k]'hlt]).toArray⟩ := by
          refine ba_eq _ _ ?_
          rw [ByteArray.data_append, Array.toList_append, Lib.extract_data]
          congr 1
          have e2 : s.data.toList.drop k = s.data.toList[k]'(by rw [HLs.out]; exact hlt) :: s.data.toList.drop (k + 1) := (List.getElem_cons_drop (by rw [HLs.out]; exact hlt)).symm
          rw [e2, show k + 1 - k = 1 by omega]
          rfl
        refine ⟨⟨k + 1, nn, some ⟨g, 0, none⟩, cap, rfl, hlt, by go_num, ?_, ?_, (hB.setCell (p := ⟨g, m, none⟩) hgB _).drew⟩, by simp [intOf]; omega⟩
        · show nn = _
          rw [HH2.out, List.length_append, HM.out]
          exact HNM.out
        · have h5 := owns_set HR.out m (.string (⟨last.toArray⟩ ++ s.extract k (k + 1)))
          rw [eb, HH1.out, List.map_append] at h5
          rw [eb]
          show World.ownsRow _ _ _ _ _ _ _
          rw [HH2.out, List.map_append]
          have e3 : ((init.map encS) ++ ([last].map encS)).set m (.string ⟨(last ++ [s[k]'hlt]).toArray⟩) = init.map encS ++ [last ++ [s[k]'hlt]].map encS := by
            have hml : m = (init.map encS).length := by rw [List.length_map]; exact HM.out.symm
            rw [List.set_append_right _ _ (by omega), hml, Nat.sub_self]
            rfl
          rw [e3] at h5
          exact h5
    · go_wp2
      go_ret
      have hkk : s.data.toList.take k = s.data.toList := List.take_of_length_le (by rw [HLs.out]; omega)
      have h3 := HR.out
      have h4 := HN.out
      rw [hkk] at h3 h4
      exact ⟨_, rfl, by rw [← h4]; exact h3, hB⟩
end Go.Proofs.YtophihnjlodmjaaDoor.Pt

namespace Go.Proofs.YtophihnjlodmjaaDoor.Pt
open Go.RowKit Go.Shelf

/-- The slice reads as these texts. -/
def RdS (w : World) (v : Value) (l : List Str) : Prop :=
  ∃ (a : Option Addr) (cap : Nat), v = .slice a l.length cap ∧ l.length ≤ cap ∧ cap ≤ maxLen ∧ (0 < l.length → ∃ g o, a = some ⟨g, o, none⟩ ∧ g < w.heap.size ∧ ∀ j x, l[j]? = some x → w.cell? ⟨g, o + j, none⟩ = some (encS x))

theorem RdS.nil (w : World) : RdS w (.slice none 0 0) [] := ⟨none, 0, rfl, Nat.le_refl _, Nat.zero_le _, fun h => absurd h (Nat.lt_irrefl _)⟩
theorem RdS.below {w w' : World} {v : Value} {l : List Str} (h : RdS w v l) (hb : Below w.heap.size w w') : RdS w' v l := by
  obtain ⟨a, cap, h1, h2, h3, h4⟩ := h
  refine ⟨a, cap, h1, h2, h3, fun h0 => ?_⟩
  obtain ⟨g, o, e, hg, hc⟩ := h4 h0
  exact ⟨g, o, e, Nat.lt_of_lt_of_le hg hb.size, fun j x hx => (hb.cell (p := ⟨g, o + j, none⟩) hg).trans (hc j x hx)⟩
theorem RdS.drewN {w : World} {v : Value} {l : List Str} (h : RdS w v l) (n : Nat) : RdS (w.drewN n) v l := h
theorem RdS.of_own {w : World} {B : Nat} {v : Value} {l : List Str} (h : w.ownsRow B 9 1 v l.length (l.map encS)) : RdS w v l := by
  rcases h.2 with ⟨rfl, h0⟩ | ⟨g, cap, cur, rfl, _, _, h2, h3, _⟩
  · exact ⟨none, 0, by rw [h0], by omega, Nat.zero_le _, fun k => by omega⟩
  · exact ⟨_, cap, rfl, h2, h3, fun _ => ⟨g, 0, rfl, (h.lt g rfl).2, fun j x hx => by rw [Nat.zero_add]; exact own_cell h j (encS x) (by rw [List.getElem?_map, hx]; rfl)⟩⟩
theorem RdS.slice {w : World} {v : Value} {l : List Str} (h : RdS w v l) : ∃ a cap, v = .slice a l.length cap ∧ l.length ≤ cap ∧ cap ≤ maxLen := by
  obtain ⟨a, cap, h1, h2, h3, _⟩ := h
  exact ⟨a, cap, h1, h2, h3⟩

theorem vcut (p h : Str) (t : List Str) (e : cutP p = h :: t) (hp : p ≠ [47]) :
    validB p = (decide (h = []) && decide (1 ≤ t.length ∧ t.length ≤ 40) && t.all nameB) ∧ (h = [] → namesL p = t ∨ t = []) := by
  cases p with
  | nil =>
    simp [cutP] at e
    obtain ⟨rfl, rfl⟩ := e
    exact ⟨by simp [validB], fun _ => .inr rfl⟩
  | cons c r =>
    rw [cutP_cons] at e
    by_cases hc : c = 47
    · subst hc
      rw [if_pos rfl] at e
      obtain ⟨rfl, rfl⟩ := List.cons.inj e
      have hr : r ≠ [] := fun k => hp (by rw [k])
      have h1 : 1 ≤ (cutP r).length := List.length_pos_iff.2 (cutP_ne r)
      refine ⟨?_, fun _ => .inl ?_⟩
      · rw [validB_slash r hr]
        unfold partsB
        simp [h1]
      · show splitL r = _
        rw [splitL, if_neg hr]
    · rw [if_neg hc] at e
      have hh : h ≠ [] := by
        cases k : cutP r with
        | nil => exact absurd k (cutP_ne r)
        | cons a b =>
          rw [k] at e
          obtain ⟨rfl, _⟩ := List.cons.inj e
          simp
      refine ⟨?_, fun k => absurd k hh⟩
      simp [validB, hc, hh]

def RNo (w : World) (e : Ending) (w' : World) : Prop := e = .returned (.tuple #[.slice none 0 0, .bool false]) ∧ Below w.heap.size w w'
def RYes (l : List Str) (w : World) (e : Ending) (w' : World) : Prop := ∃ v, e = .returned (.tuple #[v, .bool true]) ∧ RdS w' v l ∧ Below w.heap.size w w'

set_option maxHeartbeats 2000000 in
theorem rnames_root (w : World) : Calls Tryd.prog 51 #[.string ⟨#[47]⟩] w (RYes [] w) := by
  have f1 : ((⟨#[47]⟩ : ByteArray).toList == [47]) = true := by rw [Lib.toList_data]; rfl
  go_enter Tryd.func51, Tryd.ntmps51
  go_wp2
  go_ret2
  exact ⟨_, rfl, RdS.nil _, Below.refl _ _⟩

set_option maxRecDepth 100000 in
set_option maxHeartbeats 2000000 in
theorem rnames_bad (p : ByteArray) (hp : p.size ≤ 2000000) (hr : p.data.toList ≠ [47]) (h : Str) (t : List Str) (e : cutP p.data.toList = h :: t) (m : Nat) (y : Str) (hy : t[m]? = some y) (hbad : nameB y = false) (w : World) : Calls Tryd.prog 51 #[.string p] w (RNo w) := by
  have f1 : (p.toList == [47]) = false := by rw [Lib.toList_data]; simp [hr]
  have HE := Lib.hid e
  have HY := Lib.hid hy
  have HBAD := Lib.hid hbad
  have hmt : m < t.length := (List.getElem?_eq_some_iff.1 hy).1
  have hps : p.data.toList.length = p.size := rfl
  have hlen : (cutP p.data.toList).length ≤ 2000001 := by have := cutP_len p.data.toList; omega
  obtain ⟨tn, htn⟩ : ∃ tn, t.length = tn := ⟨_, rfl⟩
  have HTN := Lib.hid htn
  have hn : (cutP p.data.toList).length = tn + 1 := by rw [e, ← htn]; rfl
  have HPL := Lib.hid (part_len p.data.toList)
  have htb : tn ≤ 2000000 := by omega
  clear hr e hps htn hy hbad
  go_enter Tryd.func51, Tryd.ntmps51
  go_wp2_with fail
  refine (rcut_any p hp _).mono ?_
  rintro e w1 ⟨v, rfl, hrow, hb⟩
  obtain ⟨g, cap, rfl, hgB, hglt⟩ := hrow.form (by omega)
  have hcap : tn + 1 ≤ cap ∧ cap ≤ maxLen := by
    rcases hrow.2 with ⟨k, _⟩ | ⟨g', cap', cur, hv, _, _, hnc, hcm, _⟩
    · cases k
    · injection hv with _ _ h3; subst h3; exact ⟨by omega, hcm⟩
  have HCM := Lib.hid hcap
  have hcells : ∀ k x, t[k]? = some x → w1.cell? ⟨g, 1 + k, none⟩ = some (.string ⟨x.toArray⟩) := fun k x hx => by
    have := own_cell hrow (1 + k) (encS x) (by rw [HE.out, List.getElem?_map, Nat.add_comm, List.getElem?_cons_succ, hx]; rfl)
    exact this
  have hcell0 := own_cell hrow 0 (encS h) (by rw [HE.out]; rfl)
  have HC := Lib.hid hcells
  have HC0 := Lib.hid hcell0
  rw [hn]
  have hb1 : w.heap.size ≤ w1.heap.size := hb.size
  have hmt2 : m < tn := by have := HTN.out; omega
  have hc1 : ¬ cap = 1 := by omega
  have c1 : (1 : Int) ≤ (tn : Int) + 1 := by omega
  have c2 : (tn : Int) + 1 ≤ (cap : Int) := by omega
  clear hrow hn hlen hcells hcell0 hcap
  go_wp2
  go_loop [14] (fun i => ∃ k : Nat, k ≤ m ∧ i = .int .i64 k) (fun i => tn - (intOf i).toNat)
  case atStart => exact ⟨0, Nat.zero_le _, rfl⟩
  case round =>
    obtain ⟨k, hk, rfl⟩ := hrel
    have hlt : k < tn := by omega
    obtain ⟨x, hx⟩ : ∃ x, t[k]? = some x := ⟨_, List.getElem?_eq_getElem (by have := HTN.out; omega)⟩
    have hcx := HC.out k x hx
    have hxs : x.length ≤ 2000000 := Nat.le_trans (HPL.out x (by rw [HE.out]; exact List.mem_cons_of_mem _ (List.mem_of_getElem? hx))) hp
    have HX := Lib.hid hx
    clear hx
    by_cases hnx : nameB x = true
    · have HK : Hid (k ≠ m) := fun e => by
        subst e
        have h1 := HX.out
        rw [HY.out] at h1
        cases h1
        rw [HBAD.out] at hnx
        cases hnx
      have HNX := Lib.hid hnx
      clear hnx
      go_wp2_with (go_at_call 65; refine (rname_any ⟨x.toArray⟩ (show x.length ≤ _ by omega) _).mono ?_; rintro e w' ⟨rfl, rfl⟩; rw [show nameB (⟨x.toArray⟩ : ByteArray).data.toList = true from HNX.out])
      go_round
      case rel => exact ⟨k + 1, by have := HK.out; omega, by go_num⟩
      case measure => simp [intOf]; omega
    · have HNX := Lib.hid (Bool.eq_false_iff.2 hnx)
      clear hnx
      go_wp2_with (go_at_call 65; refine (rname_any ⟨x.toArray⟩ (show x.length ≤ _ by omega) _).mono ?_; rintro e w' ⟨rfl, rfl⟩; rw [show nameB (⟨x.toArray⟩ : ByteArray).data.toList = false from HNX.out])
      go_ret2
      exact ⟨rfl, hb⟩

set_option maxRecDepth 100000 in
set_option maxHeartbeats 2000000 in
theorem rnames_good (p : ByteArray) (hp : p.size ≤ 2000000) (hr : p.data.toList ≠ [47]) (t : List Str) (e : cutP p.data.toList = [] :: t) (hall : ∀ x ∈ t, nameB x = true) (h1 : 1 ≤ t.length) (h2 : t.length ≤ 40) (w : World) : Calls Tryd.prog 51 #[.string p] w (RYes t w) := by
  obtain ⟨h, hh⟩ : ∃ h : Str, h = [] := ⟨_, rfl⟩
  rw [← hh] at e
  have f1 : (p.toList == [47]) = false := by rw [Lib.toList_data]; simp [hr]
  have HE := Lib.hid e
  have HALL := Lib.hid hall
  have HH := Lib.hid hh
  have hps : p.data.toList.length = p.size := rfl
  have hlen : (cutP p.data.toList).length ≤ 2000001 := by have := cutP_len p.data.toList; omega
  obtain ⟨tn, htn⟩ : ∃ tn, t.length = tn := ⟨_, rfl⟩
  have HTN := Lib.hid htn
  have hn : (cutP p.data.toList).length = tn + 1 := by rw [e, ← htn]; rfl
  have HPL := Lib.hid (part_len p.data.toList)
  have htb : tn ≤ 2000000 := by omega
  clear hr e hps htn hh hall
  go_enter Tryd.func51, Tryd.ntmps51
  go_wp2_with fail
  refine (rcut_any p hp _).mono ?_
  rintro e w1 ⟨v, rfl, hrow, hb⟩
  obtain ⟨g, cap, rfl, hgB, hglt⟩ := hrow.form (by omega)
  have hcap : tn + 1 ≤ cap ∧ cap ≤ maxLen := by
    rcases hrow.2 with ⟨k, _⟩ | ⟨g', cap', cur, hv, _, _, hnc, hcm, _⟩
    · cases k
    · injection hv with _ _ h3; subst h3; exact ⟨by omega, hcm⟩
  have HCM := Lib.hid hcap
  have hcells : ∀ k x, t[k]? = some x → w1.cell? ⟨g, 1 + k, none⟩ = some (.string ⟨x.toArray⟩) := fun k x hx => by
    have := own_cell hrow (1 + k) (encS x) (by rw [HE.out, List.getElem?_map, Nat.add_comm, List.getElem?_cons_succ, hx]; rfl)
    exact this
  have hcell0 := own_cell hrow 0 (encS h) (by rw [HE.out]; rfl)
  have HC := Lib.hid hcells
  have HC0 := Lib.hid hcell0
  rw [hn]
  have hb1 : w.heap.size ≤ w1.heap.size := hb.size
  have ht1 : 1 ≤ tn := by have := HTN.out; omega
  have ht2 : tn ≤ 40 := by have := HTN.out; omega
  have hc1 : ¬ cap = 1 := by omega
  have c1 : (1 : Int) ≤ (tn : Int) + 1 := by omega
  have c2 : (tn : Int) + 1 ≤ (cap : Int) := by omega
  have c3 : ¬ (tn : Int) + 1 < 2 := by omega
  have c4 : ¬ (41 : Int) < (tn : Int) + 1 := by omega
  have d3 : decide ((tn : Int) + 1 < 2) = false := decide_eq_false c3
  have d4 : decide ((41 : Int) < (tn : Int) + 1) = false := decide_eq_false c4
  clear hrow hn hlen hcells hcell0 hcap h1 h2
  go_wp2
  go_loop [14] (fun i => ∃ k : Nat, k ≤ tn ∧ i = .int .i64 k) (fun i => tn - (intOf i).toNat)
  case atStart => exact ⟨0, Nat.zero_le _, rfl⟩
  case round =>
    obtain ⟨k, hk, rfl⟩ := hrel
    by_cases hlt : k < tn
    · obtain ⟨x, hx⟩ : ∃ x, t[k]? = some x := ⟨_, List.getElem?_eq_getElem (by have := HTN.out; omega)⟩
      have hcx := HC.out k x hx
      have hxs : x.length ≤ 2000000 := Nat.le_trans (HPL.out x (by rw [HE.out]; exact List.mem_cons_of_mem _ (List.mem_of_getElem? hx))) hp
      have HNX := Lib.hid (HALL.out x (List.mem_of_getElem? hx))
      clear hx
      go_wp2_with (go_at_call 65; refine (rname_any ⟨x.toArray⟩ (show x.length ≤ _ by omega) _).mono ?_; rintro e w' ⟨rfl, rfl⟩; rw [show nameB (⟨x.toArray⟩ : ByteArray).data.toList = true from HNX.out])
      go_round
      case rel => exact ⟨k + 1, hlt, by go_num⟩
      case measure => simp [intOf]; omega
    · have hcx := HC0.out
      unfold encS at hcx
      rw [HH.out] at hcx
      go_wp2
      go_ret2
      exact ⟨_, rfl, ⟨some ⟨g, 1, none⟩, cap - 1, by rw [HTN.out]; rfl, by have := HTN.out; omega, by have := HCM.out.2; omega, fun _ => ⟨g, 1, rfl, hglt, fun j x hx => HC.out j x hx⟩⟩, hb⟩

set_option maxRecDepth 100000 in
set_option maxHeartbeats 2000000 in
theorem rnames_head (p : ByteArray) (hp : p.size ≤ 2000000) (hr : p.data.toList ≠ [47]) (h : Str) (t : List Str) (e : cutP p.data.toList = h :: t) (hall : ∀ x ∈ t, nameB x = true) (hne : h ≠ []) (w : World) : Calls Tryd.prog 51 #[.string p] w (RNo w) := by
  have f1 : (p.toList == [47]) = false := by rw [Lib.toList_data]; simp [hr]
  have HE := Lib.hid e
  have HALL := Lib.hid hall
  have hps : p.data.toList.length = p.size := rfl
  have hlen : (cutP p.data.toList).length ≤ 2000001 := by have := cutP_len p.data.toList; omega
  obtain ⟨tn, htn⟩ : ∃ tn, t.length = tn := ⟨_, rfl⟩
  have HTN := Lib.hid htn
  have hn : (cutP p.data.toList).length = tn + 1 := by rw [e, ← htn]; rfl
  have HPL := Lib.hid (part_len p.data.toList)
  have htb : tn ≤ 2000000 := by omega
  clear hr e hps htn hall
  go_enter Tryd.func51, Tryd.ntmps51
  go_wp2_with fail
  refine (rcut_any p hp _).mono ?_
  rintro e w1 ⟨v, rfl, hrow, hb⟩
  obtain ⟨g, cap, rfl, hgB, hglt⟩ := hrow.form (by omega)
  have hcap : tn + 1 ≤ cap ∧ cap ≤ maxLen := by
    rcases hrow.2 with ⟨k, _⟩ | ⟨g', cap', cur, hv, _, _, hnc, hcm, _⟩
    · cases k
    · injection hv with _ _ h3; subst h3; exact ⟨by omega, hcm⟩
  have HCM := Lib.hid hcap
  have hcells : ∀ k x, t[k]? = some x → w1.cell? ⟨g, 1 + k, none⟩ = some (.string ⟨x.toArray⟩) := fun k x hx => by
    have := own_cell hrow (1 + k) (encS x) (by rw [HE.out, List.getElem?_map, Nat.add_comm, List.getElem?_cons_succ, hx]; rfl)
    exact this
  have hcell0 := own_cell hrow 0 (encS h) (by rw [HE.out]; rfl)
  have HC := Lib.hid hcells
  have HC0 := Lib.hid hcell0
  rw [hn]
  have hb1 : w.heap.size ≤ w1.heap.size := hb.size
  have n1 : h.isEmpty = false := isEmpty_no hne
  have n2 : (!h.isEmpty) = true := by rw [n1]; rfl
  have c1 : (1 : Int) ≤ (tn : Int) + 1 := by omega
  have c2 : (tn : Int) + 1 ≤ (cap : Int) := by omega
  clear hrow hn hlen hcells hcell0
  by_cases hc1 : cap = 1
  · have htn0 : tn = 0 := by omega
    subst htn0
    subst hc1
    clear hcap hne
    go_wp2
    go_loop [14] (fun i => i = .int .i64 0) (fun _ => 0)
    case atStart => rfl
    case round =>
      obtain rfl := hrel
      have hcx := HC0.out
      unfold encS at hcx
      go_wp2
      go_ret2
      exact ⟨rfl, hb⟩
  · clear hcap hne
    go_wp2
    go_loop [14] (fun i => ∃ k : Nat, k ≤ tn ∧ i = .int .i64 k) (fun i => tn - (intOf i).toNat)
    case atStart => exact ⟨0, Nat.zero_le _, rfl⟩
    case round =>
      obtain ⟨k, hk, rfl⟩ := hrel
      by_cases hlt : k < tn
      · obtain ⟨x, hx⟩ : ∃ x, t[k]? = some x := ⟨_, List.getElem?_eq_getElem (by have := HTN.out; omega)⟩
        have hcx := HC.out k x hx
        have hxs : x.length ≤ 2000000 := Nat.le_trans (HPL.out x (by rw [HE.out]; exact List.mem_cons_of_mem _ (List.mem_of_getElem? hx))) hp
        have HNX := Lib.hid (HALL.out x (List.mem_of_getElem? hx))
        clear hx
        go_wp2_with (go_at_call 65; refine (rname_any ⟨x.toArray⟩ (show x.length ≤ _ by omega) _).mono ?_; rintro e w' ⟨rfl, rfl⟩; rw [show nameB (⟨x.toArray⟩ : ByteArray).data.toList = true from HNX.out])
        go_round
        case rel => exact ⟨k + 1, hlt, by go_num⟩
        case measure => simp [intOf]; omega
      · have hcx := HC0.out
        unfold encS at hcx
        go_wp2
        go_ret2
        exact ⟨rfl, hb⟩

set_option maxRecDepth 100000 in
set_option maxHeartbeats 2000000 in
theorem rnames_len (p : ByteArray) (hp : p.size ≤ 2000000) (hr : p.data.toList ≠ [47]) (t : List Str) (e : cutP p.data.toList = [] :: t) (hall : ∀ x ∈ t, nameB x = true) (h2 : t.length = 0 ∨ 40 < t.length) (w : World) : Calls Tryd.prog 51 #[.string p] w (RNo w) := by
  obtain ⟨h, hh⟩ : ∃ h : Str, h = [] := ⟨_, rfl⟩
  rw [← hh] at e
  have f1 : (p.toList == [47]) = false := by rw [Lib.toList_data]; simp [hr]
  have HE := Lib.hid e
  have HALL := Lib.hid hall
  have HH := Lib.hid hh
  have hps : p.data.toList.length = p.size := rfl
  have hlen : (cutP p.data.toList).length ≤ 2000001 := by have := cutP_len p.data.toList; omega
  obtain ⟨tn, htn⟩ : ∃ tn, t.length = tn := ⟨_, rfl⟩
  have HTN := Lib.hid htn
  have hn : (cutP p.data.toList).length = tn + 1 := by rw [e, ← htn]; rfl
  have HPL := Lib.hid (part_len p.data.toList)
  have htb : tn ≤ 2000000 := by omega
  clear hr e hps htn hh hall
  go_enter Tryd.func51, Tryd.ntmps51
  go_wp2_with fail
  refine (rcut_any p hp _).mono ?_
  rintro e w1 ⟨v, rfl, hrow, hb⟩
  obtain ⟨g, cap, rfl, hgB, hglt⟩ := hrow.form (by omega)
  have hcap : tn + 1 ≤ cap ∧ cap ≤ maxLen := by
    rcases hrow.2 with ⟨k, _⟩ | ⟨g', cap', cur, hv, _, _, hnc, hcm, _⟩
    · cases k
    · injection hv with _ _ h3; subst h3; exact ⟨by omega, hcm⟩
  have HCM := Lib.hid hcap
  have hcells : ∀ k x, t[k]? = some x → w1.cell? ⟨g, 1 + k, none⟩ = some (.string ⟨x.toArray⟩) := fun k x hx => by
    have := own_cell hrow (1 + k) (encS x) (by rw [HE.out, List.getElem?_map, Nat.add_comm, List.getElem?_cons_succ, hx]; rfl)
    exact this
  have hcell0 := own_cell hrow 0 (encS h) (by rw [HE.out]; rfl)
  have HC := Lib.hid hcells
  have HC0 := Lib.hid hcell0
  rw [hn]
  have hb1 : w.heap.size ≤ w1.heap.size := hb.size
  have h3 : tn = 0 ∨ 40 < tn := by have := HTN.out; omega
  have c1 : (1 : Int) ≤ (tn : Int) + 1 := by omega
  have c2 : (tn : Int) + 1 ≤ (cap : Int) := by omega
  clear hrow hn hlen hcells hcell0 h2
  rcases h3 with h3 | h3
  · subst h3
    clear c1
    by_cases hc1 : cap = 1
    · subst hc1
      clear hcap
      go_wp2
      go_loop [14] (fun i => i = .int .i64 0) (fun _ => 0)
      case atStart => rfl
      case round =>
        obtain rfl := hrel
        have hcx := HC0.out
        unfold encS at hcx
        rw [HH.out] at hcx
        go_wp2
        go_ret2
        exact ⟨rfl, hb⟩
    · clear hcap
      go_wp2
      go_loop [14] (fun i => i = .int .i64 0) (fun _ => 0)
      case atStart => rfl
      case round =>
        obtain rfl := hrel
        have hcx := HC0.out
        unfold encS at hcx
        rw [HH.out] at hcx
        go_wp2
        go_ret2
        exact ⟨rfl, hb⟩
  · have hc1 : ¬ cap = 1 := by omega
    have c3 : ¬ (tn : Int) + 1 < 2 := by omega
    have c4 : (41 : Int) < (tn : Int) + 1 := by omega
    have d3 : decide ((tn : Int) + 1 < 2) = false := decide_eq_false c3
    have d4 : decide ((41 : Int) < (tn : Int) + 1) = true := decide_eq_true c4
    clear hcap
    go_wp2
    go_loop [14] (fun i => ∃ k : Nat, k ≤ tn ∧ i = .int .i64 k) (fun i => tn - (intOf i).toNat)
    case atStart => exact ⟨0, Nat.zero_le _, rfl⟩
    case round =>
      obtain ⟨k, hk, rfl⟩ := hrel
      by_cases hlt : k < tn
      · obtain ⟨x, hx⟩ : ∃ x, t[k]? = some x := ⟨_, List.getElem?_eq_getElem (by have := HTN.out; omega)⟩
        have hcx := HC.out k x hx
        have hxs : x.length ≤ 2000000 := Nat.le_trans (HPL.out x (by rw [HE.out]; exact List.mem_cons_of_mem _ (List.mem_of_getElem? hx))) hp
        have HNX := Lib.hid (HALL.out x (List.mem_of_getElem? hx))
        clear hx
        go_wp2_with (go_at_call 65; refine (rname_any ⟨x.toArray⟩ (show x.length ≤ _ by omega) _).mono ?_; rintro e w' ⟨rfl, rfl⟩; rw [show nameB (⟨x.toArray⟩ : ByteArray).data.toList = true from HNX.out])
        go_round
        case rel => exact ⟨k + 1, hlt, by go_num⟩
        case measure => simp [intOf]; omega
      · have hcx := HC0.out
        unfold encS at hcx
        rw [HH.out] at hcx
        go_wp2
        go_ret2
        exact ⟨rfl, hb⟩

theorem rnames_any (p : ByteArray) (hp : p.size ≤ 2000000) (w : World) :
    (validB p.data.toList = true → Calls Tryd.prog 51 #[.string p] w (RYes (namesL p.data.toList) w)) ∧ (validB p.data.toList = false → Calls Tryd.prog 51 #[.string p] w (RNo w)) := by
  by_cases hr : p.data.toList = [47]
  · have e : p = ⟨#[47]⟩ := ba_eq p [47] hr
    subst e
    exact ⟨fun _ => rnames_root w, fun h => by rw [show validB (⟨#[47]⟩ : ByteArray).data.toList = true from validB_root] at h; cases h⟩
  · obtain ⟨h, t, e⟩ : ∃ h t, cutP p.data.toList = h :: t := by
      cases k : cutP p.data.toList with
      | nil => exact absurd k (cutP_ne _)
      | cons h t => exact ⟨h, t, rfl⟩
    have hv := vcut _ h t e hr
    by_cases hall : t.all nameB = true
    · have hall' := List.all_eq_true.1 hall
      by_cases hh : h = []
      · subst hh
        by_cases hl : 1 ≤ t.length ∧ t.length ≤ 40
        · have hn : namesL p.data.toList = t := by
            rcases hv.2 rfl with k | k
            · exact k
            · subst k; simp at hl
          refine ⟨fun _ => by rw [hn]; exact rnames_good p hp hr t e hall' hl.1 hl.2 w, fun k => ?_⟩
          rw [hv.1, hall, decide_eq_true hl] at k
          simp at k
        · refine ⟨fun k => ?_, fun _ => rnames_len p hp hr t e hall' (by omega) w⟩
          rw [hv.1, decide_eq_false hl] at k
          simp at k
      · refine ⟨fun k => ?_, fun _ => rnames_head p hp hr h t e hall' hh w⟩
        rw [hv.1] at k
        simp [hh] at k
    · obtain ⟨y, hy, hb⟩ : ∃ y ∈ t, nameB y = false := by
        have := List.all_eq_false.1 (Bool.eq_false_iff.2 hall)
        obtain ⟨y, hy, hb⟩ := this
        exact ⟨y, hy, Bool.eq_false_iff.2 hb⟩
      obtain ⟨m, hm⟩ := List.getElem?_of_mem hy
      refine ⟨fun k => ?_, fun _ => rnames_bad p hp hr h t e m y hm hb w⟩
      rw [hv.1, Bool.eq_false_iff.2 hall, Bool.and_false] at k
      cases k
end Go.Proofs.YtophihnjlodmjaaDoor.Pt

namespace Go.Proofs.YtophihnjlodmjaaDoor.Pt
open Go.RowKit Go.Shelf

theorem rd_cell {w : World} {g o n cap : Nat} {l : List Str} (h : RdS w (.slice (some ⟨g, o, none⟩) n cap) l) (j : Nat) (x : Str) (hx : l[j]? = some x) : w.cell? ⟨g, o + j, none⟩ = some (encS x) := by
  obtain ⟨a, c, h1, _, _, h4⟩ := h
  injection h1 with h1 h2 h3
  have hl : 0 < l.length := by have := (List.getElem?_eq_some_iff.1 hx).1; omega
  obtain ⟨g', o', e, _, hc⟩ := h4 hl
  rw [e] at h1
  injection h1 with h1
  injection h1 with h1 h2
  subst h1; subst h2
  exact hc j x hx

set_option maxHeartbeats 2000000 in
theorem rright_any (p : ByteArray) (hp : p.size ≤ 2000000) (w : World) : Calls Tryd.prog 37 #[.string p] w fun e w' => e = .returned (.bool (validB p.data.toList)) ∧ Below w.heap.size w w' := by
  obtain ⟨b, hb⟩ : ∃ b, validB p.data.toList = b := ⟨_, rfl⟩
  rw [hb]
  cases b
  · have HB := Lib.hid hb
    clear hb
    go_enter Tryd.func37, Tryd.ntmps37
    go_wp2_with fail
    refine ((rnames_any p hp _).2 HB.out).mono ?_
    rintro e w1 ⟨rfl, hb⟩
    go_wp2
    go_ret
    exact ⟨rfl, hb⟩
  · have HB := Lib.hid hb
    clear hb
    go_enter Tryd.func37, Tryd.ntmps37
    go_wp2_with fail
    refine ((rnames_any p hp _).1 HB.out).mono ?_
    rintro e w1 ⟨v, rfl, hr, hb⟩
    go_wp2
    go_ret
    exact ⟨rfl, hb⟩

set_option maxHeartbeats 2000000 in
theorem rjoin_none (a : Option Addr) (cap : Nat) (w : World) : Calls Tryd.prog 53 #[.slice a 0 cap] w fun e w' => e = .returned (.string ⟨#[47]⟩) ∧ w = w' := by
  go_enter Tryd.func53, Tryd.ntmps53
  go_wp2
  go_ret
  exact ⟨rfl, rfl⟩

theorem flat_snoc (l : List Str) (x : Str) : flat (l ++ [x]) = flat l ++ 47 :: x := by rw [flat_append, flat_cons, flat_nil, List.append_nil]
theorem flat_mono (l : List Str) (k : Nat) : (flat (l.take k)).length ≤ (flat l).length := by
  conv => rhs; rw [← List.take_append_drop k l]
  rw [flat_append, List.length_append]
  omega

set_option maxHeartbeats 2000000 in
theorem rjoin_some (g o n cap : Nat) (l : List Str) (w : World) (hn : l.length = n) (h0 : 0 < n) (hn2 : n ≤ 1000) (hc : ∀ j x, l[j]? = some x → w.cell? ⟨g, o + j, none⟩ = some (encS x)) (hf : (flat l).length ≤ 2000000) :
    Calls Tryd.prog 53 #[.slice (some ⟨g, o, none⟩) n cap] w fun e w' => e = .returned (.string ⟨(flat l).toArray⟩) ∧ w = w' := by
  have HC := Lib.hid hc
  have HF := Lib.hid hf
  have HN := Lib.hid hn
  have d0 : ((n : Int) == 0) = false := by rw [beq_eq_false_iff_ne]; omega
  clear hc hf hn
  go_enter Tryd.func53, Tryd.ntmps53
  go_wp2
  go_loop [3, 11] (fun v i => ∃ k : Nat, k ≤ n ∧ i = .int .i64 k ∧ v = .string ⟨(flat (l.take k)).toArray⟩) (fun _ i => n - (intOf i).toNat)
  case atStart => exact ⟨0, Nat.zero_le _, rfl, by rw [List.take_zero]; rfl⟩
  case round =>
    obtain ⟨k, hk, rfl, rfl⟩ := hrel
    by_cases hlt : k < n
    · obtain ⟨x, hx⟩ : ∃ x, l[k]? = some x := ⟨_, List.getElem?_eq_getElem (by have := HN.out; omega)⟩
      have hcx := HC.out k x hx
      have HX := Lib.hid hx
      have ht : flat (l.take (k + 1)) = flat (l.take k) ++ 47 :: x := by rw [take_get l k x hx, flat_snoc]
      have hm := flat_mono l (k + 1)
      have hsz : (flat (l.take k)).length + (1 + x.length) ≤ 2000000 := by
        rw [ht, List.length_append] at hm
        have := HF.out
        simp at hm
        omega
      have HT := Lib.hid ht
      clear hx ht hm
      unfold encS at hcx
      go_wp2
      refine ⟨⟨k + 1, hlt, by go_num, ?_⟩, by simp [intOf]; omega⟩
      rw [HT.out]
      congr 1
    · have e : l.take k = l := List.take_of_length_le (by have := HN.out; omega)
      rw [e]
      go_wp2
      go_ret
      exact ⟨rfl, rfl⟩

theorem rjoin_any (v : Value) (l : List Str) (w : World) (h : RdS w v l) (hn : l.length ≤ 1000) (hf : (flat l).length ≤ 2000000) :
    Calls Tryd.prog 53 #[v] w fun e w' => e = .returned (.string ⟨(joinL l).toArray⟩) ∧ w = w' := by
  by_cases h0 : l = []
  · subst h0
    obtain ⟨a, cap, rfl, _⟩ := h
    exact rjoin_none a cap w
  · obtain ⟨a, cap, rfl, _, _, h4⟩ := h
    have hl := List.length_pos_iff.2 h0
    obtain ⟨g, o, rfl, _, hc⟩ := h4 hl
    rw [joinL_flat l h0]
    exact rjoin_some g o l.length cap l w rfl hl hn hc hf

theorem joinL_len (l : List Str) (h : partsB l = true) : (flat l).length ≤ 2000000 := by
  have h1 := (parts_iff l).1 h
  have := flat_len l h1.2
  omega

theorem RdS.take {w : World} {a : Option Addr} {n cap : Nat} {l : List Str} (h : RdS w (.slice a n cap) l) (k : Nat) (hk : k ≤ n) : RdS w (.slice a k cap) (l.take k) := by
  obtain ⟨a', cap', e, h2, h3, h4⟩ := h
  injection e with e1 e2 e3
  subst e1; subst e2; subst e3
  have hl : (l.take k).length = k := by rw [List.length_take]; omega
  refine ⟨a, cap, by rw [hl], by omega, h3, fun h0 => ?_⟩
  obtain ⟨g, o, ea, hg, hc⟩ := h4 (by omega)
  refine ⟨g, o, ea, hg, fun j x hx => hc j x ?_⟩
  rw [List.getElem?_take] at hx
  split at hx
  · exact hx
  · cases hx

set_option maxHeartbeats 2000000 in
theorem rup_any (p : ByteArray) (hp : p.size ≤ 2000000) (w : World) : Calls Tryd.prog 39 #[.string p] w fun e w' => e = .returned (.string ⟨(upL p.data.toList).toArray⟩) ∧ Below w.heap.size w w' := by
  by_cases hv : validB p.data.toList = true
  · by_cases h0 : namesL p.data.toList = []
    · have e : upL p.data.toList = [47] := by rw [upL, if_pos hv, h0]; rfl
      rw [e]
      have HV := Lib.hid hv
      have H0 := Lib.hid h0
      clear hv h0 e
      go_enter Tryd.func39, Tryd.ntmps39
      go_wp2_with fail
      refine ((rnames_any p hp _).1 HV.out).mono ?_
      rintro e w1 ⟨v, rfl, hr, hb⟩
      rw [H0.out] at hr
      obtain ⟨a, cap, rfl, _⟩ := hr
      go_wp2
      go_ret
      exact ⟨rfl, hb⟩
    · have e : upL p.data.toList = joinL (namesL p.data.toList).dropLast := by rw [upL, if_pos hv]
      rw [e]
      have HV := Lib.hid hv
      have hpb := (valid_join _ hv).2
      have HP := Lib.hid (parts_dropLast _ hpb)
      obtain ⟨n, hn⟩ : ∃ n, (namesL p.data.toList).length = n := ⟨_, rfl⟩
      have hn0 : 0 < n := by have := List.length_pos_iff.2 h0; omega
      have hn40 : n ≤ 40 := by have := ((parts_iff _).1 hpb).1; omega
      have HN := Lib.hid hn
      have d0 : ((n : Int) == 0) = false := by rw [beq_eq_false_iff_ne]; omega
      have q1 : IntKind.i64.wrap ((n : Int) - 1) = (n : Int) - 1 := by rw [IntWalk.i64_in _ (by omega)]
      have q2 : (0 : Int) ≤ (n : Int) - 1 := by omega
      have q4 : ((n : Int) - 1).toNat = n - 1 := by omega
      clear hv h0 e hpb hn
      go_enter Tryd.func39, Tryd.ntmps39
      go_wp2_with fail
      refine ((rnames_any p hp _).1 HV.out).mono ?_
      rintro e w1 ⟨v, rfl, hr, hb⟩
      obtain ⟨a, cap, rfl, hc1, hc2, _⟩ := id hr
      have HR := Lib.hid hr
      rw [HN.out]
      have q3 : (n : Int) - 1 ≤ (cap : Int) := by have := HN.out; omega
      clear hr
      go_wp2_with fail
      have hr2 : RdS w1 (.slice a (n - 1) cap) (namesL p.data.toList).dropLast := by
        rw [List.dropLast_eq_take, HN.out]
        exact RdS.take (by have := HR.out; rwa [HN.out] at this) _ (by omega)
      have h3 : (namesL p.data.toList).dropLast.length ≤ 1000 := by have := HN.out; rw [List.length_dropLast]; omega
      refine (rjoin_any _ _ w1 hr2 h3 (joinL_len _ HP.out)).mono ?_
      rintro e w2 ⟨rfl, rfl⟩
      go_wp2
      go_ret
      exact ⟨rfl, hb⟩
  · have e : upL p.data.toList = [] := by rw [upL, if_neg hv]
    rw [e]
    have HV := Lib.hid (Bool.eq_false_iff.2 hv)
    clear hv e
    go_enter Tryd.func39, Tryd.ntmps39
    go_wp2_with fail
    refine ((rnames_any p hp _).2 HV.out).mono ?_
    rintro e w1 ⟨rfl, hb⟩
    go_wp2
    go_ret
    exact ⟨rfl, hb⟩
end Go.Proofs.YtophihnjlodmjaaDoor.Pt

namespace Go.Proofs.YtophihnjlodmjaaDoor.Pt
open Go.RowKit Go.Shelf

theorem RdS.cells {w : World} {a : Option Addr} {n cap : Nat} {l : List Str} (h : RdS w (.slice a n cap) l) (h0 : 0 < l.length) : ∃ g o, a = some ⟨g, o, none⟩ ∧ g < w.heap.size ∧ ∀ j x, l[j]? = some x → w.cell? ⟨g, o + j, none⟩ = some (encS x) := by
  obtain ⟨_, _, E, _, _, k⟩ := h
  injection E with E _ _
  rw [E]
  exact k h0

theorem RdS.caps {w : World} {a : Option Addr} {n cap : Nat} {l : List Str} (h : RdS w (.slice a n cap) l) : l.length = n ∧ n ≤ cap ∧ cap ≤ maxLen := by
  obtain ⟨_, _, E, h2, h3, _⟩ := h
  injection E with _ E2 E3
  subst E3
  exact ⟨E2.symm, by omega, h3⟩

set_option maxHeartbeats 2000000 in
theorem rnames_root0 (w : World) : Calls Tryd.prog 51 #[.string ⟨#[47]⟩] w fun e w' => e = .returned (.tuple #[.slice none 0 0, .bool true]) ∧ w = w' := by
  have f1 : ((⟨#[47]⟩ : ByteArray).toList == [47]) = true := by rw [Lib.toList_data]; rfl
  go_enter Tryd.func51, Tryd.ntmps51
  go_wp2
  go_ret2
  exact ⟨rfl, rfl⟩

theorem rnames_is (p : ByteArray) (hp : p.size ≤ 2000000) (b : Bool) (hb : validB p.data.toList = b) (w : World) :
    Calls Tryd.prog 51 #[.string p] w fun e w' => ∃ a n c, e = .returned (.tuple #[.slice a n c, .bool b]) ∧ Below w.heap.size w w' := by
  cases b
  · exact ((rnames_any p hp w).2 hb).mono fun _ _ ⟨he, hb⟩ => ⟨_, _, _, he, hb⟩
  · refine ((rnames_any p hp w).1 hb).mono ?_
    rintro e w' ⟨v, he, ⟨a, c, hv, _⟩, hb⟩
    subst hv
    exact ⟨_, _, _, he, hb⟩

/-- The names of the directory are the first ones: what is left. -/
theorem rben_pre (l d : List Str) (h : d <+: l) (k : Nat) (x y : Str) (hx : l[k]? = some x) (hy : d[k]? = some y) : y = x := by
  obtain ⟨r, rfl⟩ := h
  have hk := (List.getElem?_eq_some_iff.1 hy).1
  rw [List.getElem?_append_left hk, hy] at hx
  cases hx; rfl

theorem RdS.drop {w : World} {g o n cap : Nat} {l : List Str} (h : RdS w (.slice (some ⟨g, o, none⟩) n cap) l) (k : Nat) (j : Nat) (x : Str) (hx : (l.drop k)[j]? = some x) : w.cell? ⟨g, o + k + j, none⟩ = some (encS x) := by
  rw [List.getElem?_drop] at hx
  have := rd_cell h (k + j) x hx
  rwa [← Nat.add_assoc] at this

theorem add_off (g o j : Nat) : (⟨g, o, none⟩ : Addr).add j = ⟨g, o + j, none⟩ := by
  unfold Addr.add
  by_cases hj0 : j = 0
  · simp [hj0]
  · simp [hj0]
theorem fin_own {w : World} {B n : Nat} {v : Value} {T : List Value} {l : List Str} (h : w.ownsRow B 9 1 v (0 + n) ([] ++ T)) (hT : T = l.map encS) : RdS w v l := by
  subst hT
  have hl : l.length = 0 + n := by have := h.1; simpa using this
  rw [← hl] at h
  exact RdS.of_own h

end Go.Proofs.YtophihnjlodmjaaDoor.Pt

namespace Go.Proofs.YtophihnjlodmjaaDoor.Pt
open Go.RowKit Go.Shelf

theorem pre_no (l d : List Str) (h : ¬ d <+: l) : l.length < d.length ∨ (d.length ≤ l.length ∧ ∃ (j : Nat) (x y : Str), l[j]? = some x ∧ d[j]? = some y ∧ y ≠ x) := by
  induction d generalizing l with
  | nil => exact absurd (List.nil_prefix) h
  | cons a d ih =>
    cases l with
    | nil => left; simp
    | cons b l =>
      by_cases e : a = b
      · subst e
        rcases ih l (fun k => h (List.cons_prefix_cons.2 ⟨rfl, k⟩)) with k | ⟨k, j, x, y, h1, h2, h3⟩
        · left; simp; omega
        · right; exact ⟨by simp; omega, j + 1, x, y, by simpa using h1, by simpa using h2, h3⟩
      · by_cases hl : l.length < d.length
        · left; simp; omega
        · right; exact ⟨by simp; omega, 0, b, a, rfl, rfl, e⟩

theorem cb_ends (a b : Str) (h : a = [] ∨ b = []) : decide (Lib.compareBytes a b < 0) = decide (a.length < b.length) := by
  rcases h with rfl | rfl
  · cases b with
    | nil => rfl
    | cons y ys => simp [Lib.compareBytes]
  · cases a with
    | nil => rfl
    | cons x xs => simp [Lib.compareBytes]

theorem fin_less {m n k : Nat} {R : Bool} (he : decide (m - k < n - k) = R) (hk : k ≤ m ∧ k ≤ n) : Ending.returned (.bool (decide (m < n))) = .returned (.bool R) := by
  refine ret_bool ?_
  rw [← he]
  exact decide_eq_decide.2 (by omega)

theorem byte_lt (x y : UInt8) : x < y ↔ (x.toNat : Int) < (y.toNat : Int) := by
  rw [UInt8.lt_iff_toNat_lt]; omega

set_option maxRecDepth 100000 in
set_option maxHeartbeats 2000000 in
theorem rless_any (a b : ByteArray) (ha : a.size ≤ 2000000) (w : World) :
    Calls Tryd.prog 52 #[.string a, .string b] w fun e w' => e = .returned (.bool (decide (Lib.compareBytes a.data.toList b.data.toList < 0))) ∧ Below w.heap.size w w' := by
  obtain ⟨R, hR⟩ : ∃ R, decide (Lib.compareBytes a.data.toList b.data.toList < 0) = R := ⟨_, rfl⟩
  rw [hR]
  have HR := Lib.hid hR
  have HA := Lib.hid (show a.data.toList.length = a.size from rfl)
  have HB := Lib.hid (show b.data.toList.length = b.size from rfl)
  clear hR
  go_enter Tryd.func52, Tryd.ntmps52
  go_wp2
  go_loopw [5] (fun i wr => ∃ k : Nat, k ≤ a.size ∧ k ≤ b.size ∧ i = .int .i64 k ∧ Hid (decide (Lib.compareBytes (a.data.toList.drop k) (b.data.toList.drop k) < 0) = R) ∧ Hid (Below w.heap.size w wr)) (fun i _ => a.size - (intOf i).toNat)
  case atStart => exact ⟨0, Nat.zero_le _, Nat.zero_le _, rfl, HR, Below.refl _ _⟩
  case round =>
    obtain ⟨k, hka, hkb, rfl, HR1, HW⟩ := hrel
    clear HR
    by_cases h1 : k < a.size
    · by_cases h2 : k < b.size
      · have ea : a.data.toList.drop k = a[k] :: a.data.toList.drop (k + 1) := (List.getElem_cons_drop (by rw [HA.out]; exact h1)).symm
        have eb : b.data.toList.drop k = b[k] :: b.data.toList.drop (k + 1) := (List.getElem_cons_drop (by rw [HB.out]; exact h2)).symm
        have HE := Lib.hid HR1.out
        have he := HR1.out
        rw [ea, eb, cb_cons] at he
        clear ea eb
        rcases byte_tri a[k] b[k] with hlt | heq | hgt
        · rw [if_pos hlt] at he
          have HLT := Lib.hid (UInt8.lt_iff_toNat_lt.1 hlt)
          have hlt := (byte_lt _ _).1 hlt
          have q1 : ((a[k].toNat : Int) == (b[k].toNat : Int)) = false := by rw [beq_eq_false_iff_ne]; omega
          have q2 : ((a[k].toNat : Int) != (b[k].toNat : Int)) = true := by rw [bne, q1]; rfl
          have q3 : decide ((a[k].toNat : Int) < (b[k].toNat : Int)) = true := decide_eq_true hlt
          clear hlt
          go_wp2
          go_region
          go_wp2
          go_region
          go_wp2
          go_ret
          exact ⟨ret_bool ((decide_eq_true HLT.out).trans (by rw [← he]; rfl)), below_drewN HW.out 2⟩
        · have q1 : ((a[k].toNat : Int) == (b[k].toNat : Int)) = true := by rw [heq, beq_self_eq_true]
          have q2 : ((a[k].toNat : Int) != (b[k].toNat : Int)) = false := by rw [bne, q1]; rfl
          rw [heq, if_neg (byte_irr _), if_neg (byte_irr _)] at he
          have HE2 := Lib.hid he
          clear heq he
          go_wp2
          go_region
          go_wp2
          go_roundw
          case rel => exact ⟨k + 1, h1, h2, by go_num, HE2, below_drewN HW.out 1⟩
          case measure => simp [intOf]; omega
        · rw [if_neg (byte_asymm _ _ hgt), if_pos hgt] at he
          have HLT := Lib.hid (UInt8.lt_iff_toNat_lt.1 hgt)
          have hgt := (byte_lt _ _).1 hgt
          have q1 : ((a[k].toNat : Int) == (b[k].toNat : Int)) = false := by rw [beq_eq_false_iff_ne]; omega
          have q2 : ((a[k].toNat : Int) != (b[k].toNat : Int)) = true := by rw [bne, q1]; rfl
          have q3 : decide ((a[k].toNat : Int) < (b[k].toNat : Int)) = false := decide_eq_false (by omega)
          clear hgt
          go_wp2
          go_region
          go_wp2
          go_region
          go_wp2
          go_ret
          exact ⟨ret_bool ((decide_eq_false (Nat.lt_asymm HLT.out)).trans (by rw [← he]; rfl)), below_drewN HW.out 2⟩
      · have he := HR1.out
        rw [cb_ends _ _ (.inr (List.drop_of_length_le (by rw [HB.out]; omega))), List.length_drop, List.length_drop, HA.out, HB.out] at he
        go_wp2
        go_ret
        exact ⟨fin_less he (by omega), HW.out⟩
    · have he := HR1.out
      rw [cb_ends _ _ (.inl (List.drop_of_length_le (by rw [HA.out]; omega))), List.length_drop, List.length_drop, HA.out, HB.out] at he
      go_wp2
      go_ret
      exact ⟨fin_less he (by omega), HW.out⟩
end Go.Proofs.YtophihnjlodmjaaDoor.Pt

namespace Go.Proofs.YtophihnjlodmjaaDoor.Pt
open Go.RowKit Go.Shelf

theorem chn {w w1 w2 : World} (h : Below w.heap.size w w1) (k : Below w1.heap.size w1 w2) : Below w.heap.size w w2 := h.trans (k.mono h.size)

set_option maxHeartbeats 2000000 in
theorem rcmp_vn (a b : ByteArray) (ha : a.size ≤ 2000000) (hb : b.size ≤ 2000000) (v1 : validB a.data.toList = true) (v2 : validB b.data.toList = false) (w : World) :
    Calls Tryd.prog 38 #[.string a, .string b] w fun e w' => e = .returned (.int .i64 1) ∧ Below w.heap.size w w' := by
  have H1 := Lib.hid v1
  have H2 := Lib.hid v2
  clear v1 v2
  go_enter Tryd.func38, Tryd.ntmps38
  go_wp2_with fail
  refine (rnames_is a ha _ H1.out _).mono ?_
  rintro e w1 ⟨a1, n1, c1, rfl, hb1⟩
  go_wp2_with fail
  refine ((rnames_any b hb _).2 H2.out).mono ?_
  rintro e w2 ⟨rfl, hb2⟩
  have hb3 := chn hb1 hb2
  have HB3 := Lib.hid hb3
  clear hb1 hb2 hb3
  go_wp2
  go_ret
  exact ⟨rfl, (HB3.out.alloc HB3.out.size _).alloc (by have := HB3.out.size; simp; omega) _⟩

set_option maxHeartbeats 2000000 in
theorem rcmp_nv (a b : ByteArray) (ha : a.size ≤ 2000000) (hb : b.size ≤ 2000000) (v1 : validB a.data.toList = false) (v2 : validB b.data.toList = true) (w : World) :
    Calls Tryd.prog 38 #[.string a, .string b] w fun e w' => e = .returned (.int .i64 (-1)) ∧ Below w.heap.size w w' := by
  have H1 := Lib.hid v1
  have H2 := Lib.hid v2
  clear v1 v2
  go_enter Tryd.func38, Tryd.ntmps38
  go_wp2_with fail
  refine ((rnames_any a ha _).2 H1.out).mono ?_
  rintro e w1 ⟨rfl, hb1⟩
  go_wp2_with fail
  refine (rnames_is b hb _ H2.out _).mono ?_
  rintro e w2 ⟨a2, n2, c2, rfl, hb2⟩
  have hb3 := chn hb1 hb2
  have HB3 := Lib.hid hb3
  clear hb1 hb2 hb3
  go_wp2
  go_ret
  exact ⟨rfl, (HB3.out.alloc HB3.out.size _).alloc (by have := HB3.out.size; simp; omega) _⟩

theorem rless_at (x y : Str) (hx : x.length ≤ 2000000) (b : Bool) (hb : decide (Lib.compareBytes x y < 0) = b) (w : World) :
    Calls Tryd.prog 52 #[.string ⟨x.toArray⟩, .string ⟨y.toArray⟩] w fun e w' => e = .returned (.bool b) ∧ Below w.heap.size w w' := by
  rw [← hb]; exact rless_any ⟨x.toArray⟩ ⟨y.toArray⟩ hx w
theorem drop_get {l : List Str} {k : Nat} {x : Str} (h : l[k]? = some x) : l.drop k = x :: l.drop (k + 1) := by
  obtain ⟨hl, rfl⟩ := List.getElem?_eq_some_iff.1 h
  exact (List.getElem_cons_drop hl).symm

set_option maxRecDepth 100000 in
set_option maxHeartbeats 4000000 in
theorem rcmp_vv (a b : ByteArray) (ha : a.size ≤ 2000000) (hb : b.size ≤ 2000000) (v1 : validB a.data.toList = true) (v2 : validB b.data.toList = true) (R : Int) (hR : cmpN (namesL a.data.toList) (namesL b.data.toList) = R) (w : World) :
    Calls Tryd.prog 38 #[.string a, .string b] w fun e w' => e = .returned (.int .i64 R) ∧ Below w.heap.size w w' := by
  obtain ⟨L, hL⟩ : ∃ L, namesL a.data.toList = L := ⟨_, rfl⟩
  obtain ⟨M, hM⟩ : ∃ M, namesL b.data.toList = M := ⟨_, rfl⟩
  rw [hL, hM] at hR
  have HC1 : Hid (∀ W, Calls Tryd.prog 51 #[.string a] W (RYes L W)) := fun W => by rw [← hL]; exact (rnames_any a ha W).1 v1
  have HC2 : Hid (∀ W, Calls Tryd.prog 51 #[.string b] W (RYes M W)) := fun W => by rw [← hM]; exact (rnames_any b hb W).1 v2
  have HZ1 : Hid (∀ x ∈ L, x.length ≤ 2000000) := fun x hx => by
    rw [← hL] at hx
    have := (name_ne x ((valid_names _ v1).2 x hx)).2.2.2
    omega
  obtain ⟨n, hn⟩ : ∃ n, L.length = n := ⟨_, rfl⟩
  obtain ⟨m, hm⟩ : ∃ m, M.length = m := ⟨_, rfl⟩
  have hn40 : n ≤ 40 := by rw [← hn, ← hL]; exact (valid_names _ v1).1
  have hm40 : m ≤ 40 := by rw [← hm, ← hM]; exact (valid_names _ v2).1
  have HN := Lib.hid hn
  have HM := Lib.hid hm
  have HR : Hid (cmpN (L.drop 0) (M.drop 0) = R) := hR
  clear hn hm hL hM hR v1 v2
  go_enter Tryd.func38, Tryd.ntmps38
  go_wp2_with fail
  refine (HC1.out _).mono ?_
  rintro e w1 ⟨v1, rfl, hr1, hb1⟩
  obtain ⟨a1, c1, rfl, _⟩ := hr1.slice
  rw [HN.out] at hr1 ⊢
  go_wp2_with fail
  refine (HC2.out _).mono ?_
  rintro e w2 ⟨v2, rfl, hr2, hb2⟩
  obtain ⟨a2, c2, rfl, _⟩ := hr2.slice
  rw [HM.out] at hr2 ⊢
  have HB3 := Lib.hid (chn hb1 hb2)
  have HR1 := Lib.hid (hr1.below hb2)
  have HR2 := Lib.hid hr2
  clear hr1 hr2 hb1 hb2
  go_wp2
  go_loopw [9] (fun i wr => ∃ k : Nat, k ≤ n ∧ k ≤ m ∧ i = .int .i64 k ∧ Hid (RdS wr (.slice a1 n c1) L) ∧ Hid (RdS wr (.slice a2 m c2) M) ∧ Hid (cmpN (L.drop k) (M.drop k) = R) ∧ Hid (Below w.heap.size w wr)) (fun i _ => n - (intOf i).toNat)
  case atStart => exact ⟨0, Nat.zero_le _, Nat.zero_le _, rfl, HR1, HR2, HR, HB3⟩
  case round =>
    clear HB3 HR1 HR2 HR
    obtain ⟨k, hk1, hk2, rfl, HR1, HR2, HR, HB3⟩ := hrel
    by_cases h1 : k < n
    · by_cases h2 : k < m
      · obtain ⟨x, hx⟩ : ∃ x, L[k]? = some x := ⟨_, List.getElem?_eq_getElem (by have := HN.out; omega)⟩
        obtain ⟨y, hy⟩ : ∃ y, M[k]? = some y := ⟨_, List.getElem?_eq_getElem (by have := HM.out; omega)⟩
        obtain ⟨g1, o1, rfl, _, k1⟩ := HR1.out.cells (by have := HN.out; omega)
        obtain ⟨g2, o2, rfl, _, k2⟩ := HR2.out.cells (by have := HM.out; omega)
        have hc1 := k1 k x hx
        have hc2 := k2 k y hy
        have hxz := HZ1.out x (List.mem_of_getElem? hx)
        unfold encS at hc1 hc2
        have he := HR.out
        rw [drop_get hx, drop_get hy, cmpN] at he
        have HE := Lib.hid he
        clear hx hy k1 k2 he
        by_cases hq : x = y
        · have he := HE.out
          rw [if_pos hq] at he
          have HE2 := Lib.hid he
          have q1 : (x == y) = true := by simp [hq]
          have q2 : (x != y) = false := by simp [hq]
          clear hq he
          go_wp2
          go_region
          go_wp2
          go_roundw
          case rel => exact ⟨k + 1, h1, h2, by go_num, HR1.out.drewN 1, HR2.out.drewN 1, HE2, below_drewN HB3.out 1⟩
          case measure => simp [intOf]; omega
        · have he := HE.out
          rw [if_neg hq] at he
          have HE2 := Lib.hid he
          have q1 : (x == y) = false := by simp [hq]
          have q2 : (x != y) = true := by simp [hq]
          have HQ := Lib.hid hq
          clear hq he
          by_cases hl : Lib.compareBytes x y < 0
          · have HD := Lib.hid (decide_eq_true hl)
            have hr : (-1 : Int) = R := by have h := HE2.out; have := cb_range x y; omega
            have HL := Lib.hid hr
            clear hl hr
            go_wp2
            go_region
            go_wp2
            obtain ⟨wd, hwd⟩ : ∃ wd, wr.drew = wd := ⟨_, rfl⟩
            have hc3 : wd.cell? ⟨g1, o1 + k, none⟩ = some (.string ⟨x.toArray⟩) := by rw [← hwd]; exact hc1
            have hc4 : wd.cell? ⟨g2, o2 + k, none⟩ = some (.string ⟨y.toArray⟩) := by rw [← hwd]; exact hc2
            have HBd : Hid (Below w.heap.size w wd) := by rw [← hwd]; exact below_drewN HB3.out 1
            rw [hwd]
            clear hc1 hc2 hwd
            go_still_tail 8, (by kernel_rfl)
            go_wp2_with fail
            refine (rless_at x y hxz true HD.out _).mono ?_
            rintro e w3 ⟨rfl, hb⟩
            go_wp2
            go_ret
            exact ⟨ret_int HL.out, chn (below_drewN HBd.out 1) hb⟩
          · have HD := Lib.hid (decide_eq_false hl)
            have hr : (1 : Int) = R := by
              have h : Lib.compareBytes x y = R := HE2.out
              have h0 : ¬ Lib.compareBytes x y = 0 := fun k => HQ.out ((cb_zero x y).1 k)
              have hg := cb_range x y
              rw [← h]
              omega
            have HL := Lib.hid hr
            clear hl hr
            go_wp2
            go_region
            go_wp2
            obtain ⟨wd, hwd⟩ : ∃ wd, wr.drew = wd := ⟨_, rfl⟩
            have hc3 : wd.cell? ⟨g1, o1 + k, none⟩ = some (.string ⟨x.toArray⟩) := by rw [← hwd]; exact hc1
            have hc4 : wd.cell? ⟨g2, o2 + k, none⟩ = some (.string ⟨y.toArray⟩) := by rw [← hwd]; exact hc2
            have HBd : Hid (Below w.heap.size w wd) := by rw [← hwd]; exact below_drewN HB3.out 1
            rw [hwd]
            clear hc1 hc2 hwd
            go_still_tail 8, (by kernel_rfl)
            go_wp2_with fail
            refine (rless_at x y hxz false HD.out _).mono ?_
            rintro e w3 ⟨rfl, hb⟩
            go_wp2
            go_ret
            exact ⟨ret_int HL.out, chn (below_drewN HBd.out 1) hb⟩
      · have he := HR.out
        rw [List.drop_of_length_le (show M.length ≤ k by have := HM.out; omega), drop_get (List.getElem?_eq_getElem (show k < L.length by have := HN.out; omega)), cmpN] at he
        have HL := Lib.hid he
        have t1 : ¬ n < m := by omega
        have t2 : m < n := by omega
        clear he
        go_wp2
        go_ret
        exact ⟨ret_int HL.out, HB3.out⟩
    · have he := HR.out
      rw [List.drop_of_length_le (show L.length ≤ k by have := HN.out; omega)] at he
      by_cases h2 : k < m
      · rw [drop_get (List.getElem?_eq_getElem (show k < M.length by have := HM.out; omega)), cmpN] at he
        have HL := Lib.hid he
        have t1 : n < m := by omega
        clear he
        go_wp2
        go_ret
        exact ⟨ret_int HL.out, HB3.out⟩
      · rw [List.drop_of_length_le (show M.length ≤ k by have := HM.out; omega), cmpN] at he
        have HL := Lib.hid he
        have t1 : ¬ n < m := by omega
        have t2 : ¬ m < n := by omega
        clear he
        go_wp2
        go_ret
        exact ⟨ret_int HL.out, HB3.out⟩

theorem new_row (w : World) (a : ByteArray) : RdS (w.alloc (.cells #[.string a] 9)) (.slice (some ⟨w.heap.size, 0, none⟩) 1 1) [a.data.toList] := by
  refine ⟨_, 1, rfl, Nat.le_refl _, by unfold maxLen; omega, fun _ => ⟨w.heap.size, 0, rfl, by simp, fun j x hx => ?_⟩⟩
  have hj : j = 0 := by have := (List.getElem?_eq_some_iff.1 hx).1; simp at this; exact this
  subst hj
  simp at hx
  subst hx
  rw [Nat.add_zero]
  exact cell_one_new w (.string a) 9 0 _ rfl

set_option maxRecDepth 100000 in
set_option maxHeartbeats 4000000 in
theorem rcmp_nn (a b : ByteArray) (ha : a.size ≤ 2000000) (hb : b.size ≤ 2000000) (v1 : validB a.data.toList = false) (v2 : validB b.data.toList = false) (R : Int) (hR : cmpN [a.data.toList] [b.data.toList] = R) (w : World) :
    Calls Tryd.prog 38 #[.string a, .string b] w fun e w' => e = .returned (.int .i64 R) ∧ Below w.heap.size w w' := by
  obtain ⟨L, hL⟩ : ∃ L, [a.data.toList] = L := ⟨_, rfl⟩
  obtain ⟨M, hM⟩ : ∃ M, [b.data.toList] = M := ⟨_, rfl⟩
  rw [hL, hM] at hR
  have H1 := Lib.hid v1
  have H2 := Lib.hid v2
  have HLL := Lib.hid hL
  have HMM := Lib.hid hM
  have HZ1 : Hid (∀ x ∈ L, x.length ≤ 2000000) := fun x hx => by
    rw [← hL] at hx
    simp at hx
    subst hx
    exact ha
  obtain ⟨n, hn⟩ : ∃ n, L.length = n := ⟨_, rfl⟩
  obtain ⟨m, hm⟩ : ∃ m, M.length = m := ⟨_, rfl⟩
  have hn1 : n = 1 := by rw [← hn, ← hL]; rfl
  have hm1 : m = 1 := by rw [← hm, ← hM]; rfl
  have HN := Lib.hid hn
  have HM := Lib.hid hm
  have HR : Hid (cmpN (L.drop 0) (M.drop 0) = R) := hR
  clear hn hm hL hM hR v1 v2
  go_enter Tryd.func38, Tryd.ntmps38
  go_wp2_with fail
  refine ((rnames_any a ha _).2 H1.out).mono ?_
  rintro e w1 ⟨rfl, hb1⟩
  go_wp2_with fail
  refine ((rnames_any b hb _).2 H2.out).mono ?_
  rintro e w2 ⟨rfl, hb2⟩
  have HB2 := Lib.hid (chn hb1 hb2)
  clear hb1 hb2
  go_wp2
  have hr1 := new_row w2 a
  have hr2 := new_row (w2.alloc (.cells #[.string a] 9)) b
  have hb3 : Below w.heap.size w ((w2.alloc (.cells #[.string a] 9)).alloc (.cells #[.string b] 9)) := (HB2.out.alloc HB2.out.size _).alloc (by have := HB2.out.size; simp; omega) _
  have hr1 := hr1.below ((Below.refl _ _).alloc (Nat.le_refl _) (.cells #[.string b] 9))
  rw [HLL.out] at hr1
  rw [HMM.out] at hr2
  rw [show (w2.alloc (.cells #[.string a] 9)).heap.size = w2.heap.size + 1 by simp] at hr2
  have HB3 := Lib.hid hb3
  have HR1 := Lib.hid hr1
  have HR2 := Lib.hid hr2
  clear hr1 hr2 hb3
  obtain ⟨wz, hwz⟩ : ∃ wz, (w2.alloc (.cells #[.string a] 9)).alloc (.cells #[.string b] 9) = wz := ⟨_, rfl⟩
  rw [hwz] at HR1 HR2 HB3 ⊢
  obtain ⟨a1, ha1⟩ : ∃ a1 : Option Addr, some ⟨w2.heap.size, 0, none⟩ = a1 := ⟨_, rfl⟩
  obtain ⟨a2, ha2⟩ : ∃ a2 : Option Addr, some ⟨w2.heap.size + 1, 0, none⟩ = a2 := ⟨_, rfl⟩
  rw [ha1] at HR1 ⊢
  rw [ha2] at HR2 ⊢
  obtain ⟨c1, hc1⟩ : ∃ c1 : Nat, c1 = 1 := ⟨_, rfl⟩
  obtain ⟨c2, hc2⟩ : ∃ c2 : Nat, c2 = 1 := ⟨_, rfl⟩
  rw [show Value.slice a1 1 1 = Value.slice a1 n c1 from by rw [hn1, hc1]] at HR1 ⊢
  rw [show Value.slice a2 1 1 = Value.slice a2 m c2 from by rw [hm1, hc2]] at HR2 ⊢
  have hn40 : n ≤ 40 := by omega
  have hm40 : m ≤ 40 := by omega
  clear hwz ha1 ha2 hn1 hm1 hc1 hc2
  go_loopw [9] (fun i wr => ∃ k : Nat, k ≤ n ∧ k ≤ m ∧ i = .int .i64 k ∧ Hid (RdS wr (.slice a1 n c1) L) ∧ Hid (RdS wr (.slice a2 m c2) M) ∧ Hid (cmpN (L.drop k) (M.drop k) = R) ∧ Hid (Below w.heap.size w wr)) (fun i _ => n - (intOf i).toNat)
  case atStart => exact ⟨0, Nat.zero_le _, Nat.zero_le _, rfl, HR1, HR2, HR, HB3⟩
  case round =>
    clear HB3 HR1 HR2 HR
    obtain ⟨k, hk1, hk2, rfl, HR1, HR2, HR, HB3⟩ := hrel
    by_cases h1 : k < n
    · by_cases h2 : k < m
      · obtain ⟨x, hx⟩ : ∃ x, L[k]? = some x := ⟨_, List.getElem?_eq_getElem (by have := HN.out; omega)⟩
        obtain ⟨y, hy⟩ : ∃ y, M[k]? = some y := ⟨_, List.getElem?_eq_getElem (by have := HM.out; omega)⟩
        obtain ⟨g1, o1, rfl, _, k1⟩ := HR1.out.cells (by have := HN.out; omega)
        obtain ⟨g2, o2, rfl, _, k2⟩ := HR2.out.cells (by have := HM.out; omega)
        have hc1 := k1 k x hx
        have hc2 := k2 k y hy
        have hxz := HZ1.out x (List.mem_of_getElem? hx)
        unfold encS at hc1 hc2
        have he := HR.out
        rw [drop_get hx, drop_get hy, cmpN] at he
        have HE := Lib.hid he
        clear hx hy k1 k2 he
        by_cases hq : x = y
        · have he := HE.out
          rw [if_pos hq] at he
          have HE2 := Lib.hid he
          have q1 : (x == y) = true := by simp [hq]
          have q2 : (x != y) = false := by simp [hq]
          clear hq he
          go_wp2
          go_region
          go_wp2
          go_roundw
          case rel => exact ⟨k + 1, h1, h2, by go_num, HR1.out.drewN 1, HR2.out.drewN 1, HE2, below_drewN HB3.out 1⟩
          case measure => simp [intOf]; omega
        · have he := HE.out
          rw [if_neg hq] at he
          have HE2 := Lib.hid he
          have q1 : (x == y) = false := by simp [hq]
          have q2 : (x != y) = true := by simp [hq]
          have HQ := Lib.hid hq
          clear hq he
          by_cases hl : Lib.compareBytes x y < 0
          · have HD := Lib.hid (decide_eq_true hl)
            have hr : (-1 : Int) = R := by have h := HE2.out; have := cb_range x y; omega
            have HL := Lib.hid hr
            clear hl hr
            go_wp2
            go_region
            go_wp2
            obtain ⟨wd, hwd⟩ : ∃ wd, wr.drew = wd := ⟨_, rfl⟩
            have hc3 : wd.cell? ⟨g1, o1 + k, none⟩ = some (.string ⟨x.toArray⟩) := by rw [← hwd]; exact hc1
            have hc4 : wd.cell? ⟨g2, o2 + k, none⟩ = some (.string ⟨y.toArray⟩) := by rw [← hwd]; exact hc2
            have HBd : Hid (Below w.heap.size w wd) := by rw [← hwd]; exact below_drewN HB3.out 1
            rw [hwd]
            clear hc1 hc2 hwd
            go_still_tail 8, (by kernel_rfl)
            go_wp2_with fail
            refine (rless_at x y hxz true HD.out _).mono ?_
            rintro e w3 ⟨rfl, hb⟩
            go_wp2
            go_ret
            exact ⟨ret_int HL.out, chn (below_drewN HBd.out 1) hb⟩
          · have HD := Lib.hid (decide_eq_false hl)
            have hr : (1 : Int) = R := by
              have h : Lib.compareBytes x y = R := HE2.out
              have h0 : ¬ Lib.compareBytes x y = 0 := fun k => HQ.out ((cb_zero x y).1 k)
              have hg := cb_range x y
              rw [← h]
              omega
            have HL := Lib.hid hr
            clear hl hr
            go_wp2
            go_region
            go_wp2
            obtain ⟨wd, hwd⟩ : ∃ wd, wr.drew = wd := ⟨_, rfl⟩
            have hc3 : wd.cell? ⟨g1, o1 + k, none⟩ = some (.string ⟨x.toArray⟩) := by rw [← hwd]; exact hc1
            have hc4 : wd.cell? ⟨g2, o2 + k, none⟩ = some (.string ⟨y.toArray⟩) := by rw [← hwd]; exact hc2
            have HBd : Hid (Below w.heap.size w wd) := by rw [← hwd]; exact below_drewN HB3.out 1
            rw [hwd]
            clear hc1 hc2 hwd
            go_still_tail 8, (by kernel_rfl)
            go_wp2_with fail
            refine (rless_at x y hxz false HD.out _).mono ?_
            rintro e w3 ⟨rfl, hb⟩
            go_wp2
            go_ret
            exact ⟨ret_int HL.out, chn (below_drewN HBd.out 1) hb⟩
      · have he := HR.out
        rw [List.drop_of_length_le (show M.length ≤ k by have := HM.out; omega), drop_get (List.getElem?_eq_getElem (show k < L.length by have := HN.out; omega)), cmpN] at he
        have HL := Lib.hid he
        have t1 : ¬ n < m := by omega
        have t2 : m < n := by omega
        clear he
        go_wp2
        go_ret
        exact ⟨ret_int HL.out, HB3.out⟩
    · have he := HR.out
      rw [List.drop_of_length_le (show L.length ≤ k by have := HN.out; omega)] at he
      by_cases h2 : k < m
      · rw [drop_get (List.getElem?_eq_getElem (show k < M.length by have := HM.out; omega)), cmpN] at he
        have HL := Lib.hid he
        have t1 : n < m := by omega
        clear he
        go_wp2
        go_ret
        exact ⟨ret_int HL.out, HB3.out⟩
      · rw [List.drop_of_length_le (show M.length ≤ k by have := HM.out; omega), cmpN] at he
        have HL := Lib.hid he
        have t1 : ¬ n < m := by omega
        have t2 : ¬ m < n := by omega
        clear he
        go_wp2
        go_ret
        exact ⟨ret_int HL.out, HB3.out⟩

theorem rcmp_any (a b : ByteArray) (ha : a.size ≤ 2000000) (hb : b.size ≤ 2000000) (w : World) :
    Calls Tryd.prog 38 #[.string a, .string b] w fun e w' => e = .returned (.int .i64 (cmpL a.data.toList b.data.toList)) ∧ Below w.heap.size w w' := by
  by_cases v1 : validB a.data.toList = true
  · by_cases v2 : validB b.data.toList = true
    · rw [cmpL, if_pos v1, if_pos v2]; exact rcmp_vv a b ha hb v1 v2 _ rfl w
    · rw [cmpL, if_pos v1, if_neg v2]; exact rcmp_vn a b ha hb v1 (Bool.eq_false_iff.2 v2) w
  · by_cases v2 : validB b.data.toList = true
    · rw [cmpL, if_neg v1, if_pos v2]; exact rcmp_nv a b ha hb (Bool.eq_false_iff.2 v1) v2 w
    · rw [cmpL, if_neg v1, if_neg v2]
      refine rcmp_nn a b ha hb (Bool.eq_false_iff.2 v1) (Bool.eq_false_iff.2 v2) _ ?_ w
      rw [cmpN]
      by_cases e : a.data.toList = b.data.toList
      · rw [if_pos e, (cb_zero _ _).2 e]; rfl
      · rw [if_neg e]
end Go.Proofs.YtophihnjlodmjaaDoor.Pt
