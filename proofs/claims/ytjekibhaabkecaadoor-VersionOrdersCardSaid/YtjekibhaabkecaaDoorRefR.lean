/- Proved here: letters and Right of puncheonref04. -/
import Derived.Test.YtjekibhaabkecaaDoorCompare
namespace Go.Proofs.YtjekibhaabkecaaDoor
open Go.RowKit Go.Shelf

/-- One byte of a text. -/
theorem run_byte_at (s : ByteArray) (k : Nat) (hk : k < s.size) (c : UInt8) (hc : s.data.toList[k]? = some c) (W : World) : (Instr.index 9 (.string s) (.int .i64 (k : Int))).run Tryd.prog W = .ok (.int .u8 (c.toNat : Int)) W := by
  rw [run_index_string (h := Tryd.underlying9)]
  have h0 : (0 : Int) ≤ (k : Int) := by omega
  have hd : c = s[k]'hk := by
    have := List.getElem?_eq_getElem (show k < s.data.toList.length from hk)
    rw [this] at hc
    cases hc
    rfl
  subst hd
  simp [hk]
theorem all_no {l : Str} {k : Nat} {c : UInt8} (hc : l[k]? = some c) (h : lowB c = false) : l.all lowB = false := by
  rw [Bool.eq_false_iff]
  intro ha
  have := List.all_eq_true.1 ha c (List.mem_of_getElem? hc)
  rw [h] at this
  cases this
theorem all_yes {l : Str} (h : ∀ (j : Nat) (c : UInt8), j < l.length → l[j]? = some c → lowB c = true) : l.all lowB = true :=
  List.all_eq_true.2 fun c hc => by
    obtain ⟨i, hi⟩ := List.mem_iff_getElem?.1 hc
    exact h i c (List.getElem?_eq_some_iff.1 hi).1 hi

set_option maxRecDepth 100000 in
set_option maxHeartbeats 2000000 in
theorem rletters_any (s : ByteArray) (hs : s.size ≤ 6) (w : World) : Calls Tryd.prog 28 #[.string s] w fun e w' => e = .returned (.bool (s.data.toList.all lowB)) ∧ w = w' := by
  obtain ⟨r, hr⟩ : ∃ r, r = s.data.toList.all lowB := ⟨_, rfl⟩
  rw [← hr]
  have HR := Lib.hid hr
  clear hr
  have hsl : s.data.toList.length = s.size := rfl
  have HSL := Lib.hid hsl
  clear hsl
  go_enter Tryd.func28, Tryd.ntmps28
  go_wp2_with fail
  go_loop [3, 4, 5, 6, 7, 8, 9, 10, 11, 12, 13, 14, 15, 16, 17, 18, 19] (fun i _ _ _ _ _ _ _ _ _ _ _ _ _ _ _ _ => ∃ k : Nat, k ≤ s.size ∧ i = .int .i64 k ∧ Hid (∀ (j : Nat) (c : UInt8), j < k → s.data.toList[j]? = some c → lowB c = true)) (fun i _ _ _ _ _ _ _ _ _ _ _ _ _ _ _ _ => s.size - (Lib.intOf i).toNat)
  case atStart => exact ⟨0, Nat.zero_le _, rfl, Lib.hid (fun j _ hj => absurd hj (Nat.not_lt_zero _))⟩
  case round =>
    obtain ⟨k, hk, rfl, HK⟩ := hrel
    by_cases hlt : k < s.size
    · obtain ⟨c, hc⟩ : ∃ c, s.data.toList[k]? = some c := ⟨_, List.getElem?_eq_getElem (by rw [HSL.out]; exact hlt)⟩
      have hix := run_byte_at s k hlt c hc
      have hki : (k : Int) < (s.size : Int) := by omega
      have hk6 : k < 6 := by omega
      have HC := Lib.hid hc
      clear hc
      by_cases h1 : c.toNat < 97
      · have d1 : decide ((c.toNat : Int) < 97) = true := decide_eq_true (by omega)
        have HN := Lib.hid (HR.out.trans (all_no HC.out (decide_eq_false (by omega))))
        clear h1
        go_wp2_with fail
        go_ret
        exact ⟨ret_bool HN.out.symm, rfl⟩
      · have d1 : decide ((c.toNat : Int) < 97) = false := decide_eq_false (by omega)
        by_cases h2 : c.toNat ≤ 122
        · have d2 : decide ((c.toNat : Int) > 122) = false := decide_eq_false (by omega)
          have HL : Hid (lowB c = true) := Lib.hid (decide_eq_true (by omega))
          clear h1 h2
          go_wp2_with fail
          go_round
          case rel => exact ⟨k + 1, hlt, by go_num, Lib.hid (fun j x hj hx => by
            rcases Nat.lt_or_ge j k with h | h
            · exact HK.out j x h hx
            · obtain rfl : j = k := by omega
              have := HC.out.symm.trans hx
              cases this
              exact HL.out)⟩
          case measure => simp [Lib.intOf]; omega
        · have d2 : decide ((c.toNat : Int) > 122) = true := decide_eq_true (by omega)
          have HN := Lib.hid (HR.out.trans (all_no HC.out (decide_eq_false (by omega))))
          clear h1 h2
          go_wp2_with fail
          go_ret
          exact ⟨ret_bool HN.out.symm, rfl⟩
    · have hki : ¬ ((k : Int) < (s.size : Int)) := by omega
      have HN := Lib.hid (HR.out.trans (all_yes (l := s.data.toList) (fun j c hj hx => HK.out j c (by have := HSL.out; omega) hx)))
      go_wp2_with fail
      go_ret
      exact ⟨ret_bool HN.out.symm, rfl⟩

theorem endB_bad {v : Ver} (h : 6 < v.tag.data.toList.length ∨ v.tag.data.toList.all lowB = false ∨ v.step < 0 ∨ v.step > 999 ∨ (v.tag.data.toList = [] ∧ v.step ≠ 0)) : v.endB = false := by
  unfold Ver.endB tagB
  by_cases ht : v.tag.data.toList = []
  · rw [if_pos ht]
    rw [ht] at h
    have : v.step ≠ 0 := by
      rcases h with h | h | h | h | h
      · simp at h
      · simp at h
      · omega
      · omega
      · exact h.2
    exact decide_eq_false this
  · rw [if_neg ht]
    rcases h with h | h | h | h | h
    · rw [decide_eq_false (by omega)]
      rfl
    · rw [h]
      simp
    · have : decide (0 ≤ v.step ∧ v.step ≤ 999) = false := decide_eq_false (by omega)
      rw [this, Bool.and_false]
    · have : decide (0 ≤ v.step ∧ v.step ≤ 999) = false := decide_eq_false (by omega)
      rw [this, Bool.and_false]
    · exact absurd h.1 ht
theorem endB_good {v : Ver} (h1 : v.tag.data.toList.length ≤ 6) (h2 : v.tag.data.toList.all lowB = true) (h3 : ¬ v.step < 0) (h4 : ¬ v.step > 999) (h5 : v.tag.data.toList = [] → v.step = 0) : v.endB = true := by
  unfold Ver.endB tagB
  by_cases ht : v.tag.data.toList = []
  · rw [if_pos ht]
    exact decide_eq_true (h5 ht)
  · rw [if_neg ht, h2, decide_eq_true ⟨ht, h1⟩, decide_eq_true (by omega)]
    rfl
theorem ok_bad {v : Ver} (h : v.endB = false) : v.ok = false := by
  unfold Ver.ok
  rw [h, Bool.and_false]

set_option maxRecDepth 100000 in
set_option maxHeartbeats 4000000 in
theorem right_any (v : Ver) (w : World) : Calls Tryd.prog 12 #[.agg v.arr] w fun e w' => e = .returned (.bool v.ok) ∧ Below w.heap.size w w' := by
  have X : Box (w.alloc (.cells v.arr 26)) w.heap.size 26 v.arr := box_new
  obtain ⟨c0, c1, c2, c3, c4, c5, c6⟩ := X.ver
  have hB := Lib.hid (below_new w (.cells v.arr 26))
  clear X
  have hsl : v.tag.data.toList.length = v.tag.size := rfl
  by_cases hm1 : v.many < 1
  · have d1 : decide (v.many < 1) = true := decide_eq_true hm1
    have HN : Hid (v.ok = false) := Lib.hid (by unfold Ver.ok; rw [decide_eq_false (by omega)]; rfl)
    clear hm1 hsl
    go_enter Tryd.func12, Tryd.ntmps12
    go_wp2_with fail
    go_ret
    exact ⟨ret_bool HN.out.symm, hB.out⟩
  have d1 : decide (v.many < 1) = false := decide_eq_false hm1
  by_cases hm2 : v.many > 4
  · have d2 : decide (v.many > 4) = true := decide_eq_true hm2
    have HN : Hid (v.ok = false) := Lib.hid (by unfold Ver.ok; rw [decide_eq_false (by omega)]; rfl)
    clear hm1 hm2 hsl
    go_enter Tryd.func12, Tryd.ntmps12
    go_wp2_with fail
    go_ret
    exact ⟨ret_bool HN.out.symm, hB.out⟩
  have d2 : decide (v.many > 4) = false := decide_eq_false hm2
  by_cases hs6 : 6 < v.tag.size
  · have d3 : decide ((v.tag.size : Int) > 6) = true := decide_eq_true (by omega)
    have HN : Hid (v.ok = false) := Lib.hid (ok_bad (endB_bad (.inl hs6)))
    clear hm1 hm2 hs6 hsl
    go_enter Tryd.func12, Tryd.ntmps12
    go_wp2_with fail
    go_ret
    exact ⟨ret_bool HN.out.symm, hB.out⟩
  have d3 : decide ((v.tag.size : Int) > 6) = false := decide_eq_false (by omega)
  have HRL := Lib.hid (rletters_any v.tag (by omega))
  obtain ⟨r, hr⟩ : ∃ r, r = v.tag.data.toList.all lowB := ⟨_, rfl⟩
  rw [← hr] at HRL
  cases r with
  | false =>
    have HN : Hid (v.ok = false) := Lib.hid (ok_bad (endB_bad (.inr (.inl hr.symm))))
    clear hm1 hm2 hs6 hsl hr
    go_enter Tryd.func12, Tryd.ntmps12
    go_wp2_with fail
    refine (HRL.out _).mono ?_
    rintro e w1 ⟨rfl, rfl⟩
    go_wp2_with fail
    go_ret
    exact ⟨ret_bool HN.out.symm, hB.out⟩
  | true =>
  by_cases hs0 : v.step < 0
  · have d4 : decide (v.step < 0) = true := decide_eq_true hs0
    have HN : Hid (v.ok = false) := Lib.hid (ok_bad (endB_bad (.inr (.inr (.inl hs0)))))
    clear hm1 hm2 hs6 hsl hr hs0
    go_enter Tryd.func12, Tryd.ntmps12
    go_wp2_with fail
    refine (HRL.out _).mono ?_
    rintro e w1 ⟨rfl, rfl⟩
    go_wp2_with fail
    go_ret
    exact ⟨ret_bool HN.out.symm, hB.out⟩
  have d4 : decide (v.step < 0) = false := decide_eq_false hs0
  by_cases hs9 : v.step > 999
  · have d5 : decide (v.step > 999) = true := decide_eq_true hs9
    have HN : Hid (v.ok = false) := Lib.hid (ok_bad (endB_bad (.inr (.inr (.inr (.inl hs9))))))
    clear hm1 hm2 hs6 hsl hr hs0 hs9
    go_enter Tryd.func12, Tryd.ntmps12
    go_wp2_with fail
    refine (HRL.out _).mono ?_
    rintro e w1 ⟨rfl, rfl⟩
    go_wp2_with fail
    go_ret
    exact ⟨ret_bool HN.out.symm, hB.out⟩
  have d5 : decide (v.step > 999) = false := decide_eq_false hs9
  by_cases hbad : v.tag.toList = [] ∧ v.step ≠ 0
  · obtain ⟨ht, hz⟩ := hbad
    have hte := isEmpty_yes ht
    have d6 : (v.step != 0) = true := by simp [hz]
    have HN : Hid (v.ok = false) := Lib.hid (ok_bad (endB_bad (.inr (.inr (.inr (.inr ⟨by rw [← Lib.toList_data]; exact ht, hz⟩))))))
    clear hm1 hm2 hs6 hsl hr hs0 hs9 ht hz
    go_enter Tryd.func12, Tryd.ntmps12
    go_wp2_with fail
    refine (HRL.out _).mono ?_
    rintro e w1 ⟨rfl, rfl⟩
    go_wp2_with fail
    go_ret
    exact ⟨ret_bool HN.out.symm, hB.out⟩
  have HE : Hid (v.ok = v.numsB) := Lib.hid (by
    have he : v.endB = true := endB_good (by omega) hr.symm hs0 hs9 (fun h => by
      by_cases hz : v.step = 0
      · exact hz
      · exact absurd ⟨by rw [Lib.toList_data]; exact h, hz⟩ hbad)
    unfold Ver.ok
    rw [he, decide_eq_true ⟨by omega, by omega⟩, Bool.and_true, Bool.true_and])
  have hk4 : v.many ≤ 4 := by omega
  clear hs6 hsl hr hs0 hs9
  go_enter Tryd.func12, Tryd.ntmps12
  go_wp2_with fail
  refine (HRL.out _).mono ?_
  rintro e w1 ⟨rfl, rfl⟩
  by_cases ht : v.tag.toList = []
  · have hte := isEmpty_yes ht
    have d6 : (v.step != 0) = false := by
      by_cases hz : v.step = 0
      · simp [hz]
      · exact absurd ⟨ht, hz⟩ hbad
    clear hbad ht
    go_wp2_with fail
    go_loop [3, 4, 47, 48, 49, 50, 51, 52, 53, 54, 55, 56, 57, 58, 59, 60, 61, 62, 63, 64, 65, 66, 67] (fun _ _ i _ _ _ _ _ _ _ _ _ _ _ _ _ _ _ _ _ _ _ _ => ∃ k : Nat, k ≤ 4 ∧ i = .int .i64 k ∧ Hid (∀ j, j < k → numB v.many j (v.num j) = true)) (fun _ _ i _ _ _ _ _ _ _ _ _ _ _ _ _ _ _ _ _ _ _ _ => 4 - (Lib.intOf i).toNat)
    case atStart => exact ⟨0, Nat.zero_le _, rfl, Lib.hid (fun j hj => absurd hj (Nat.not_lt_zero _))⟩
    case round =>
      obtain ⟨k, hk, rfl, HK⟩ := hrel
      by_cases hlt : k < 4
      · have hix := run_index_arr (P := Tryd.prog) Tryd.underlying24 Tryd.isAgg3 Tryd.sizeOf3 hlt (num_get v k hlt)
        have k4 : (k : Int) < 4 := by omega
        by_cases hn : numB v.many k (v.num k) = true
        · have hn' : 0 ≤ v.num k ∧ v.num k ≤ 9999 ∧ ((k : Int) < v.many ∨ v.num k = 0) := of_decide_eq_true hn
          have HN := Lib.hid hn
          generalize v.num k = x at hix hn'
          obtain ⟨x1, x2, x3⟩ := hn'
          have e1 : decide (x < 0) = false := decide_eq_false (by omega)
          have e2 : decide (x > 9999) = false := decide_eq_false (by omega)
          clear hn
          by_cases hkm : (k : Int) < v.many
          · have e3 : decide ((k : Int) ≥ v.many) = false := decide_eq_false (by omega)
            clear x3
            go_wp2_with fail
            go_round
            case rel => exact ⟨k + 1, hlt, by go_num, Lib.hid (fun j hj => by
              rcases Nat.lt_or_ge j k with h | h
              · exact HK.out j h
              · obtain rfl : j = k := by omega
                exact HN.out)⟩
            case measure => simp [Lib.intOf]; omega
          · have e3 : decide ((k : Int) ≥ v.many) = true := decide_eq_true (by omega)
            have e4 : (x != 0) = false := by simp; omega
            clear x3
            go_wp2_with fail
            go_round
            case rel => exact ⟨k + 1, hlt, by go_num, Lib.hid (fun j hj => by
              rcases Nat.lt_or_ge j k with h | h
              · exact HK.out j h
              · obtain rfl : j = k := by omega
                exact HN.out)⟩
            case measure => simp [Lib.intOf]; omega
        · have hn' : ¬ (0 ≤ v.num k ∧ v.num k ≤ 9999 ∧ ((k : Int) < v.many ∨ v.num k = 0)) := fun h => hn (decide_eq_true h)
          have HN : Hid (v.ok = false) := Lib.hid (by rw [HE.out, nums_no v k hlt (Bool.eq_false_iff.2 hn)])
          generalize v.num k = x at hix hn'
          clear hn
          by_cases e1 : x < 0
          · have e1' : decide (x < 0) = true := decide_eq_true e1
            go_wp2_with fail
            go_ret
            exact ⟨ret_bool HN.out.symm, hB.out⟩
          · have e1' : decide (x < 0) = false := decide_eq_false e1
            by_cases e2 : x > 9999
            · have e2' : decide (x > 9999) = true := decide_eq_true e2
              go_wp2_with fail
              go_ret
              exact ⟨ret_bool HN.out.symm, hB.out⟩
            · have e2' : decide (x > 9999) = false := decide_eq_false e2
              have e3 : decide ((k : Int) ≥ v.many) = true := decide_eq_true (by omega)
              have e4 : (x != 0) = true := by simp; omega
              clear hn'
              go_wp2_with fail
              go_ret
              exact ⟨ret_bool HN.out.symm, hB.out⟩
      · obtain rfl : k = 4 := by omega
        have HO : Hid (v.ok = true) := Lib.hid (by rw [HE.out]; exact nums_yes v HK.out)
        go_wp2_with fail
        go_ret
        exact ⟨ret_bool HO.out.symm, hB.out⟩
  · have hte := isEmpty_no ht
    clear hbad ht
    go_wp2_with fail
    go_loop [3, 4, 47, 48, 49, 50, 51, 52, 53, 54, 55, 56, 57, 58, 59, 60, 61, 62, 63, 64, 65, 66, 67] (fun _ _ i _ _ _ _ _ _ _ _ _ _ _ _ _ _ _ _ _ _ _ _ => ∃ k : Nat, k ≤ 4 ∧ i = .int .i64 k ∧ Hid (∀ j, j < k → numB v.many j (v.num j) = true)) (fun _ _ i _ _ _ _ _ _ _ _ _ _ _ _ _ _ _ _ _ _ _ _ => 4 - (Lib.intOf i).toNat)
    case atStart => exact ⟨0, Nat.zero_le _, rfl, Lib.hid (fun j hj => absurd hj (Nat.not_lt_zero _))⟩
    case round =>
      obtain ⟨k, hk, rfl, HK⟩ := hrel
      by_cases hlt : k < 4
      · have hix := run_index_arr (P := Tryd.prog) Tryd.underlying24 Tryd.isAgg3 Tryd.sizeOf3 hlt (num_get v k hlt)
        have k4 : (k : Int) < 4 := by omega
        by_cases hn : numB v.many k (v.num k) = true
        · have hn' : 0 ≤ v.num k ∧ v.num k ≤ 9999 ∧ ((k : Int) < v.many ∨ v.num k = 0) := of_decide_eq_true hn
          have HN := Lib.hid hn
          generalize v.num k = x at hix hn'
          obtain ⟨x1, x2, x3⟩ := hn'
          have e1 : decide (x < 0) = false := decide_eq_false (by omega)
          have e2 : decide (x > 9999) = false := decide_eq_false (by omega)
          clear hn
          by_cases hkm : (k : Int) < v.many
          · have e3 : decide ((k : Int) ≥ v.many) = false := decide_eq_false (by omega)
            clear x3
            go_wp2_with fail
            go_round
            case rel => exact ⟨k + 1, hlt, by go_num, Lib.hid (fun j hj => by
              rcases Nat.lt_or_ge j k with h | h
              · exact HK.out j h
              · obtain rfl : j = k := by omega
                exact HN.out)⟩
            case measure => simp [Lib.intOf]; omega
          · have e3 : decide ((k : Int) ≥ v.many) = true := decide_eq_true (by omega)
            have e4 : (x != 0) = false := by simp; omega
            clear x3
            go_wp2_with fail
            go_round
            case rel => exact ⟨k + 1, hlt, by go_num, Lib.hid (fun j hj => by
              rcases Nat.lt_or_ge j k with h | h
              · exact HK.out j h
              · obtain rfl : j = k := by omega
                exact HN.out)⟩
            case measure => simp [Lib.intOf]; omega
        · have hn' : ¬ (0 ≤ v.num k ∧ v.num k ≤ 9999 ∧ ((k : Int) < v.many ∨ v.num k = 0)) := fun h => hn (decide_eq_true h)
          have HN : Hid (v.ok = false) := Lib.hid (by rw [HE.out, nums_no v k hlt (Bool.eq_false_iff.2 hn)])
          generalize v.num k = x at hix hn'
          clear hn
          by_cases e1 : x < 0
          · have e1' : decide (x < 0) = true := decide_eq_true e1
            go_wp2_with fail
            go_ret
            exact ⟨ret_bool HN.out.symm, hB.out⟩
          · have e1' : decide (x < 0) = false := decide_eq_false e1
            by_cases e2 : x > 9999
            · have e2' : decide (x > 9999) = true := decide_eq_true e2
              go_wp2_with fail
              go_ret
              exact ⟨ret_bool HN.out.symm, hB.out⟩
            · have e2' : decide (x > 9999) = false := decide_eq_false e2
              have e3 : decide ((k : Int) ≥ v.many) = true := decide_eq_true (by omega)
              have e4 : (x != 0) = true := by simp; omega
              clear hn'
              go_wp2_with fail
              go_ret
              exact ⟨ret_bool HN.out.symm, hB.out⟩
      · obtain rfl : k = 4 := by omega
        have HO : Hid (v.ok = true) := Lib.hid (by rw [HE.out]; exact nums_yes v HK.out)
        go_wp2_with fail
        go_ret
        exact ⟨ret_bool HO.out.symm, hB.out⟩
end Go.Proofs.YtjekibhaabkecaaDoor
