/- Proved here: Begins of puncheonref04. -/
import Derived.Test.YtjekibhaabkecaaDoorRefR
import Derived.Test.YtjekibhaabkecaaDoorAhead
namespace Go.Proofs.YtjekibhaabkecaaDoor
open Go.RowKit Go.Shelf

theorem Two.drewN {a b : Ver} {ga gb : Nat} {w w' : World} (h : Two a b ga gb w w') (n : Nat) : Two a b ga gb w (w'.drewN n) := ⟨h.l.drewN n, h.r.drewN n, below_drewN h.low n⟩
def Rights (v : Ver) (o : Bool) : Prop := ∀ W, Calls Tryd.prog 12 #[.agg v.arr] W fun e w' => e = .returned (.bool o) ∧ Below W.heap.size W w'
theorem rights_of {v : Ver} {o : Bool} (h : o = v.ok) : Rights v o := fun W => by
  subst h
  exact right_any v W
theorem ok_step {p : Ver} (h : p.ok = true) (ht : p.tag.data.toList = []) : p.step = 0 := by
  unfold Ver.ok Ver.endB at h
  rw [if_pos ht] at h
  simp only [Bool.and_eq_true, decide_eq_true_eq] at h
  exact h.2
theorem begins_yes {v p : Ver} (hv : v.ok = true) (hp : p.ok = true) (ht : p.tag.data.toList = []) (hm : ¬ v.many < p.many) (h : ∀ j, j < p.many.toNat → v.num j = p.num j) : v.begins p = true := by
  obtain ⟨h1, h4⟩ := ok_many hp
  unfold Ver.begins
  rw [if_pos ⟨hv, hp, hm⟩]
  refine decide_eq_true (ver_nums (fun j hj => ?_) (by show ((p.many.toNat : Nat) : Int) = p.many; omega) (ba_empty _ ht).symm (ok_step hp ht).symm)
  by_cases hjm : j < p.many.toNat
  · rw [num_first v _ j hjm (by omega)]
    exact h j hjm
  · rw [num_first_out v _ j (by omega) hj, ok_cut hp hj (by omega)]
theorem begins_no {v p : Ver} (h : v.ok = false ∨ p.ok = false ∨ p.tag.data.toList ≠ [] ∨ v.many < p.many ∨ ∃ j, j < p.many.toNat ∧ v.num j ≠ p.num j) : v.begins p = false := by
  unfold Ver.begins
  split
  · rename_i hc
    obtain ⟨hv, hp, hm⟩ := hc
    refine decide_eq_false fun e => ?_
    have h4 := (ok_many hp).2
    rcases h with h | h | h | h | ⟨j, hj, h⟩
    · rw [hv] at h
      cases h
    · rw [hp] at h
      cases h
    · refine h ?_
      rw [← e]
      rfl
    · exact hm h
    · refine h ?_
      rw [← num_first v _ j hj (by omega), e]
  · rfl

set_option maxRecDepth 100000 in
set_option maxHeartbeats 400000 in
theorem rbegins_any (v p : Ver) (w : World) : Calls Tryd.prog 21 #[.agg v.arr, .agg p.arr] w fun e w' => e = .returned (.bool (v.begins p)) ∧ Below w.heap.size w w' := by
  have X1 : Box ((w.alloc (.cells v.arr 26)).alloc (.cells p.arr 26)) w.heap.size 26 v.arr := box_new.alloc _
  have X2 : Box ((w.alloc (.cells v.arr 26)).alloc (.cells p.arr 26)) (w.heap.size + 1) 26 p.arr := heap_alloc2_new w _ _
  have k0 : Two v p w.heap.size (w.heap.size + 1) w ((w.alloc (.cells v.arr 26)).alloc (.cells p.arr 26)) := ⟨X1.ver, X2.ver, ((Below.refl w.heap.size w).alloc (Nat.le_refl _) (.cells v.arr 26)).alloc (by simp) (.cells p.arr 26)⟩
  obtain ⟨p0, p1, p2, p3, p4, p5, p6⟩ := k0.l
  have HK := Lib.hid k0
  clear k0 X1 X2
  obtain ⟨r, hr⟩ : ∃ r, r = v.begins p := ⟨_, rfl⟩
  obtain ⟨o, ho⟩ : ∃ o, o = v.ok := ⟨_, rfl⟩
  obtain ⟨oa, hoa⟩ : ∃ o, o = p.ok := ⟨_, rfl⟩
  have HA := Lib.hid (rights_of ho)
  have HB := Lib.hid (rights_of hoa)
  rw [← hr]
  cases o with
  | false =>
    have HR : Hid (r = false) := Lib.hid (hr.trans (begins_no (.inl ho.symm)))
    clear ho hoa hr
    go_enter Tryd.func21, Tryd.ntmps21
    go_wp2_with fail
    refine (HA.out _).mono ?_
    rintro e w1 ⟨rfl, hb⟩
    have H1 := Lib.hid (HK.out.on hb)
    clear hb
    go_wp2_with fail
    go_ret
    exact ⟨ret_bool HR.out.symm, H1.out.low⟩
  | true =>
  cases oa with
  | false =>
    have HR : Hid (r = false) := Lib.hid (hr.trans (begins_no (.inr (.inl hoa.symm))))
    clear ho hoa hr
    go_enter Tryd.func21, Tryd.ntmps21
    go_wp2_with fail
    refine (HA.out _).mono ?_
    rintro e w1 ⟨rfl, hb⟩
    have H1 := Lib.hid (HK.out.on hb)
    clear hb p0 p1 p2 p3 p4 p5 p6
    obtain ⟨q0, q1, q2, q3, q4, q5, q6⟩ := H1.out.r
    go_wp2_with fail
    refine (HB.out _).mono ?_
    rintro e w2 ⟨rfl, hb⟩
    have H2 := Lib.hid (H1.out.on hb)
    clear hb q0 q1 q2 q3 q4 q5 q6
    go_wp2_with fail
    go_ret
    exact ⟨ret_bool HR.out.symm, H2.out.low⟩
  | true =>
    have hmm := ok_many hoa.symm
    obtain ⟨m, hm⟩ : ∃ m : Nat, p.many = (m : Int) := ⟨p.many.toNat, by omega⟩
    have hmt : p.many.toNat = m := by omega
    have hm1 : 1 ≤ m := by omega
    have hm4 : m ≤ 4 := by omega
    have HNO : Hid (∀ j, j < m → v.num j ≠ p.num j → r = false) := Lib.hid (fun j hj hne => hr.trans (begins_no (.inr (.inr (.inr (.inr ⟨j, by omega, hne⟩))))))
    have HALL := Lib.hid (And.intro hr (And.intro ho (And.intro hoa (And.intro hm (And.intro hmt (And.intro hm1 hm4))))))
    clear hr ho hoa hmm hm hmt hm1 hm4
    go_enter Tryd.func21, Tryd.ntmps21
    go_wp2_with fail
    refine (HA.out _).mono ?_
    rintro e w1 ⟨rfl, hb⟩
    have H1 := Lib.hid (HK.out.on hb)
    clear hb p0 p1 p2 p3 p4 p5 p6
    obtain ⟨q0, q1, q2, q3, q4, q5, q6⟩ := H1.out.r
    go_wp2_with fail
    refine (HB.out _).mono ?_
    rintro e w2 ⟨rfl, hb⟩
    have H2 := Lib.hid (H1.out.on hb)
    clear hb q0 q1 q2 q3 q4 q5 q6
    obtain ⟨hr, ho, hoa, hm, hmt, hm1, hm4⟩ := HALL.out
    clear HALL
    obtain ⟨p0, p1, p2, p3, p4, p5, p6⟩ := H2.out.l
    obtain ⟨q0, q1, q2, q3, q4, q5, q6⟩ := H2.out.r
    rw [hm] at q4
    by_cases ht : p.tag.toList = []
    · have hte := isEmpty_yes ht
      have htd : p.tag.data.toList = [] := by rw [← Lib.toList_data]; exact ht
      by_cases hlt : v.many < p.many
      · have HR : Hid (r = false) := Lib.hid (hr.trans (begins_no (.inr (.inr (.inr (.inl hlt))))))
        rw [hm] at hlt
        have d1 : decide ((m : Int) > v.many) = true := decide_eq_true (by omega)
        clear ho hoa hr hm hmt hlt ht htd HNO
        go_wp2_with fail
        go_ret
        exact ⟨ret_bool HR.out.symm, H2.out.low⟩
      · have HYES : Hid ((∀ j, j < m → v.num j = p.num j) → r = true) := Lib.hid (fun h => hr.trans (begins_yes ho.symm hoa.symm htd hlt (by rw [hmt]; exact h)))
        rw [hm] at hlt
        have d1 : decide ((m : Int) > v.many) = false := decide_eq_false (by omega)
        clear ho hoa hr hm hmt hlt ht htd
        go_wp2_with fail
        clear p0 p1 p2 p3 p4 p5 p6 q0 q1 q2 q3 q4 q5 q6 hte d1
        go_loopw [5, 28, 29, 30, 31, 32, 33, 34, 35, 36, 37, 38, 39, 40] (fun _ i _ _ _ _ _ _ _ _ _ _ _ _ w' => ∃ k : Nat, k ≤ m ∧ i = .int .i64 k ∧ Hid (∀ j, j < k → v.num j = p.num j) ∧ Hid (Two v p w.heap.size (w.heap.size + 1) w w')) (fun _ i _ _ _ _ _ _ _ _ _ _ _ _ _ => m - (Lib.intOf i).toNat)
        case atStart => exact ⟨0, Nat.zero_le _, rfl, Lib.hid (fun j hj => absurd hj (Nat.not_lt_zero _)), H2⟩
        case round =>
          obtain ⟨k, hk, rfl, HE, HT⟩ := hrel
          by_cases hlt : k < m
          · have k1 : (k : Int) < (m : Int) := by omega
            have k2 : k < 4 := by omega
            have k3 : (k : Int) < 4 := by omega
            have k5 : (0 : Int) ≤ (k : Int) := by omega
            have cv := HT.out.l.num k2
            have cp := HT.out.r.num k2
            have HNX : Hid (v.num k ≠ p.num k → r = false) := Lib.hid (HNO.out k hlt)
            have HEX : Hid (v.num k = p.num k → ∀ j, j < k + 1 → v.num j = p.num j) := Lib.hid (fun he j hj => by
              rcases Nat.lt_or_ge j k with h | h
              · exact HE.out j h
              · obtain rfl : j = k := by omega
                exact he)
            generalize v.num k = x at cv HNX HEX
            generalize p.num k = y at cp HNX HEX
            by_cases hxy : x = y
            · have e1 : (x != y) = false := by simp [hxy]
              have HEY := Lib.hid (HEX.out hxy)
              clear hxy
              go_wp2_with fail
              go_region
              go_wp2_with fail
              go_roundw
              case rel => exact ⟨k + 1, hlt, by go_num, HEY, Lib.hid HT.out.drew⟩
              case measure => simp [Lib.intOf]; omega
            · have e1 : (x != y) = true := by simp [hxy]
              have HR := Lib.hid (HNX.out hxy)
              clear hxy
              go_wp2_with fail
              go_region
              go_wp2_with fail
              go_ret
              exact ⟨ret_bool HR.out.symm, HT.out.drew.low⟩
          · have k1 : ¬ ((k : Int) < (m : Int)) := by omega
            have HR : Hid (r = true) := Lib.hid (HYES.out (fun j hj => HE.out j (by omega)))
            go_wp2_with fail
            go_ret
            exact ⟨ret_bool HR.out.symm, HT.out.low⟩
    · have hte := isEmpty_no ht
      have HR : Hid (r = false) := Lib.hid (hr.trans (begins_no (.inr (.inr (.inl (by rw [← Lib.toList_data]; exact ht))))))
      clear ho hoa hr hm hmt ht HNO
      go_wp2_with fail
      go_ret
      exact ⟨ret_bool HR.out.symm, H2.out.low⟩
end Go.Proofs.YtjekibhaabkecaaDoor
