/- Proved here: Beneath of puncheonref01 for every two texts of at most a million bytes. -/
import Derived.Test.YtjnmlhmlcbbafaaRefD
import Derived.Test.YtjnmlhmlcbbafaaOrder
import Derived.Laws.AppendOwnNone
namespace Go.Proofs.Ytjnmlhmlcbbafaa
open Go.RowKit Go.Shelf

theorem RdS.cells {w : World} {a : Option Addr} {n cap : Nat} {l : List Str} (h : RdS w (.slice a n cap) l) (h0 : 0 < l.length) : ∃ g o, a = some ⟨g, o, none⟩ ∧ g < w.heap.size ∧ ∀ j x, l[j]? = some x → w.cell? ⟨g, o + j, none⟩ = some (encS x) := by
  obtain ⟨_, _, E, _, _, k⟩ := h
  injection E with E _ _
  rw [E]
  exact k h0

theorem RdS.caps {w : World} {a : Option Addr} {n cap : Nat} {l : List Str} (h : RdS w (.slice a n cap) l) : l.length = n ∧ n ≤ cap ∧ cap ≤ maxLen := by
  obtain ⟨_, _, E, h2, h3, _⟩ := h
  injection E with _ E2 E3
  subst E3
  exact ⟨E2.symm, by omega, h3⟩

set_option maxHeartbeats 1000000 in
theorem rnames_root0 (w : World) : Calls Try.prog 12 #[.string ⟨#[47]⟩] w fun e w' => e = .returned (.tuple #[.slice none 0 0, .bool true]) ∧ w = w' := by
  have f1 : ((⟨#[47]⟩ : ByteArray).toList == [47]) = true := by rw [Lib.toList_data]; rfl
  go_enter Try.func12, Try.ntmps12
  go_wp2
  go_ret2
  exact ⟨rfl, rfl⟩

theorem rnames_is (p : ByteArray) (hp : p.size ≤ 1000000) (b : Bool) (hb : validB p.data.toList = b) (w : World) :
    Calls Try.prog 12 #[.string p] w fun e w' => ∃ a n c, e = .returned (.tuple #[.slice a n c, .bool b]) ∧ Below w.heap.size w w' := by
  cases b
  · exact ((rnames_any p hp w).2 hb).mono fun _ _ ⟨he, hb⟩ => ⟨_, _, _, he, hb⟩
  · refine ((rnames_any p hp w).1 hb).mono ?_
    rintro e w' ⟨v, he, ⟨a, c, hv, _⟩, hb⟩
    subst hv
    exact ⟨_, _, _, he, hb⟩

set_option maxHeartbeats 1000000 in
theorem rben_bad1 (p d : ByteArray) (hp : p.size ≤ 1000000) (hd : d.size ≤ 1000000) (hv : validB p.data.toList = false) (w : World) : Calls Try.prog 28 #[.string p, .string d] w (RNo w) := by
  have HV := Lib.hid hv
  have HD := Lib.hid (rnames_is d hd _ rfl)
  obtain ⟨b, hb⟩ : ∃ b, validB d.data.toList = b := ⟨_, rfl⟩
  rw [hb] at HD
  clear hv hb
  go_enter Try.func28, Try.ntmps28
  go_wp2_with fail
  refine ((rnames_any p hp _).2 HV.out).mono ?_
  rintro e w1 ⟨rfl, hb1⟩
  go_wp2_with fail
  refine (HD.out _).mono ?_
  rintro e w2 ⟨a2, n2, c2, rfl, hb2⟩
  have hb3 := chn hb1 hb2
  go_wp2
  go_ret2
  exact ⟨rfl, hb3⟩

set_option maxHeartbeats 1000000 in
theorem rben_bad2 (p d : ByteArray) (hp : p.size ≤ 1000000) (hd : d.size ≤ 1000000) (hv : validB p.data.toList = true) (hv2 : validB d.data.toList = false) (w : World) : Calls Try.prog 28 #[.string p, .string d] w (RNo w) := by
  have HV := Lib.hid hv
  have HD := Lib.hid hv2
  clear hv hv2
  go_enter Try.func28, Try.ntmps28
  go_wp2_with fail
  refine (rnames_is p hp _ HV.out _).mono ?_
  rintro e w1 ⟨a2, n2, c2, rfl, hb1⟩
  go_wp2_with fail
  refine ((rnames_any d hd _).2 HD.out).mono ?_
  rintro e w2 ⟨rfl, hb2⟩
  have hb3 := chn hb1 hb2
  go_wp2
  go_ret2
  exact ⟨rfl, hb3⟩

set_option maxHeartbeats 1000000 in
theorem rben_long (p d : ByteArray) (hp : p.size ≤ 1000000) (hd : d.size ≤ 1000000) (hv : validB p.data.toList = true) (hv2 : validB d.data.toList = true) (hl : (namesL p.data.toList).length < (namesL d.data.toList).length) (w : World) : Calls Try.prog 28 #[.string p, .string d] w (RNo w) := by
  have HV := Lib.hid hv
  have HD := Lib.hid hv2
  obtain ⟨n, hn⟩ : ∃ n, (namesL p.data.toList).length = n := ⟨_, rfl⟩
  obtain ⟨m, hm⟩ : ∃ m, (namesL d.data.toList).length = m := ⟨_, rfl⟩
  rw [hn, hm] at hl
  have HN := Lib.hid hn
  have HM := Lib.hid hm
  have e1 : decide ((n : Int) < (m : Int)) = true := decide_eq_true (by omega)
  clear hv hv2 hn hm
  go_enter Try.func28, Try.ntmps28
  go_wp2_with fail
  refine ((rnames_any p hp _).1 HV.out).mono ?_
  rintro e w1 ⟨v1, rfl, hr1, hb1⟩
  obtain ⟨a1, c1, rfl, _⟩ := hr1
  rw [HN.out]
  go_wp2_with fail
  refine ((rnames_any d hd _).1 HD.out).mono ?_
  rintro e w2 ⟨v2, rfl, hr2, hb2⟩
  obtain ⟨a2, c2, rfl, _⟩ := hr2
  rw [HM.out]
  have hb3 := chn hb1 hb2
  go_wp2
  go_ret2
  exact ⟨rfl, hb3⟩

set_option maxHeartbeats 1000000 in
theorem rben_miss (p d : ByteArray) (hp : p.size ≤ 1000000) (hd : d.size ≤ 1000000) (hv : validB p.data.toList = true) (hv2 : validB d.data.toList = true) (hl : (namesL d.data.toList).length ≤ (namesL p.data.toList).length)
    (j : Nat) (x y : Str) (hx : (namesL p.data.toList)[j]? = some x) (hy : (namesL d.data.toList)[j]? = some y) (hne : y ≠ x) (w : World) : Calls Try.prog 28 #[.string p, .string d] w (RNo w) := by
  have HV := Lib.hid hv
  have HD := Lib.hid hv2
  have HX := Lib.hid hx
  have HY := Lib.hid hy
  have HNE := Lib.hid hne
  obtain ⟨n, hn⟩ : ∃ n, (namesL p.data.toList).length = n := ⟨_, rfl⟩
  obtain ⟨m, hm⟩ : ∃ m, (namesL d.data.toList).length = m := ⟨_, rfl⟩
  rw [hn, hm] at hl
  have hjm : j < m := by rw [← hm]; exact (List.getElem?_eq_some_iff.1 hy).1
  have hm40 : m ≤ 40 := by rw [← hm]; exact (valid_names _ hv2).1
  have HN := Lib.hid hn
  have HM := Lib.hid hm
  have e1 : decide ((n : Int) < (m : Int)) = false := decide_eq_false (by omega)
  clear hv hv2 hn hm hx hy hne
  go_enter Try.func28, Try.ntmps28
  go_wp2_with fail
  refine ((rnames_any p hp _).1 HV.out).mono ?_
  rintro e w1 ⟨v1, rfl, hr1, hb1⟩
  obtain ⟨a1, c1, rfl, _⟩ := hr1.slice
  rw [HN.out] at hr1 ⊢
  go_wp2_with fail
  refine ((rnames_any d hd _).1 HD.out).mono ?_
  rintro e w2 ⟨v2, rfl, hr2, hb2⟩
  obtain ⟨a2, c2, rfl, _⟩ := hr2.slice
  rw [HM.out] at hr2 ⊢
  have hb3 := chn hb1 hb2
  have hr1 := hr1.below hb2
  go_wp2
  have HB3 := Lib.hid hb3
  have HR1 := Lib.hid hr1
  have HR2 := Lib.hid hr2
  clear hb3 hr1 hr2
  go_loopw [37] (fun i wr => ∃ k : Nat, k ≤ j ∧ i = .int .i64 k ∧ Hid (RdS wr (.slice a1 n c1) (namesL p.data.toList)) ∧ Hid (RdS wr (.slice a2 m c2) (namesL d.data.toList)) ∧ Hid (Below w.heap.size w wr)) (fun i _ => m - (intOf i).toNat)
  case atStart => exact ⟨0, Nat.zero_le _, rfl, HR1, HR2, HB3⟩
  case round =>
    clear HB3 HR1 HR2
    obtain ⟨k, hk, rfl, HR1, HR2, HB3⟩ := hrel
    have hkm : k < m := by omega
    have hkn : k < n := by omega
    obtain ⟨x', hx'⟩ : ∃ x', (namesL p.data.toList)[k]? = some x' := ⟨_, List.getElem?_eq_getElem (by have := HN.out; omega)⟩
    obtain ⟨y', hy'⟩ : ∃ y', (namesL d.data.toList)[k]? = some y' := ⟨_, List.getElem?_eq_getElem (by have := HM.out; omega)⟩
    obtain ⟨g1, o1, rfl, _, k1⟩ := HR1.out.cells (by have := HN.out; omega)
    obtain ⟨g2, o2, rfl, _, k2⟩ := HR2.out.cells (by have := HM.out; omega)
    have hc1 := k1 k x' hx'
    have hc2 := k2 k y' hy'
    unfold encS at hc1 hc2
    have HX' := Lib.hid hx'
    have HY' := Lib.hid hy'
    clear hx' hy' k1 k2
    by_cases hq : y' = x'
    · have hkj : k ≠ j := fun e => by
        subst e
        have h1 := HX'.out
        have h2 := HY'.out
        rw [HX.out] at h1
        rw [HY.out] at h2
        cases h1; cases h2
        exact HNE.out hq
      have q1 : (y' == x') = true := by simp [hq]
      have q2 : (y' != x') = false := by simp [hq]
      clear hq
      go_wp2
      go_region
      go_wp2
      go_roundw
      case rel => exact ⟨k + 1, by omega, by go_num, HR1.out.drewN 1, HR2.out.drewN 1, below_drewN HB3.out 1⟩
      case measure => simp [intOf]; omega
    · have q1 : (y' == x') = false := by simp [hq]
      have q2 : (y' != x') = true := by simp [hq]
      clear hq
      go_wp2
      go_region
      go_wp2
      go_ret2
      exact ⟨rfl, below_drewN HB3.out 1⟩

/-- The names of the directory are the first ones: what is left. -/
theorem rben_pre (l d : List Str) (h : d <+: l) (k : Nat) (x y : Str) (hx : l[k]? = some x) (hy : d[k]? = some y) : y = x := by
  obtain ⟨r, rfl⟩ := h
  have hk := (List.getElem?_eq_some_iff.1 hy).1
  rw [List.getElem?_append_left hk, hy] at hx
  cases hx; rfl

theorem RdS.drop {w : World} {g o n cap : Nat} {l : List Str} (h : RdS w (.slice (some ⟨g, o, none⟩) n cap) l) (k : Nat) (j : Nat) (x : Str) (hx : (l.drop k)[j]? = some x) : w.cell? ⟨g, o + k + j, none⟩ = some (encS x) := by
  rw [List.getElem?_drop] at hx
  have := rd_cell h (k + j) x hx
  rwa [← Nat.add_assoc] at this

theorem add_off (g o j : Nat) : (⟨g, o, none⟩ : Addr).add j = ⟨g, o + j, none⟩ := by
  unfold Addr.add
  by_cases hj0 : j = 0
  · simp [hj0]
  · simp [hj0]
theorem fin_own {w : World} {B n : Nat} {v : Value} {T : List Value} {l : List Str} (h : w.ownsRow B 9 1 v (0 + n) ([] ++ T)) (hT : T = l.map encS) : RdS w v l := by
  subst hT
  have hl : l.length = 0 + n := by have := h.1; simpa using this
  rw [← hl] at h
  exact RdS.of_own h

set_option maxRecDepth 100000 in
set_option maxHeartbeats 2000000 in
theorem rben_yes (p d : ByteArray) (hp : p.size ≤ 1000000) (hd : d.size ≤ 1000000) (hr : p.data.toList ≠ [47]) (hv : validB p.data.toList = true) (hv2 : validB d.data.toList = true) (hu : namesL d.data.toList <+: namesL p.data.toList) (w : World) :
    Calls Try.prog 28 #[.string p, .string d] w (RYes ((namesL p.data.toList).drop (namesL d.data.toList).length) w) := by
  have HV := Lib.hid hv
  have HD := Lib.hid hv2
  have HU := Lib.hid hu
  obtain ⟨n, hn⟩ : ∃ n, (namesL p.data.toList).length = n := ⟨_, rfl⟩
  obtain ⟨m, hm⟩ : ∃ m, (namesL d.data.toList).length = m := ⟨_, rfl⟩
  have hl : m ≤ n := by rw [← hn, ← hm]; exact hu.length_le
  have hm40 : m ≤ 40 := by rw [← hm]; exact (valid_names _ hv2).1
  have hn40 : n ≤ 40 := by rw [← hn]; exact (valid_names _ hv).1
  have hn0 : 0 < n := by
    rw [← hn]
    exact List.length_pos_iff.2 (fun e => hr ((names_root _ hv).1 e))
  rw [hm]
  have HN := Lib.hid hn
  have HM := Lib.hid hm
  have e1 : decide ((n : Int) < (m : Int)) = false := decide_eq_false (by omega)
  obtain ⟨i0, hi, hz0, hz1, hz2⟩ := info_parts info9
  clear hv hv2 hn hm hu hr
  go_enter Try.func28, Try.ntmps28
  go_wp2_with fail
  refine ((rnames_any p hp _).1 HV.out).mono ?_
  rintro e w1 ⟨v1, rfl, hr1, hb1⟩
  obtain ⟨a1, c1, rfl, _⟩ := hr1.slice
  rw [HN.out] at hr1 ⊢
  go_wp2_with fail
  refine ((rnames_any d hd _).1 HD.out).mono ?_
  rintro e w2 ⟨v2, rfl, hr2, hb2⟩
  obtain ⟨a2, c2, rfl, _⟩ := hr2.slice
  rw [HM.out] at hr2 ⊢
  have hb3 := chn hb1 hb2
  have hr1 := hr1.below hb2
  obtain ⟨_, hcn, hcm⟩ := hr1.caps
  obtain ⟨g1, o1, rfl, hg1, _⟩ := hr1.cells (by have := HN.out; omega)
  have HCM := Lib.hid hcm
  clear hcm
  go_wp2
  have HB3 := Lib.hid hb3
  have HR1 := Lib.hid hr1
  have HR2 := Lib.hid hr2
  clear hb3 hr1 hr2
  go_loopw [37] (fun i wr => ∃ k : Nat, k ≤ m ∧ i = .int .i64 k ∧ Hid (RdS wr (.slice (some ⟨g1, o1, none⟩) n c1) (namesL p.data.toList)) ∧ Hid (RdS wr (.slice a2 m c2) (namesL d.data.toList)) ∧ Hid (Below w.heap.size w wr)) (fun i _ => m - (intOf i).toNat)
  case atStart => exact ⟨0, Nat.zero_le _, rfl, HR1, HR2, HB3⟩
  case round =>
    clear HB3 HR1 HR2
    obtain ⟨k, hk, rfl, HR1, HR2, HB3⟩ := hrel
    by_cases hkm : k < m
    · have hkn : k < n := by omega
      obtain ⟨x', hx'⟩ : ∃ x', (namesL p.data.toList)[k]? = some x' := ⟨_, List.getElem?_eq_getElem (by have := HN.out; omega)⟩
      obtain ⟨y', hy'⟩ : ∃ y', (namesL d.data.toList)[k]? = some y' := ⟨_, List.getElem?_eq_getElem (by have := HM.out; omega)⟩
      have hc1 := rd_cell HR1.out k x' hx'
      obtain ⟨g2, o2, rfl, _, k2⟩ := HR2.out.cells (by have := HM.out; omega)
      have hc2 := k2 k y' hy'
      unfold encS at hc1 hc2
      have hq := rben_pre _ _ HU.out k x' y' hx' hy'
      clear hx' hy' k2
      have q1 : (y' == x') = true := by simp [hq]
      have q2 : (y' != x') = false := by simp [hq]
      clear hq
      go_wp2
      go_region
      go_wp2
      go_roundw
      case rel => exact ⟨k + 1, by omega, by go_num, HR1.out.drewN 1, HR2.out.drewN 1, below_drewN HB3.out 1⟩
      case measure => simp [intOf]; omega
    · have hc1' : m ≤ c1 := by omega
      have hb3 := HB3.out
      by_cases hcm : c1 = m
      · have hnm : n = m := by omega
        obtain ⟨T, hT⟩ : ∃ T : List Value, T = ((namesL p.data.toList).drop m).map encS := ⟨_, rfl⟩
        have H3 : Hid (T.length = n - m) := by rw [Hid, hT, List.length_map, List.length_drop, HN.out]
        have H2 : Hid (∀ u ∈ T, u.oneCell' = true) := by intro u hu; rw [hT] at hu; obtain ⟨x, _, rfl⟩ := List.mem_map.1 hu; simp [encS, Value.oneCell']
        have H4 : Hid (T = ((namesL p.data.toList).drop m).map encS) := hT
        have H1 : Hid (∀ j u, T[j]? = some u → wr.cell? ((⟨g1, o1, none⟩ : Addr).add j) = some u) := by
          intro j u hj
          rw [hT, List.getElem?_map] at hj
          obtain ⟨x, hx, rfl⟩ := Option.map_eq_some_iff.1 hj
          rw [List.drop_of_length_le (by have := HN.out; omega)] at hx
          cases hx
        clear hT
        go_wp2_with (at_builtin; refine wpList_append_own _ rfl _ _ 22 rfl w.heap.size 9 i0 (.string ⟨#[]⟩) 1 16 Try.underlying22 hi hz0 hz1 hz2 rfl (by decide) _ 0 [] rfl (World.ownsRow_nil _ _ _ _) ⟨g1, o1, none⟩ 0 0 T rfl (by rw [H3.out]; omega) H1.out H2.out (by unfold maxLen; omega) (by omega) HB3.out.size ?_; intro v' w2 hown' hgrow _)
        have hrd := fin_own hown' H4.out
        have HB2 := Lib.hid (HB3.out.grown hgrow HB3.out.size (fun j ej => by cases (show (none : Option Nat) = some j from ej)))
        clear hown' hgrow
        go_wp2
        go_ret2
        exact ⟨v', rfl, hrd, HB2.out⟩
      · have hnm : ¬ n < m := by omega
        obtain ⟨T, hT⟩ : ∃ T : List Value, T = ((namesL p.data.toList).drop m).map encS := ⟨_, rfl⟩
        have H3 : Hid (T.length = n - m) := by rw [Hid, hT, List.length_map, List.length_drop, HN.out]
        have H2 : Hid (∀ u ∈ T, u.oneCell' = true) := by intro u hu; rw [hT] at hu; obtain ⟨x, _, rfl⟩ := List.mem_map.1 hu; simp [encS, Value.oneCell']
        have H4 : Hid (T = ((namesL p.data.toList).drop m).map encS) := hT
        have H1 : Hid (∀ j u, T[j]? = some u → wr.cell? ((⟨g1, o1 + m, none⟩ : Addr).add j) = some u) := by
          intro j u hj
          rw [hT, List.getElem?_map] at hj
          obtain ⟨x, hx, rfl⟩ := Option.map_eq_some_iff.1 hj
          rw [add_off]
          exact RdS.drop HR1.out m j x hx
        clear hT
        go_wp2_with (at_builtin; refine wpList_append_own _ rfl _ _ 22 rfl w.heap.size 9 i0 (.string ⟨#[]⟩) 1 16 Try.underlying22 hi hz0 hz1 hz2 rfl (by decide) _ 0 [] rfl (World.ownsRow_nil _ _ _ _) ⟨g1, o1 + m, none⟩ (n - m) (c1 - m) T rfl (by rw [H3.out, Nat.mul_one]) H1.out H2.out (by unfold maxLen; omega) (by omega) HB3.out.size ?_; intro v' w2 hown' hgrow _)
        have hrd := fin_own hown' H4.out
        have HB2 := Lib.hid (HB3.out.grown hgrow HB3.out.size (fun j ej => by cases (show (none : Option Nat) = some j from ej)))
        clear hown' hgrow
        go_wp2
        go_ret2
        exact ⟨v', rfl, hrd, HB2.out⟩

end Go.Proofs.Ytjnmlhmlcbbafaa
