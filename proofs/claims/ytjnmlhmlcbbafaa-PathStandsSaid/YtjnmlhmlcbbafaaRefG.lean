/- Proved here: Compare of puncheonref01 for every two texts of at most a million bytes. -/
import Derived.Test.YtjnmlhmlcbbafaaRefF
import Derived.Test.YtjnmlhmlcbbafaaSort
namespace Go.Proofs.Ytjnmlhmlcbbafaa
open Go.RowKit Go.Shelf

set_option maxHeartbeats 1000000 in
theorem rcmp_vn (a b : ByteArray) (ha : a.size ≤ 1000000) (hb : b.size ≤ 1000000) (v1 : validB a.data.toList = true) (v2 : validB b.data.toList = false) (w : World) :
    Calls Try.prog 31 #[.string a, .string b] w fun e w' => e = .returned (.int .i64 1) ∧ Below w.heap.size w w' := by
  have H1 := Lib.hid v1
  have H2 := Lib.hid v2
  clear v1 v2
  go_enter Try.func31, Try.ntmps31
  go_wp2_with fail
  refine (rnames_is a ha _ H1.out _).mono ?_
  rintro e w1 ⟨a1, n1, c1, rfl, hb1⟩
  go_wp2_with fail
  refine ((rnames_any b hb _).2 H2.out).mono ?_
  rintro e w2 ⟨rfl, hb2⟩
  have hb3 := chn hb1 hb2
  have HB3 := Lib.hid hb3
  clear hb1 hb2 hb3
  go_wp2
  go_ret
  exact ⟨rfl, (HB3.out.alloc HB3.out.size _).alloc (by have := HB3.out.size; simp; omega) _⟩

set_option maxHeartbeats 1000000 in
theorem rcmp_nv (a b : ByteArray) (ha : a.size ≤ 1000000) (hb : b.size ≤ 1000000) (v1 : validB a.data.toList = false) (v2 : validB b.data.toList = true) (w : World) :
    Calls Try.prog 31 #[.string a, .string b] w fun e w' => e = .returned (.int .i64 (-1)) ∧ Below w.heap.size w w' := by
  have H1 := Lib.hid v1
  have H2 := Lib.hid v2
  clear v1 v2
  go_enter Try.func31, Try.ntmps31
  go_wp2_with fail
  refine ((rnames_any a ha _).2 H1.out).mono ?_
  rintro e w1 ⟨rfl, hb1⟩
  go_wp2_with fail
  refine (rnames_is b hb _ H2.out _).mono ?_
  rintro e w2 ⟨a2, n2, c2, rfl, hb2⟩
  have hb3 := chn hb1 hb2
  have HB3 := Lib.hid hb3
  clear hb1 hb2 hb3
  go_wp2
  go_ret
  exact ⟨rfl, (HB3.out.alloc HB3.out.size _).alloc (by have := HB3.out.size; simp; omega) _⟩

theorem rless_at (x y : Str) (hx : x.length ≤ 1000000) (b : Bool) (hb : decide (Lib.compareBytes x y < 0) = b) (w : World) :
    Calls Try.prog 46 #[.string ⟨x.toArray⟩, .string ⟨y.toArray⟩] w fun e w' => e = .returned (.bool b) ∧ Below w.heap.size w w' := by
  rw [← hb]; exact rless_any ⟨x.toArray⟩ ⟨y.toArray⟩ hx w
theorem drop_get {l : List Str} {k : Nat} {x : Str} (h : l[k]? = some x) : l.drop k = x :: l.drop (k + 1) := by
  obtain ⟨hl, rfl⟩ := List.getElem?_eq_some_iff.1 h
  exact (List.getElem_cons_drop hl).symm

set_option maxRecDepth 100000 in
set_option maxHeartbeats 4000000 in
theorem rcmp_vv (a b : ByteArray) (ha : a.size ≤ 1000000) (hb : b.size ≤ 1000000) (v1 : validB a.data.toList = true) (v2 : validB b.data.toList = true) (R : Int) (hR : cmpN (namesL a.data.toList) (namesL b.data.toList) = R) (w : World) :
    Calls Try.prog 31 #[.string a, .string b] w fun e w' => e = .returned (.int .i64 R) ∧ Below w.heap.size w w' := by
  obtain ⟨L, hL⟩ : ∃ L, namesL a.data.toList = L := ⟨_, rfl⟩
  obtain ⟨M, hM⟩ : ∃ M, namesL b.data.toList = M := ⟨_, rfl⟩
  rw [hL, hM] at hR
  have HC1 : Hid (∀ W, Calls Try.prog 12 #[.string a] W (RYes L W)) := fun W => by rw [← hL]; exact (rnames_any a ha W).1 v1
  have HC2 : Hid (∀ W, Calls Try.prog 12 #[.string b] W (RYes M W)) := fun W => by rw [← hM]; exact (rnames_any b hb W).1 v2
  have HZ1 : Hid (∀ x ∈ L, x.length ≤ 1000000) := fun x hx => by
    rw [← hL] at hx
    have := (name_ne x ((valid_names _ v1).2 x hx)).2.2.2
    omega
  obtain ⟨n, hn⟩ : ∃ n, L.length = n := ⟨_, rfl⟩
  obtain ⟨m, hm⟩ : ∃ m, M.length = m := ⟨_, rfl⟩
  have hn40 : n ≤ 40 := by rw [← hn, ← hL]; exact (valid_names _ v1).1
  have hm40 : m ≤ 40 := by rw [← hm, ← hM]; exact (valid_names _ v2).1
  have HN := Lib.hid hn
  have HM := Lib.hid hm
  have HR : Hid (cmpN (L.drop 0) (M.drop 0) = R) := hR
  clear hn hm hL hM hR v1 v2
  go_enter Try.func31, Try.ntmps31
  go_wp2_with fail
  refine (HC1.out _).mono ?_
  rintro e w1 ⟨v1, rfl, hr1, hb1⟩
  obtain ⟨a1, c1, rfl, _⟩ := hr1.slice
  rw [HN.out] at hr1 ⊢
  go_wp2_with fail
  refine (HC2.out _).mono ?_
  rintro e w2 ⟨v2, rfl, hr2, hb2⟩
  obtain ⟨a2, c2, rfl, _⟩ := hr2.slice
  rw [HM.out] at hr2 ⊢
  have HB3 := Lib.hid (chn hb1 hb2)
  have HR1 := Lib.hid (hr1.below hb2)
  have HR2 := Lib.hid hr2
  clear hr1 hr2 hb1 hb2
  go_wp2
  go_loopw [9] (fun i wr => ∃ k : Nat, k ≤ n ∧ k ≤ m ∧ i = .int .i64 k ∧ Hid (RdS wr (.slice a1 n c1) L) ∧ Hid (RdS wr (.slice a2 m c2) M) ∧ Hid (cmpN (L.drop k) (M.drop k) = R) ∧ Hid (Below w.heap.size w wr)) (fun i _ => n - (intOf i).toNat)
  case atStart => exact ⟨0, Nat.zero_le _, Nat.zero_le _, rfl, HR1, HR2, HR, HB3⟩
  case round =>
    clear HB3 HR1 HR2 HR
    obtain ⟨k, hk1, hk2, rfl, HR1, HR2, HR, HB3⟩ := hrel
    by_cases h1 : k < n
    · by_cases h2 : k < m
      · obtain ⟨x, hx⟩ : ∃ x, L[k]? = some x := ⟨_, List.getElem?_eq_getElem (by have := HN.out; omega)⟩
        obtain ⟨y, hy⟩ : ∃ y, M[k]? = some y := ⟨_, List.getElem?_eq_getElem (by have := HM.out; omega)⟩
        obtain ⟨g1, o1, rfl, _, k1⟩ := HR1.out.cells (by have := HN.out; omega)
        obtain ⟨g2, o2, rfl, _, k2⟩ := HR2.out.cells (by have := HM.out; omega)
        have hc1 := k1 k x hx
        have hc2 := k2 k y hy
        have hxz := HZ1.out x (List.mem_of_getElem? hx)
        unfold encS at hc1 hc2
        have he := HR.out
        rw [drop_get hx, drop_get hy, cmpN] at he
        have HE := Lib.hid he
        clear hx hy k1 k2 he
        by_cases hq : x = y
        · have he := HE.out
          rw [if_pos hq] at he
          have HE2 := Lib.hid he
          have q1 : (x == y) = true := by simp [hq]
          have q2 : (x != y) = false := by simp [hq]
          clear hq he
          go_wp2
          go_region
          go_wp2
          go_roundw
          case rel => exact ⟨k + 1, h1, h2, by go_num, HR1.out.drewN 1, HR2.out.drewN 1, HE2, below_drewN HB3.out 1⟩
          case measure => simp [intOf]; omega
        · have he := HE.out
          rw [if_neg hq] at he
          have HE2 := Lib.hid he
          have q1 : (x == y) = false := by simp [hq]
          have q2 : (x != y) = true := by simp [hq]
          have HQ := Lib.hid hq
          clear hq he
          by_cases hl : Lib.compareBytes x y < 0
          · have HD := Lib.hid (decide_eq_true hl)
            have hr : (-1 : Int) = R := by have h := HE2.out; have := cb_range x y; omega
            have HL := Lib.hid hr
            clear hl hr
            go_wp2
            go_region
            go_wp2
            obtain ⟨wd, hwd⟩ : ∃ wd, wr.drew = wd := ⟨_, rfl⟩
            have hc3 : wd.cell? ⟨g1, o1 + k, none⟩ = some (.string ⟨x.toArray⟩) := by rw [← hwd]; exact hc1
            have hc4 : wd.cell? ⟨g2, o2 + k, none⟩ = some (.string ⟨y.toArray⟩) := by rw [← hwd]; exact hc2
            have HBd : Hid (Below w.heap.size w wd) := by rw [← hwd]; exact below_drewN HB3.out 1
            rw [hwd]
            clear hc1 hc2 hwd
            go_still_tail 8, (by kernel_rfl)
            go_wp2_with fail
            refine (rless_at x y hxz true HD.out _).mono ?_
            rintro e w3 ⟨rfl, hb⟩
            go_wp2
            go_ret
            exact ⟨ret_int HL.out, chn (below_drewN HBd.out 1) hb⟩
          · have HD := Lib.hid (decide_eq_false hl)
            have hr : (1 : Int) = R := by
              have h : Lib.compareBytes x y = R := HE2.out
              have h0 : ¬ Lib.compareBytes x y = 0 := fun k => HQ.out ((cb_zero x y).1 k)
              have hg := cb_range x y
              rw [← h]
              omega
            have HL := Lib.hid hr
            clear hl hr
            go_wp2
            go_region
            go_wp2
            obtain ⟨wd, hwd⟩ : ∃ wd, wr.drew = wd := ⟨_, rfl⟩
            have hc3 : wd.cell? ⟨g1, o1 + k, none⟩ = some (.string ⟨x.toArray⟩) := by rw [← hwd]; exact hc1
            have hc4 : wd.cell? ⟨g2, o2 + k, none⟩ = some (.string ⟨y.toArray⟩) := by rw [← hwd]; exact hc2
            have HBd : Hid (Below w.heap.size w wd) := by rw [← hwd]; exact below_drewN HB3.out 1
            rw [hwd]
            clear hc1 hc2 hwd
            go_still_tail 8, (by kernel_rfl)
            go_wp2_with fail
            refine (rless_at x y hxz false HD.out _).mono ?_
            rintro e w3 ⟨rfl, hb⟩
            go_wp2
            go_ret
            exact ⟨ret_int HL.out, chn (below_drewN HBd.out 1) hb⟩
      · have he := HR.out
        rw [List.drop_of_length_le (show M.length ≤ k by have := HM.out; omega), drop_get (List.getElem?_eq_getElem (show k < L.length by have := HN.out; omega)), cmpN] at he
        have HL := Lib.hid he
        have t1 : ¬ n < m := by omega
        have t2 : m < n := by omega
        clear he
        go_wp2
        go_ret
        exact ⟨ret_int HL.out, HB3.out⟩
    · have he := HR.out
      rw [List.drop_of_length_le (show L.length ≤ k by have := HN.out; omega)] at he
      by_cases h2 : k < m
      · rw [drop_get (List.getElem?_eq_getElem (show k < M.length by have := HM.out; omega)), cmpN] at he
        have HL := Lib.hid he
        have t1 : n < m := by omega
        clear he
        go_wp2
        go_ret
        exact ⟨ret_int HL.out, HB3.out⟩
      · rw [List.drop_of_length_le (show M.length ≤ k by have := HM.out; omega), cmpN] at he
        have HL := Lib.hid he
        have t1 : ¬ n < m := by omega
        have t2 : ¬ m < n := by omega
        clear he
        go_wp2
        go_ret
        exact ⟨ret_int HL.out, HB3.out⟩

theorem new_row (w : World) (a : ByteArray) : RdS (w.alloc (.cells #[.string a] 9)) (.slice (some ⟨w.heap.size, 0, none⟩) 1 1) [a.data.toList] := by
  refine ⟨_, 1, rfl, Nat.le_refl _, by unfold maxLen; omega, fun _ => ⟨w.heap.size, 0, rfl, by simp, fun j x hx => ?_⟩⟩
  have hj : j = 0 := by have := (List.getElem?_eq_some_iff.1 hx).1; simp at this; exact this
  subst hj
  simp at hx
  subst hx
  rw [Nat.add_zero]
  exact cell_one_new w (.string a) 9 0 _ rfl

set_option maxRecDepth 100000 in
set_option maxHeartbeats 4000000 in
theorem rcmp_nn (a b : ByteArray) (ha : a.size ≤ 1000000) (hb : b.size ≤ 1000000) (v1 : validB a.data.toList = false) (v2 : validB b.data.toList = false) (R : Int) (hR : cmpN [a.data.toList] [b.data.toList] = R) (w : World) :
    Calls Try.prog 31 #[.string a, .string b] w fun e w' => e = .returned (.int .i64 R) ∧ Below w.heap.size w w' := by
  obtain ⟨L, hL⟩ : ∃ L, [a.data.toList] = L := ⟨_, rfl⟩
  obtain ⟨M, hM⟩ : ∃ M, [b.data.toList] = M := ⟨_, rfl⟩
  rw [hL, hM] at hR
  have H1 := Lib.hid v1
  have H2 := Lib.hid v2
  have HLL := Lib.hid hL
  have HMM := Lib.hid hM
  have HZ1 : Hid (∀ x ∈ L, x.length ≤ 1000000) := fun x hx => by
    rw [← hL] at hx
    simp at hx
    subst hx
    exact ha
  obtain ⟨n, hn⟩ : ∃ n, L.length = n := ⟨_, rfl⟩
  obtain ⟨m, hm⟩ : ∃ m, M.length = m := ⟨_, rfl⟩
  have hn1 : n = 1 := by rw [← hn, ← hL]; rfl
  have hm1 : m = 1 := by rw [← hm, ← hM]; rfl
  have HN := Lib.hid hn
  have HM := Lib.hid hm
  have HR : Hid (cmpN (L.drop 0) (M.drop 0) = R) := hR
  clear hn hm hL hM hR v1 v2
  go_enter Try.func31, Try.ntmps31
  go_wp2_with fail
  refine ((rnames_any a ha _).2 H1.out).mono ?_
  rintro e w1 ⟨rfl, hb1⟩
  go_wp2_with fail
  refine ((rnames_any b hb _).2 H2.out).mono ?_
  rintro e w2 ⟨rfl, hb2⟩
  have HB2 := Lib.hid (chn hb1 hb2)
  clear hb1 hb2
  go_wp2
  have hr1 := new_row w2 a
  have hr2 := new_row (w2.alloc (.cells #[.string a] 9)) b
  have hb3 : Below w.heap.size w ((w2.alloc (.cells #[.string a] 9)).alloc (.cells #[.string b] 9)) := (HB2.out.alloc HB2.out.size _).alloc (by have := HB2.out.size; simp; omega) _
  have hr1 := hr1.below ((Below.refl _ _).alloc (Nat.le_refl _) (.cells #[.string b] 9))
  rw [HLL.out] at hr1
  rw [HMM.out] at hr2
  rw [show (w2.alloc (.cells #[.string a] 9)).heap.size = w2.heap.size + 1 by simp] at hr2
  have HB3 := Lib.hid hb3
  have HR1 := Lib.hid hr1
  have HR2 := Lib.hid hr2
  clear hr1 hr2 hb3
  obtain ⟨wz, hwz⟩ : ∃ wz, (w2.alloc (.cells #[.string a] 9)).alloc (.cells #[.string b] 9) = wz := ⟨_, rfl⟩
  rw [hwz] at HR1 HR2 HB3 ⊢
  obtain ⟨a1, ha1⟩ : ∃ a1 : Option Addr, some ⟨w2.heap.size, 0, none⟩ = a1 := ⟨_, rfl⟩
  obtain ⟨a2, ha2⟩ : ∃ a2 : Option Addr, some ⟨w2.heap.size + 1, 0, none⟩ = a2 := ⟨_, rfl⟩
  rw [ha1] at HR1 ⊢
  rw [ha2] at HR2 ⊢
  obtain ⟨c1, hc1⟩ : ∃ c1 : Nat, c1 = 1 := ⟨_, rfl⟩
  obtain ⟨c2, hc2⟩ : ∃ c2 : Nat, c2 = 1 := ⟨_, rfl⟩
  rw [show Value.slice a1 1 1 = Value.slice a1 n c1 from by rw [hn1, hc1]] at HR1 ⊢
  rw [show Value.slice a2 1 1 = Value.slice a2 m c2 from by rw [hm1, hc2]] at HR2 ⊢
  have hn40 : n ≤ 40 := by omega
  have hm40 : m ≤ 40 := by omega
  clear hwz ha1 ha2 hn1 hm1 hc1 hc2
  go_loopw [9] (fun i wr => ∃ k : Nat, k ≤ n ∧ k ≤ m ∧ i = .int .i64 k ∧ Hid (RdS wr (.slice a1 n c1) L) ∧ Hid (RdS wr (.slice a2 m c2) M) ∧ Hid (cmpN (L.drop k) (M.drop k) = R) ∧ Hid (Below w.heap.size w wr)) (fun i _ => n - (intOf i).toNat)
  case atStart => exact ⟨0, Nat.zero_le _, Nat.zero_le _, rfl, HR1, HR2, HR, HB3⟩
  case round =>
    clear HB3 HR1 HR2 HR
    obtain ⟨k, hk1, hk2, rfl, HR1, HR2, HR, HB3⟩ := hrel
    by_cases h1 : k < n
    · by_cases h2 : k < m
      · obtain ⟨x, hx⟩ : ∃ x, L[k]? = some x := ⟨_, List.getElem?_eq_getElem (by have := HN.out; omega)⟩
        obtain ⟨y, hy⟩ : ∃ y, M[k]? = some y := ⟨_, List.getElem?_eq_getElem (by have := HM.out; omega)⟩
        obtain ⟨g1, o1, rfl, _, k1⟩ := HR1.out.cells (by have := HN.out; omega)
        obtain ⟨g2, o2, rfl, _, k2⟩ := HR2.out.cells (by have := HM.out; omega)
        have hc1 := k1 k x hx
        have hc2 := k2 k y hy
        have hxz := HZ1.out x (List.mem_of_getElem? hx)
        unfold encS at hc1 hc2
        have he := HR.out
        rw [drop_get hx, drop_get hy, cmpN] at he
        have HE := Lib.hid he
        clear hx hy k1 k2 he
        by_cases hq : x = y
        · have he := HE.out
          rw [if_pos hq] at he
          have HE2 := Lib.hid he
          have q1 : (x == y) = true := by simp [hq]
          have q2 : (x != y) = false := by simp [hq]
          clear hq he
          go_wp2
          go_region
          go_wp2
          go_roundw
          case rel => exact ⟨k + 1, h1, h2, by go_num, HR1.out.drewN 1, HR2.out.drewN 1, HE2, below_drewN HB3.out 1⟩
          case measure => simp [intOf]; omega
        · have he := HE.out
          rw [if_neg hq] at he
          have HE2 := Lib.hid he
          have q1 : (x == y) = false := by simp [hq]
          have q2 : (x != y) = true := by simp [hq]
          have HQ := Lib.hid hq
          clear hq he
          by_cases hl : Lib.compareBytes x y < 0
          · have HD := Lib.hid (decide_eq_true hl)
            have hr : (-1 : Int) = R := by have h := HE2.out; have := cb_range x y; omega
            have HL := Lib.hid hr
            clear hl hr
            go_wp2
            go_region
            go_wp2
            obtain ⟨wd, hwd⟩ : ∃ wd, wr.drew = wd := ⟨_, rfl⟩
            have hc3 : wd.cell? ⟨g1, o1 + k, none⟩ = some (.string ⟨x.toArray⟩) := by rw [← hwd]; exact hc1
            have hc4 : wd.cell? ⟨g2, o2 + k, none⟩ = some (.string ⟨y.toArray⟩) := by rw [← hwd]; exact hc2
            have HBd : Hid (Below w.heap.size w wd) := by rw [← hwd]; exact below_drewN HB3.out 1
            rw [hwd]
            clear hc1 hc2 hwd
            go_still_tail 8, (by kernel_rfl)
            go_wp2_with fail
            refine (rless_at x y hxz true HD.out _).mono ?_
            rintro e w3 ⟨rfl, hb⟩
            go_wp2
            go_ret
            exact ⟨ret_int HL.out, chn (below_drewN HBd.out 1) hb⟩
          · have HD := Lib.hid (decide_eq_false hl)
            have hr : (1 : Int) = R := by
              have h : Lib.compareBytes x y = R := HE2.out
              have h0 : ¬ Lib.compareBytes x y = 0 := fun k => HQ.out ((cb_zero x y).1 k)
              have hg := cb_range x y
              rw [← h]
              omega
            have HL := Lib.hid hr
            clear hl hr
            go_wp2
            go_region
            go_wp2
            obtain ⟨wd, hwd⟩ : ∃ wd, wr.drew = wd := ⟨_, rfl⟩
            have hc3 : wd.cell? ⟨g1, o1 + k, none⟩ = some (.string ⟨x.toArray⟩) := by rw [← hwd]; exact hc1
            have hc4 : wd.cell? ⟨g2, o2 + k, none⟩ = some (.string ⟨y.toArray⟩) := by rw [← hwd]; exact hc2
            have HBd : Hid (Below w.heap.size w wd) := by rw [← hwd]; exact below_drewN HB3.out 1
            rw [hwd]
            clear hc1 hc2 hwd
            go_still_tail 8, (by kernel_rfl)
            go_wp2_with fail
            refine (rless_at x y hxz false HD.out _).mono ?_
            rintro e w3 ⟨rfl, hb⟩
            go_wp2
            go_ret
            exact ⟨ret_int HL.out, chn (below_drewN HBd.out 1) hb⟩
      · have he := HR.out
        rw [List.drop_of_length_le (show M.length ≤ k by have := HM.out; omega), drop_get (List.getElem?_eq_getElem (show k < L.length by have := HN.out; omega)), cmpN] at he
        have HL := Lib.hid he
        have t1 : ¬ n < m := by omega
        have t2 : m < n := by omega
        clear he
        go_wp2
        go_ret
        exact ⟨ret_int HL.out, HB3.out⟩
    · have he := HR.out
      rw [List.drop_of_length_le (show L.length ≤ k by have := HN.out; omega)] at he
      by_cases h2 : k < m
      · rw [drop_get (List.getElem?_eq_getElem (show k < M.length by have := HM.out; omega)), cmpN] at he
        have HL := Lib.hid he
        have t1 : n < m := by omega
        clear he
        go_wp2
        go_ret
        exact ⟨ret_int HL.out, HB3.out⟩
      · rw [List.drop_of_length_le (show M.length ≤ k by have := HM.out; omega), cmpN] at he
        have HL := Lib.hid he
        have t1 : ¬ n < m := by omega
        have t2 : ¬ m < n := by omega
        clear he
        go_wp2
        go_ret
        exact ⟨ret_int HL.out, HB3.out⟩

theorem rcmp_any (a b : ByteArray) (ha : a.size ≤ 1000000) (hb : b.size ≤ 1000000) (w : World) :
    Calls Try.prog 31 #[.string a, .string b] w fun e w' => e = .returned (.int .i64 (cmpL a.data.toList b.data.toList)) ∧ Below w.heap.size w w' := by
  by_cases v1 : validB a.data.toList = true
  · by_cases v2 : validB b.data.toList = true
    · rw [cmpL, if_pos v1, if_pos v2]; exact rcmp_vv a b ha hb v1 v2 _ rfl w
    · rw [cmpL, if_pos v1, if_neg v2]; exact rcmp_vn a b ha hb v1 (Bool.eq_false_iff.2 v2) w
  · by_cases v2 : validB b.data.toList = true
    · rw [cmpL, if_neg v1, if_pos v2]; exact rcmp_nv a b ha hb (Bool.eq_false_iff.2 v1) v2 w
    · rw [cmpL, if_neg v1, if_neg v2]
      refine rcmp_nn a b ha hb (Bool.eq_false_iff.2 v1) (Bool.eq_false_iff.2 v2) _ ?_ w
      rw [cmpN]
      by_cases e : a.data.toList = b.data.toList
      · rw [if_pos e, (cb_zero _ _).2 e]; rfl
      · rw [if_neg e]
end Go.Proofs.Ytjnmlhmlcbbafaa
