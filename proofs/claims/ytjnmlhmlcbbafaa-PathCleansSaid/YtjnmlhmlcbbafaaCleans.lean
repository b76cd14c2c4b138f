/- Proved here: the law PathCleans returns true for every two rows of texts. -/
import Derived.Test.YtjnmlhmlcbbafaaRefI
import Derived.Test.YtjnmlhmlcbbafaaTells
namespace Go.Proofs.Ytjnmlhmlcbbafaa
open Go.RowKit Go.Shelf

theorem argS_slice {w : World} {v : Value} {l : List Str} (h : ArgS w v l) : ∃ a n c, v = .slice a n c := by
  rcases h with ⟨rfl, _⟩ | ⟨a, n, c, _, rfl, _⟩
  · exact ⟨_, _, _, rfl⟩
  · exact ⟨_, _, _, rfl⟩

def cleanOf : Option (List Str) → Str × Int
  | none => ([], 110)
  | some l => (joinL l, 0)
theorem cleanRes_at (a s : Str) (hv : validB a = true) (hl : ¬ 2000 < s.length) (c : Option (List Str)) (hc : cleanL a s = c) : cleanRes a s = cleanOf c := by
  rw [cleanRes, if_neg (by simp [hv]), if_neg hl, hc]
  cases c <;> rfl
theorem rcl_w (a s : ByteArray) (ha : a.size ≤ 1000000) (hs : s.size ≤ 2001) (hv : validB a.data.toList = true) (w : World) :
    Calls Try.prog 25 #[.string a, .string s] w fun e w' => ∃ (X : ByteArray) (b : Bool), e = .returned (.tuple #[.string X, .bool b]) ∧ Below w.heap.size w w' := by
  refine (rcl_any a s ha hs hv w).mono ?_
  rintro e w' ⟨h1, h2⟩
  cases hc : cleanL a.data.toList s.data.toList with
  | none => rw [hc] at h1; exact ⟨_, _, h1, h2⟩
  | some l => rw [hc] at h1; exact ⟨_, _, h1, h2⟩
theorem rcl_at (a s : ByteArray) (ha : a.size ≤ 1000000) (hs : s.size ≤ 2001) (hv : validB a.data.toList = true) (c : Option (List Str)) (hc : cleanL a.data.toList s.data.toList = c) (w : World) :
    Calls Try.prog 25 #[.string a, .string s] w (RclPost c w) := by rw [← hc]; exact rcl_any a s ha hs hv w
theorem clean_at (a s : ByteArray) (ha : a.size ≤ 140737488355328) (r : Str × Int) (hr : cleanRes a.data.toList s.data.toList = r) (w : World) :
    Calls Try.prog 24 #[.string a, .string s] w fun e w' => e = .returned (.tuple #[.string ⟨r.1.toArray⟩, .int .i64 r.2]) ∧ Below w.heap.size w w' := by rw [← hr]; exact clean_any a s ha w

set_option maxRecDepth 100000 in
set_option maxHeartbeats 4000000 in
theorem cleans_any (va vb : Value) (la lb : List Str) (w : World) (hA : ArgS w va la) (hB : ArgS w vb lb) : Calls Try.prog 5 #[va, vb] w (TrueB w) := by
  have HA := Lib.hid hA
  have HAB := Lib.hid hB
  have HL := Lib.hid (fewL_sizes la)
  have HLB := Lib.hid (fewL_sizes lb)
  have H8 := fewL_len la
  have H8b := fewL_len lb
  obtain ⟨a0, n0, c0, rfl⟩ := argS_slice hA
  obtain ⟨a5, n5, c5, rfl⟩ := argS_slice hB
  obtain ⟨n, hn⟩ : ∃ n, (fewL la).length = n := ⟨_, rfl⟩
  obtain ⟨m, hm⟩ : ∃ m, (fewL lb).length = m := ⟨_, rfl⟩
  have HN := Lib.hid hn
  have HM := Lib.hid hm
  rw [hn] at H8
  rw [hm] at H8b
  clear hA hB hn hm
  go_enter Try.func5, Try.ntmps5
  go_wp2_with fail
  refine (wakes_any _).mono ?_
  rintro e w1 ⟨rfl, hb1⟩
  go_wp2_with fail
  refine (few_any _ la _ (HA.out.below hb1)).mono ?_
  rintro e w2 ⟨v, rfl, hrow, hb⟩
  have hb2 := chn hb1 hb
  obtain ⟨a1, c1, rfl, _, _, h4⟩ := RdS.of_own hrow
  have HR := Lib.hid h4
  rw [HN.out]
  have HB2 := Lib.hid hb2
  clear hb1 hb hrow h4 hb2
  go_wp2
  go_loopw [19] (fun i wr => ∃ k : Nat, k ≤ n ∧ i = .int .i64 k ∧ Hid (Below w2.heap.size w2 wr)) (fun i _ => n - (intOf i).toNat)
  case atStart => exact ⟨0, Nat.zero_le _, rfl, Below.refl _ _⟩
  case round =>
    obtain ⟨k, hk, rfl, HB0⟩ := hrel
    by_cases hlt : k < n
    · obtain ⟨x, hx⟩ : ∃ x, (fewL la)[k]? = some x := ⟨_, List.getElem?_eq_getElem (by have := HN.out; omega)⟩
      obtain ⟨g, o, rfl, hg, hc⟩ := HR.out (by have := HN.out; omega)
      have hcx := (HB0.out.cell (p := ⟨g, o + k, none⟩) hg).trans (hc k x hx)
      have hxz := HL.out x (List.mem_of_getElem? hx)
      obtain ⟨p, rfl⟩ : ∃ p : ByteArray, x = p.data.toList := ⟨⟨x.toArray⟩, rfl⟩
      have hp1 : p.size ≤ 1000000 := by have : p.data.toList.length = p.size := rfl; omega
      have hp2 : p.size ≤ 140737488355328 := by omega
      have hcx' : wr.cell? ⟨g, o + k, none⟩ = some (.string p) := hcx
      clear hc hg hx hxz hcx
      go_wp2_with fail
      refine (few_any _ lb _ (HAB.out.below (chn HB2.out HB0.out))).mono ?_
      rintro e w3 ⟨v, rfl, hrow, hb⟩
      obtain ⟨a3, c3, rfl, _, _, h4⟩ := RdS.of_own hrow
      have HR3 := Lib.hid h4
      rw [HM.out]
      have HB3 := Lib.hid (chn HB0.out hb)
      clear hrow hb h4 hcx'
      go_wp2
      obtain ⟨wo, hwo⟩ : ∃ wo : World, wo = w3 := ⟨_, rfl⟩
      go_loopw [26] (fun i wr => ∃ j : Nat, j ≤ m ∧ i = .int .i64 j ∧ Hid (Below w3.heap.size w3 wr)) (fun i _ => m - (intOf i).toNat)
      case atStart => exact ⟨0, Nat.zero_le _, rfl, Below.refl _ _⟩
      case round =>
        obtain ⟨j, hj, rfl, HB1⟩ := hrel
        by_cases hjl : j < m
        · obtain ⟨y, hy⟩ : ∃ y, (fewL lb)[j]? = some y := ⟨_, List.getElem?_eq_getElem (by have := HM.out; omega)⟩
          obtain ⟨g3, o3, rfl, hg3, hc3⟩ := HR3.out (by have := HM.out; omega)
          have hcy := (HB1.out.cell (p := ⟨g3, o3 + j, none⟩) hg3).trans (hc3 j y hy)
          have hyz := HLB.out y (List.mem_of_getElem? hy)
          obtain ⟨q, rfl⟩ : ∃ q : ByteArray, y = q.data.toList := ⟨⟨y.toArray⟩, rfl⟩
          have hql : q.data.toList.length = q.size := rfl
          have hq1 : q.size ≤ 2001 := by omega
          have hcy' : wr.cell? ⟨g3, o3 + j, none⟩ = some (.string q) := hcy
          have hb1 := HB1.out
          clear hcy hyz hy hql hc3 hg3
          by_cases hv : validB p.data.toList = true
          · have HV := Lib.hid hv
            clear hv
            by_cases hlong : 2000 < q.size
            · have hl2 : (2000 : Int) < (q.size : Int) := by omega
              have HLG := Lib.hid hlong
              have d1 : decide ((2000 : Int) < (q.size : Int)) = true := decide_eq_true hl2
              go_wp2_with fail
              refine (clean_long p q hp2 HV.out HLG.out _).mono ?_
              rintro e w5 ⟨rfl, hb⟩
              have hb1 := chn hb1 hb
              clear hb
              go_wp2_with fail
              refine (rcl_w p q hp1 hq1 HV.out _).mono ?_
              rintro e w6 ⟨X, bx, rfl, hb⟩
              have hb1 := chn hb1 hb
              clear hb
              go_wp2_with fail
              refine (rright_any p hp1 _).mono ?_
              rintro e w5 ⟨rfl, hb⟩
              have hb1 := chn hb1 hb
              rw [HV.out]
              clear hb
              go_wp2
              exact ⟨⟨j + 1, hjl, by go_num, hb1⟩, by simp [intOf]; omega⟩
            · have hl2 : ¬ (2000 : Int) < (q.size : Int) := by omega
              have d1 : decide ((2000 : Int) < (q.size : Int)) = false := decide_eq_false hl2
              obtain ⟨c, hc⟩ : ∃ c, cleanL p.data.toList q.data.toList = c := ⟨_, rfl⟩
              have hres := cleanRes_at p.data.toList q.data.toList HV.out hlong c hc
              have HC := Lib.hid hc
              have HRS := Lib.hid hres
              clear hc hres
              cases c with
              | none =>
                go_wp2_with fail
                refine (clean_at p q hp2 _ HRS.out _).mono ?_
                rintro e w5 ⟨rfl, hb⟩
                have hb1 := chn hb1 hb
                clear hb
                go_wp2_with fail
                refine (rcl_at p q hp1 hq1 HV.out _ HC.out _).mono ?_
                rintro e w6 ⟨rfl, hb⟩
                have hb1 := chn hb1 hb
                clear hb
                go_wp2_with fail
                refine (rright_any p hp1 _).mono ?_
                rintro e w5 ⟨rfl, hb⟩
                have hb1 := chn hb1 hb
                rw [HV.out]
                clear hb
                go_wp2
                exact ⟨⟨j + 1, hjl, by go_num, hb1⟩, by simp [intOf]; omega⟩
              | some l =>
                go_wp2_with fail
                refine (clean_at p q hp2 _ HRS.out _).mono ?_
                rintro e w5 ⟨rfl, hb⟩
                have hb1 := chn hb1 hb
                clear hb
                go_wp2_with fail
                refine (rcl_at p q hp1 hq1 HV.out _ HC.out _).mono ?_
                rintro e w6 ⟨rfl, hb⟩
                have hb1 := chn hb1 hb
                clear hb
                go_wp2_with fail
                refine (rright_any p hp1 _).mono ?_
                rintro e w5 ⟨rfl, hb⟩
                have hb1 := chn hb1 hb
                rw [HV.out]
                clear hb
                go_wp2
                exact ⟨⟨j + 1, hjl, by go_num, hb1⟩, by simp [intOf]; omega⟩
          · have HV := Lib.hid (Bool.eq_false_iff.2 hv)
            clear hv
            go_wp2_with fail
            refine (clean_bad p q hp2 HV.out _).mono ?_
            rintro e w5 ⟨rfl, hb⟩
            have hb1 := chn hb1 hb
            clear hb
            go_wp2_with fail
            refine (rcl_bad p q hp1 HV.out _).mono ?_
            rintro e w6 ⟨rfl, hb⟩
            have hb1 := chn hb1 hb
            clear hb
            go_wp2_with fail
            refine (rright_any p hp1 _).mono ?_
            rintro e w5 ⟨rfl, hb⟩
            have hb1 := chn hb1 hb
            rw [HV.out]
            clear hb
            go_wp2
            exact ⟨⟨j + 1, hjl, by go_num, hb1⟩, by simp [intOf]; omega⟩
        · go_wp2
          exact ⟨⟨k + 1, hlt, by go_num, chn HB3.out HB1.out⟩, by simp [intOf]; omega⟩
    · go_wp2
      go_ret
      exact ⟨rfl, chn HB2.out HB0.out⟩
end Go.Proofs.Ytjnmlhmlcbbafaa
