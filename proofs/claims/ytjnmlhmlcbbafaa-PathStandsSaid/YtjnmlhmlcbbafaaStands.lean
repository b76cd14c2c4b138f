/- Proved here: the law PathStands returns true for every row of texts. -/
import Derived.Test.YtjnmlhmlcbbafaaRefG
import Derived.Test.YtjnmlhmlcbbafaaTells
namespace Go.Proofs.Ytjnmlhmlcbbafaa
open Go.RowKit Go.Shelf

set_option maxRecDepth 100000 in
set_option maxHeartbeats 2000000 in
theorem stands_any (v : Value) (l : List Str) (w : World) (h : ArgS w v l) : Calls Try.prog 6 #[v] w (TrueB w) := by
  have HA := Lib.hid h
  have HL := Lib.hid (fewL_sizes l)
  have H8 := fewL_len l
  have hvs : ∃ a n c, v = .slice a n c := by
    rcases h with ⟨rfl, _⟩ | ⟨a, n, c, _, rfl, _⟩
    · exact ⟨_, _, _, rfl⟩
    · exact ⟨_, _, _, rfl⟩
  obtain ⟨a0, n0, c0, rfl⟩ := hvs
  obtain ⟨n, hn⟩ : ∃ n, (fewL l).length = n := ⟨_, rfl⟩
  have HN := Lib.hid hn
  rw [hn] at H8
  clear h hn
  go_enter Try.func6, Try.ntmps6
  go_wp2_with fail
  refine (wakes_any _).mono ?_
  rintro e w1 ⟨rfl, hb1⟩
  go_wp2_with fail
  refine (few_any _ l _ (HA.out.below hb1)).mono ?_
  rintro e w2 ⟨v, rfl, hrow, hb⟩
  have hb2 := chn hb1 hb
  obtain ⟨a1, c1, rfl, _, _, h4⟩ := RdS.of_own hrow
  have HR := Lib.hid h4
  rw [HN.out]
  clear hb1 hb hrow h4
  go_wp2
  go_loopw [17] (fun i wr => ∃ k : Nat, k ≤ n ∧ i = .int .i64 k ∧ Hid (Below w2.heap.size w2 wr)) (fun i _ => n - (intOf i).toNat)
  case atStart => exact ⟨0, Nat.zero_le _, rfl, Below.refl _ _⟩
  case round =>
    obtain ⟨k, hk, rfl, HB0⟩ := hrel
    by_cases hlt : k < n
    · obtain ⟨x, hx⟩ : ∃ x, (fewL l)[k]? = some x := ⟨_, List.getElem?_eq_getElem (by have := HN.out; omega)⟩
      obtain ⟨g, o, rfl, hg, hc⟩ := HR.out (by have := HN.out; omega)
      have hcx := (HB0.out.cell (p := ⟨g, o + k, none⟩) hg).trans (hc k x hx)
      have hxz := HL.out x (List.mem_of_getElem? hx)
      obtain ⟨p, rfl⟩ : ∃ p : ByteArray, x = p.data.toList := ⟨⟨x.toArray⟩, rfl⟩
      have hp1 : p.size ≤ 1000000 := by have : p.data.toList.length = p.size := rfl; omega
      have hp2 : p.size ≤ 140737488355328 := by omega
      have hcx' : wr.cell? ⟨g, o + k, none⟩ = some (.string p) := hcx
      have HG := Lib.hid hg
      have HCS := Lib.hid hc
      clear hc hg hx hxz hcx
      go_wp2
      obtain ⟨wo, hwo⟩ : ∃ wo : World, wo = wr := ⟨_, rfl⟩
      subst hwo
      clear hcx'
      go_loopw [23] (fun i wr => ∃ j : Nat, j ≤ n ∧ i = .int .i64 j ∧ Hid (Below w2.heap.size w2 wr)) (fun i _ => n - (intOf i).toNat)
      case atStart => exact ⟨0, Nat.zero_le _, rfl, HB0⟩
      case round =>
        clear HB0
        obtain ⟨j, hj, rfl, HB1⟩ := hrel
        by_cases hjl : j < n
        · obtain ⟨y, hy⟩ : ∃ y, (fewL l)[j]? = some y := ⟨_, List.getElem?_eq_getElem (by have := HN.out; omega)⟩
          have hcy := (HB1.out.cell (p := ⟨g, o + j, none⟩) HG.out).trans (HCS.out j y hy)
          have hyz := HL.out y (List.mem_of_getElem? hy)
          obtain ⟨q, rfl⟩ : ∃ q : ByteArray, y = q.data.toList := ⟨⟨y.toArray⟩, rfl⟩
          have hq1 : q.size ≤ 1000000 := by have : q.data.toList.length = q.size := rfl; omega
          have hq2 : q.size ≤ 140737488355328 := by omega
          have hcy' : wr.cell? ⟨g, o + j, none⟩ = some (.string q) := hcy
          clear hcy hyz hy
          obtain ⟨u, hu⟩ : ∃ u, underB p.data.toList q.data.toList = u := ⟨_, rfl⟩
          obtain ⟨c, hc⟩ : ∃ c, cmpL p.data.toList q.data.toList = c := ⟨_, rfl⟩
          have HC := Lib.hid hc
          have HU := Lib.hid hu
          obtain ⟨t, ht⟩ : ∃ t, (namesL p.data.toList).drop (namesL q.data.toList).length = t := ⟨_, rfl⟩
          have HTL : Hid (u = true → t.length ≤ 40) := fun e => by
            have h1 := (underB_valid _ _ (hu.trans e)).1
            have h2 := (valid_names _ h1).1
            rw [← ht, List.length_drop]
            omega
          have HT := Lib.hid ht
          clear hu hc ht
          cases u
          · go_wp2_with fail
            refine (beneath_no p q hp2 hq2 HU.out _).mono ?_
            rintro e w3 ⟨rfl, hb⟩
            have hb1 := chn HB1.out hb
            clear hb
            go_wp2_with fail
            refine ((rben_any p q hp1 hq1 _).2 HU.out).mono ?_
            rintro e w4 ⟨rfl, hb⟩
            have hb1 := chn hb1 hb
            clear hb
            go_wp2_with fail
            refine (eqR_yes [] _ _ _ (RdS.nil _) (RdS.nil _) (by simp)).mono ?_
            rintro e w5 ⟨rfl, hb⟩
            have hb1 := chn hb1 hb
            clear hb
            go_wp2_with fail
            refine (und_at p.data.toList q.data.toList hp2 hq2 _ HU.out _).mono ?_
            rintro e w6 ⟨rfl, hb⟩
            have hb1 := chn hb1 hb
            clear hb
            go_wp2_with fail
            refine (cmp_at p.data.toList q.data.toList hp2 hq2 _ HC.out _).mono ?_
            rintro e w7 ⟨rfl, hb⟩
            have hb1 := chn hb1 hb
            clear hb
            go_wp2_with fail
            refine (rcmp_any p q hp1 hq1 _).mono ?_
            rintro e w8 ⟨rfl, hb⟩
            have hb1 := chn hb1 hb
            clear hb
            rw [HC.out]
            go_wp2_with fail
            exact ⟨⟨j + 1, hjl, by go_num, hb1⟩, by simp [intOf]; omega⟩
          · go_wp2_with fail
            refine (beneath_yes p q hp2 hq2 HU.out _).mono ?_
            rintro e w3 ⟨v, rfl, hrow, hb⟩
            have hr1 := RdS.of_own hrow
            have hb1 := chn HB1.out hb
            clear hb hrow
            go_wp2_with fail
            refine ((rben_any p q hp1 hq1 _).1 HU.out).mono ?_
            rintro e w4 ⟨v', rfl, hr2, hb⟩
            have hr1 := hr1.below hb
            have hb1 := chn hb1 hb
            clear hb
            rw [HT.out] at hr1 hr2
            obtain ⟨a3, c3, rfl, _⟩ := hr1.slice
            obtain ⟨a4, c4, rfl, _⟩ := hr2.slice
            go_wp2_with fail
            refine (eqR_yes t _ _ _ hr1 hr2 (by have := HTL.out trivial; omega)).mono ?_
            rintro e w5 ⟨rfl, hb⟩
            have hb1 := chn hb1 hb
            clear hb hr1 hr2
            go_wp2_with fail
            refine (und_at p.data.toList q.data.toList hp2 hq2 _ HU.out _).mono ?_
            rintro e w6 ⟨rfl, hb⟩
            have hb1 := chn hb1 hb
            clear hb
            go_wp2_with fail
            refine (cmp_at p.data.toList q.data.toList hp2 hq2 _ HC.out _).mono ?_
            rintro e w7 ⟨rfl, hb⟩
            have hb1 := chn hb1 hb
            clear hb
            go_wp2_with fail
            refine (rcmp_any p q hp1 hq1 _).mono ?_
            rintro e w8 ⟨rfl, hb⟩
            have hb1 := chn hb1 hb
            clear hb
            rw [HC.out]
            go_wp2_with fail
            exact ⟨⟨j + 1, hjl, by go_num, hb1⟩, by simp [intOf]; omega⟩
        · go_wp2
          exact ⟨⟨k + 1, hlt, by go_num, HB1⟩, by simp [intOf]; omega⟩
    · go_wp2
      go_ret
      exact ⟨rfl, hb2.trans (HB0.out.mono hb2.size)⟩
end Go.Proofs.Ytjnmlhmlcbbafaa
