/- Proved here: slices.Equal of two readable rows of texts; the law PathTells returns true for every row of texts. -/
import Derived.Test.YtjnmlhmlcbbafaaRefD
import Derived.Test.YtjnmlhmlcbbafaaOrder
import Derived.Test.YtjnmlhmlcbbafaaBack
namespace Go.Proofs.Ytjnmlhmlcbbafaa
open Go.RowKit Go.Shelf

theorem bas_cellR {w : World} {g o : Nat} {l : List Str} (h : ∀ j x, l[j]? = some x → w.cell? ⟨g, o + j, none⟩ = some (encS x)) (j : Nat) (hj : j < (bas l).length) :
    w.cell? ⟨g, o + j, none⟩ = some (.string ((bas l).getD j ByteArray.empty)) := by
  have hj' : j < l.length := by rw [bas_len] at hj; exact hj
  rw [h j l[j] (List.getElem?_eq_getElem hj')]
  congr 1
  unfold bas encS
  rw [List.getD_eq_getElem?_getD, List.getElem?_map, List.getElem?_eq_getElem hj']
  rfl

theorem eqR_any (l m : List Str) (v1 v2 : Value) (w : World) (h1 : RdS w v1 l) (h2 : RdS w v2 m) (hl : l.length ≤ 1000000) (hm : m.length ≤ 1000000) :
    Calls Try.prog 15 #[v1, v2] w fun e w' => e = .returned (.bool (decide (l = m))) ∧ Below w.heap.size w w' := by
  obtain ⟨a1, c1, rfl, p1, p2, p3⟩ := h1
  obtain ⟨a2, c2, rfl, q1, q2, q3⟩ := h2
  by_cases hlen : l.length = m.length
  · by_cases h0 : l.length = 0
    · have e1 : l = [] := List.eq_nil_of_length_eq_zero h0
      have e2 : m = [] := List.eq_nil_of_length_eq_zero (by omega)
      subst e1; subst e2
      refine (Try.slices_Equal_string_empty a1 a2 c1 0 c2 w (by omega)).mono fun _ _ ⟨he, hw⟩ => ⟨he, ?_⟩
      subst hw; exact Below.refl _ _
    · obtain ⟨g1, o1, rfl, _, k1⟩ := p3 (by omega)
      obtain ⟨g2, o2, rfl, _, k2⟩ := q3 (by omega)
      refine (Try.slices_Equal_string g1 o1 l.length c1 g2 o2 m.length c2 (bas l) (bas m) w (by rw [bas_len]; exact Nat.le_refl _) (by rw [bas_len]; exact Nat.le_refl _) (by omega) (by omega) (bas_cellR k1) (bas_cellR k2)).mono fun _ _ ⟨he, q, hw⟩ => ⟨?_, ?_⟩
      · rw [he]
        refine ret_bool ?_
        rw [List.take_of_length_le (by rw [bas_len]; exact Nat.le_refl _), List.take_of_length_le (by rw [bas_len]; exact Nat.le_refl _)]
        exact decide_eq_decide.2 (bas_inj l m)
      · rw [hw]; exact below_drewN (Below.refl _ _) q
  · refine (Try.slices_Equal_string_lens a1 a2 l.length c1 m.length c2 w hlen).mono fun _ _ ⟨he, hw⟩ => ⟨?_, ?_⟩
    · rw [he]
      refine ret_bool (decide_eq_false ?_).symm
      intro e; rw [e] at hlen; exact hlen rfl
    · subst hw; exact Below.refl _ _

theorem eqR_yes (l : List Str) (v1 v2 : Value) (w : World) (h1 : RdS w v1 l) (h2 : RdS w v2 l) (hl : l.length ≤ 1000000) :
    Calls Try.prog 15 #[v1, v2] w fun e w' => e = .returned (.bool true) ∧ Below w.heap.size w w' :=
  (eqR_any l l v1 v2 w h1 h2 hl hl).mono fun _ _ ⟨he, hb⟩ => ⟨by rw [he]; exact ret_bool (decide_eq_true rfl), hb⟩

set_option maxRecDepth 100000 in
set_option maxHeartbeats 2000000 in
theorem tells_any (v : Value) (l : List Str) (w : World) (h : ArgS w v l) : Calls Try.prog 3 #[v] w (TrueB w) := by
  have HA := Lib.hid h
  have HL := Lib.hid (fewL_sizes l)
  have H8 := fewL_len l
  have hvs : ∃ a n c, v = .slice a n c := by
    rcases h with ⟨rfl, _⟩ | ⟨a, n, c, _, rfl, _⟩
    · exact ⟨_, _, _, rfl⟩
    · exact ⟨_, _, _, rfl⟩
  obtain ⟨a0, n0, c0, rfl⟩ := hvs
  obtain ⟨n, hn⟩ : ∃ n, (fewL l).length = n := ⟨_, rfl⟩
  have HN := Lib.hid hn
  rw [hn] at H8
  clear h hn
  go_enter Try.func3, Try.ntmps3
  go_wp2_with fail
  refine (wakes_any _).mono ?_
  rintro e w1 ⟨rfl, hb1⟩
  go_wp2_with fail
  refine (few_any _ l _ (HA.out.below hb1)).mono ?_
  rintro e w2 ⟨v, rfl, hrow, hb⟩
  have hb2 := chn hb1 hb
  obtain ⟨a1, c1, rfl, _, _, h4⟩ := RdS.of_own hrow
  have HR := Lib.hid h4
  rw [HN.out]
  clear hb1 hb hrow h4
  go_wp2
  go_loopw [14] (fun i wr => ∃ k : Nat, k ≤ n ∧ i = .int .i64 k ∧ Hid (Below w2.heap.size w2 wr)) (fun i _ => n - (intOf i).toNat)
  case atStart => exact ⟨0, Nat.zero_le _, rfl, Below.refl _ _⟩
  case round =>
    obtain ⟨k, hk, rfl, HB0⟩ := hrel
    by_cases hlt : k < n
    · obtain ⟨x, hx⟩ : ∃ x, (fewL l)[k]? = some x := ⟨_, List.getElem?_eq_getElem (by have := HN.out; omega)⟩
      obtain ⟨g, o, rfl, hg, hc⟩ := HR.out (by have := HN.out; omega)
      have hcx := (HB0.out.cell (p := ⟨g, o + k, none⟩) hg).trans (hc k x hx)
      have hxz := HL.out x (List.mem_of_getElem? hx)
      obtain ⟨p, rfl⟩ : ∃ p : ByteArray, x = p.data.toList := ⟨⟨x.toArray⟩, rfl⟩
      have hp1 : p.size ≤ 1000000 := by have : p.data.toList.length = p.size := rfl; omega
      have hp2 : p.size ≤ 140737488355328 := by omega
      have hp3 : p.size ≤ 9223372036854775807 := by omega
      have hcx' : wr.cell? ⟨g, o + k, none⟩ = some (.string p) := hcx
      have hb0 := HB0.out
      clear hc hg hx hxz hcx HB0
      by_cases hv : validB p.data.toList = true
      · have HV := Lib.hid hv
        have hlen : (namesL p.data.toList).length ≤ 1000000 := by have := (valid_names _ hv).1; omega
        clear hv
        go_wp2_with fail
        refine (names_yes p hp2 HV.out _).mono ?_
        rintro e w3 ⟨v, rfl, hrow, hb⟩
        have hr1 := RdS.of_own hrow
        have hb1 := chn hb0 hb
        clear hb hrow hb0
        go_wp2_with fail
        refine ((rnames_any p hp1 _).1 HV.out).mono ?_
        rintro e w4 ⟨v', rfl, hr2, hb⟩
        have hr1 := hr1.below hb
        have hb1 := chn hb1 hb
        clear hb
        obtain ⟨m, hm⟩ : ∃ m, namesL p.data.toList = m := ⟨_, rfl⟩
        rw [hm] at hr1 hr2 hlen
        obtain ⟨a3, c3, rfl, _⟩ := hr1.slice
        obtain ⟨a4, c4, rfl, _⟩ := hr2.slice
        obtain ⟨bn, hbn⟩ : ∃ bn, nameB p.data.toList = bn := ⟨_, rfl⟩
        go_wp2_with fail
        refine (name_any p _).mono ?_
        rintro e w5 ⟨rfl, hb⟩
        have hb1 := chn hb1 hb
        rw [hbn]
        have hr1 := hr1.below hb
        have hr2 := hr2.below hb
        clear hb
        go_wp2_with fail
        refine (rname_any p hp3 _).mono ?_
        rintro e w6 ⟨rfl, rfl⟩
        rw [hbn]
        go_wp2_with fail
        refine (eqR_yes m _ _ _ hr1 hr2 hlen).mono ?_
        rintro e w7 ⟨rfl, hb⟩
        have hb1 := chn hb1 hb
        clear hb
        go_wp2_with fail
        refine (b_check p hp2 _ HV.out _).mono ?_
        rintro e w8 ⟨rfl, hb⟩
        rw [show errB true = 0 from rfl]
        have hb1 := chn hb1 hb
        clear hb
        obtain ⟨up, hup⟩ : ∃ up, upL p.data.toList = up := ⟨_, rfl⟩
        obtain ⟨ba, hba⟩ : ∃ ba, baseL p.data.toList = ba := ⟨_, rfl⟩
        go_wp2_with fail
        refine (up_any p hp2 _).mono ?_
        rintro e w9 ⟨rfl, hb⟩
        have hb1 := chn hb1 hb
        rw [hup]
        clear hb
        go_wp2_with fail
        refine (rup_any p hp1 _).mono ?_
        rintro e w10 ⟨rfl, hb⟩
        have hb1 := chn hb1 hb
        rw [hup]
        clear hb
        go_wp2_with fail
        refine (base_any p hp2 _).mono ?_
        rintro e w11 ⟨rfl, hb⟩
        have hb1 := chn hb1 hb
        rw [hba]
        clear hb
        go_wp2_with fail
        refine (rbase_any p hp1 _).mono ?_
        rintro e w12 ⟨rfl, hb⟩
        have hb1 := chn hb1 hb
        rw [hba]
        clear hb
        go_wp2
        go_roundw
        case rel => exact ⟨k + 1, hlt, by go_num, hb1⟩
        case measure => simp [intOf]; omega
      · have HV := Lib.hid (Bool.eq_false_iff.2 hv)
        clear hv
        go_wp2_with fail
        refine (names_no p hp2 HV.out _).mono ?_
        rintro e w3 ⟨rfl, hb⟩
        have hb1 := chn hb0 hb
        clear hb hb0
        go_wp2_with fail
        refine ((rnames_any p hp1 _).2 HV.out).mono ?_
        rintro e w4 ⟨rfl, hb⟩
        have hb1 := chn hb1 hb
        clear hb
        obtain ⟨bn, hbn⟩ : ∃ bn, nameB p.data.toList = bn := ⟨_, rfl⟩
        go_wp2_with fail
        refine (name_any p _).mono ?_
        rintro e w5 ⟨rfl, hb⟩
        have hb1 := chn hb1 hb
        rw [hbn]
        clear hb
        go_wp2_with fail
        refine (rname_any p hp3 _).mono ?_
        rintro e w6 ⟨rfl, rfl⟩
        rw [hbn]
        go_wp2_with fail
        refine (eqR_yes [] _ _ _ (RdS.nil _) (RdS.nil _) (by simp)).mono ?_
        rintro e w7 ⟨rfl, hb⟩
        have hb1 := chn hb1 hb
        clear hb
        go_wp2_with fail
        refine (b_check p hp2 _ HV.out _).mono ?_
        rintro e w8 ⟨rfl, hb⟩
        rw [show errB false = 110 from rfl]
        have hb1 := chn hb1 hb
        clear hb
        obtain ⟨up, hup⟩ : ∃ up, upL p.data.toList = up := ⟨_, rfl⟩
        obtain ⟨ba, hba⟩ : ∃ ba, baseL p.data.toList = ba := ⟨_, rfl⟩
        go_wp2_with fail
        refine (up_any p hp2 _).mono ?_
        rintro e w9 ⟨rfl, hb⟩
        have hb1 := chn hb1 hb
        rw [hup]
        clear hb
        go_wp2_with fail
        refine (rup_any p hp1 _).mono ?_
        rintro e w10 ⟨rfl, hb⟩
        have hb1 := chn hb1 hb
        rw [hup]
        clear hb
        go_wp2_with fail
        refine (base_any p hp2 _).mono ?_
        rintro e w11 ⟨rfl, hb⟩
        have hb1 := chn hb1 hb
        rw [hba]
        clear hb
        go_wp2_with fail
        refine (rbase_any p hp1 _).mono ?_
        rintro e w12 ⟨rfl, hb⟩
        have hb1 := chn hb1 hb
        rw [hba]
        clear hb
        go_wp2
        go_roundw
        case rel => exact ⟨k + 1, hlt, by go_num, hb1⟩
        case measure => simp [intOf]; omega
    · go_wp2
      go_ret
      exact ⟨rfl, hb2.trans (HB0.out.mono hb2.size)⟩
end Go.Proofs.Ytjnmlhmlcbbafaa
