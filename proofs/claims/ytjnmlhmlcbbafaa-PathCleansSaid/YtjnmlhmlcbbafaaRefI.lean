/- Proved here: Clean of puncheonref01 for a text that does not begin with a slash. -/
import Derived.Test.YtjnmlhmlcbbafaaRefH
namespace Go.Proofs.Ytjnmlhmlcbbafaa
open Go.RowKit Go.Shelf

set_option maxRecDepth 100000 in
set_option maxHeartbeats 8000000 in
theorem rcl_root_e (s : ByteArray) (hs0 : s.size = 0) (w : World) :
    Calls Try.prog 25 #[.string ⟨#[47]⟩, .string s] w (RclPost (goW [] (cutP s.data.toList)) w) := by
  have HSZ : Hid (s.size ≤ 1000000) := show s.size ≤ _ by omega
  have hs2 : ¬ (0 : Int) < (s.size : Int) := by omega
  obtain ⟨o, ho⟩ : ∃ o, goW [] (cutP s.data.toList) = o := ⟨_, rfl⟩
  rw [ho]
  have HRES : Hid (∀ P, cutP s.data.toList = P → goW [] P = o) := fun P e => by rw [← e]; exact ho
  obtain ⟨i0, hi, hz0, hz1, hz2⟩ := info_parts info9
  clear ho
  go_enter Try.func25, Try.ntmps25
  go_wp2_with fail
  refine (rnames_root0 _).mono ?_
  rintro e w1 ⟨rfl, rfl⟩
  have hb1 : Below w.heap.size w w := Below.refl _ _
  go_wp2_with fail
  refine (rcut_any s HSZ.out _).mono ?_
  rintro e wc ⟨vc, rfl, hrow, hbc⟩
  obtain ⟨P, hP⟩ : ∃ P, cutP s.data.toList = P := ⟨_, rfl⟩
  rw [hP] at hrow
  obtain ⟨gc, cc, rfl, hgB, hglt⟩ := hrow.form (List.length_pos_iff.2 (by rw [← hP]; exact cutP_ne _))
  obtain ⟨np, hnp⟩ : ∃ np, P.length = np := ⟨_, rfl⟩
  have HPZ : Hid (∀ x ∈ P, x.length ≤ 1000000) := fun x hx => Nat.le_trans (part_len _ x (by rw [hP]; exact hx)) HSZ.out
  have HO : Hid (OutS w wc gc np cc P (.slice none 0 0) []) := by
    refine ⟨owns_below (World.ownsRow_nil w w.heap.size 9 1 : w.ownsRow w.heap.size 9 1 (.slice none 0 0) ([] : List Str).length (([] : List Str).map encS)) hbc, ?_, ?_, chn hb1 hbc⟩
    · intro e
      have := ((World.ownsRow_nil w w.heap.size 9 1 : w.ownsRow w.heap.size 9 1 (.slice none 0 0) ([] : List Str).length (([] : List Str).map encS))).lt gc e
      omega
    · rw [hnp] at hrow
      exact owns_low hrow (hb1).size
  have HP := Lib.hid hP
  have HNP := Lib.hid hnp
  have hnp1 : np ≤ 1000001 := by
    have h1 := cutP_len s.data.toList
    rw [hP, hnp] at h1
    have h2 : s.data.toList.length ≤ 1000000 := HSZ.out
    omega
  rw [hnp]
  clear hP hnp hrow hbc hgB hglt
  go_wp2
  go_loopw [8, 32] (fun v i wr => ∃ (k : Nat) (cur : List Str) (n : Nat) (ad : Option Addr) (cp : Nat), v = .slice ad n cp ∧ k ≤ np ∧ i = .int .i64 k ∧ Hid (cur.length = n) ∧ n ≤ 40 ∧ Hid (goW [] (P.take k) = some cur) ∧ Hid (partsB cur = true) ∧ Hid (OutS w wr gc np cc P (.slice ad n cp) cur)) (fun _ i _ => np - (intOf i).toNat)
  case atStart => exact ⟨0, [], 0, none, 0, rfl, Nat.zero_le _, rfl, rfl, Nat.zero_le _, by rw [List.take_zero]; rfl, rfl, HO⟩
  case round =>
    clear HO
    obtain ⟨k, cur, n, ad, cp, rfl, hk, rfl, HN, hn40, HG, HPB, HO⟩ := hrel
    by_cases hlt : k < np
    · obtain ⟨x, hx⟩ : ∃ x, P[k]? = some x := ⟨_, List.getElem?_eq_getElem (by have := HNP.out; omega)⟩
      have hcx : wr.cell? ⟨gc, k, none⟩ = some (.string ⟨x.toArray⟩) := own_cell HO.out.row k (encS x) (by rw [List.getElem?_map, hx]; rfl)
      have hxz := HPZ.out x (List.mem_of_getElem? hx)
      have HT := Lib.hid (take_get P k x hx)
      clear hx
      by_cases h0 : x = []
      · have HG2 : Hid (goW [] (P.take (k + 1)) = some cur) := by
          show _ = _
          rw [HT.out, goW_snoc, HG.out, stepW_skip _ _ (.inl h0)]
        subst h0
        go_wp2
        go_roundw
        case rel => exact ⟨k + 1, cur, n, ad, cp, rfl, hlt, by go_num, HN, hn40, HG2, HPB, HO⟩
        case measure => simp [intOf]; omega
      · by_cases h1 : x = [46]
        · have HG2 : Hid (goW [] (P.take (k + 1)) = some cur) := by
            show _ = _
            rw [HT.out, goW_snoc, HG.out, stepW_skip _ _ (.inr h1)]
          subst h1
          clear h0
          go_wp2
          go_roundw
          case rel => exact ⟨k + 1, cur, n, ad, cp, rfl, hlt, by go_num, HN, hn40, HG2, HPB, HO⟩
          case measure => simp [intOf]; omega
        · by_cases h2 : x = [46, 46]
          · have HG2 : Hid (goW [] (P.take (k + 1)) = some cur.dropLast) := by
              show _ = _
              rw [HT.out, goW_snoc, HG.out, h2, stepW_up]
            subst h2
            clear h0 h1
            cases n with
            | zero =>
              have e0 : cur = [] := List.eq_nil_of_length_eq_zero HN.out
              rw [e0] at HG2
              subst e0
              go_wp2
              go_roundw
              case rel => exact ⟨k + 1, [], 0, ad, cp, rfl, hlt, by go_num, rfl, Nat.zero_le _, HG2, HPB, HO⟩
              case measure => simp [intOf]; omega
            | succ m =>
              obtain ⟨g, cap, he, _, _⟩ := HO.out.own.form (by have := HN.out; omega)
              rw [HN.out] at he
              injection he with e1 _ e3
              subst e1; subst e3
              have hcap : m + 1 ≤ cp := by
                rcases HO.out.own.2 with ⟨q, _⟩ | ⟨_, _, _, hv, _, _, hnc, _⟩
                · cases q
                · injection hv with _ q1 q2
                  have := HN.out
                  rw [q2]
                  omega
              have HO2 := Lib.hid HO.out.popped
              have HN2 : Hid (cur.dropLast.length = m) := by show _ = _; rw [List.length_dropLast, HN.out]; rfl
              have HPB2 := Lib.hid (parts_dropLast _ HPB.out)
              have q1 : IntKind.i64.wrap (((m + 1 : Nat) : Int) - 1) = (m : Int) := by rw [IntWalk.i64_in _ (by omega)]; omega
              have q2 : (0 : Int) ≤ (m : Int) := by omega
              have q3 : (m : Int) ≤ (cp : Int) := by omega
              go_wp2
              go_roundw
              case rel => exact ⟨k + 1, cur.dropLast, m, _, cp, rfl, hlt, by go_num, HN2, by omega, HG2, HPB2, HO2⟩
              case measure => simp [intOf]; omega
          · have f1 := isEmpty_no h0
            have f2 := beq_no h1
            have f3 := beq_no h2
            by_cases hbad : cur.length = 40 ∨ nameB x = false
            · have HG2 : Hid (goW [] P = none) := by
                refine goW_dead _ (P.take (k + 1)) _ ?_ (List.take_prefix _ _)
                rw [HT.out, goW_snoc, HG.out, stepW_no _ _ h0 h1 h2 hbad]
              have hbad' : n = 40 ∨ nameB x = false := by rw [← HN.out]; exact hbad
              clear h0 h1 h2 hbad
              obtain ⟨bn, hbn⟩ : ∃ bn, nameB x = bn := ⟨_, rfl⟩
              rw [hbn] at hbad'
              have HBN := Lib.hid hbn
              clear hbn
              cases bn
              · clear hbad'
                go_wp2_with fail
                refine (rname_any ⟨x.toArray⟩ (show x.length ≤ _ by omega) _).mono ?_
                rintro e wd ⟨rfl, rfl⟩
                rw [show nameB (⟨x.toArray⟩ : ByteArray).data.toList = false from HBN.out]
                go_wp2
                go_ret2
                exact rcl_none ((HRES.out P HP.out).symm.trans HG2.out) rfl HO.out.below
              · have hn : n = 40 := by rcases hbad' with h | h; exact h; cases h
                subst hn
                clear hbad'
                go_wp2_with fail
                refine (rname_any ⟨x.toArray⟩ (show x.length ≤ _ by omega) _).mono ?_
                rintro e wd ⟨rfl, rfl⟩
                rw [show nameB (⟨x.toArray⟩ : ByteArray).data.toList = true from HBN.out]
                go_wp2
                go_ret2
                exact rcl_none ((HRES.out P HP.out).symm.trans HG2.out) rfl HO.out.below
            · have hl : cur.length ≠ 40 := fun e => hbad (.inl e)
              have hnm : nameB x = true := by
                cases e : nameB x with
                | false => exact absurd (.inr e) hbad
                | true => rfl
              have HG2 : Hid (goW [] (P.take (k + 1)) = some (cur ++ [x])) := by
                show _ = _
                rw [HT.out, goW_snoc, HG.out, stepW_add _ _ hl hnm]
              have HPB2 := Lib.hid (parts_snoc _ _ HPB.out hl hnm)
              have HBN := Lib.hid hnm
              have hn39 : n < 40 := by have := HN.out; omega
              have q0 : ((n : Int) == 40) = false := by rw [beq_eq_false_iff_ne]; omega
              clear h0 h1 h2 hbad hl hnm
              go_wp2_with fail
              refine (rname_any ⟨x.toArray⟩ (show x.length ≤ _ by omega) _).mono ?_
              rintro e wd ⟨rfl, rfl⟩
              rw [show nameB (⟨x.toArray⟩ : ByteArray).data.toList = true from HBN.out]
              have HOW : Hid (wr.ownsRow w.heap.size 9 1 (.slice ad n cp) n (cur.map encS)) := by
                have := HO.out.own
                rwa [HN.out] at this
              go_wp2_with (at_builtin; refine wpList_append_own_at _ rfl _ _ 22 rfl w.heap.size 9 i0 (.string ⟨#[]⟩) 1 16 Try.underlying22 hi hz0 hz1 hz2 rfl (by decide) _ _ _ rfl (HOW.out.alloc _) ⟨wr.heap.size, 0, none⟩ 1 1 [.string ⟨x.toArray⟩] rfl rfl (cell_one_new _ _ _) (by simp [Value.oneCell']) (by unfold maxLen; omega) (by omega) (by have := HO.out.below.size; simp; omega) ?_; intro v' we hown' hgrow _ hat)
              obtain ⟨g', cap2, rfl⟩ := ownsRow_succ hown'
              have HO2 : Hid (OutS w we gc np cc P (.slice (some ⟨g', 0, none⟩) (n + 1) cap2) (cur ++ [x])) := by
                refine HO.out.appended ?_ hgrow hat
                rw [HN.out]
                exact hown'
              have HN2 : Hid ((cur ++ [x]).length = n + 1) := by show _ = _; rw [List.length_append, HN.out]; rfl
              clear hown' hgrow hat
              go_wp2
              go_roundw
              case rel => exact ⟨k + 1, cur ++ [x], n + 1, _, cap2, rfl, hlt, by go_num, HN2, by omega, HG2, HPB2, HO2⟩
              case measure => simp [intOf]; omega
    · have e : P.take k = P := List.take_of_length_le (by have := HNP.out; omega)
      have HG2 : Hid (goW [] P = some cur) := by have := HG.out; rwa [e] at this
      clear e
      have hrd : RdS wr (.slice ad n cp) cur := by
        have h1 := HO.out.own
        exact RdS.of_own h1
      have HRD := Lib.hid hrd
      clear hrd
      go_wp2_with fail
      refine (rjoin_any _ cur _ HRD.out (by have := HN.out; omega) (joinL_len _ HPB.out)).mono ?_
      rintro e wf ⟨rfl, rfl⟩
      go_wp2
      go_ret2
      exact rcl_some ((HRES.out P HP.out).symm.trans HG2.out) rfl HO.out.below

set_option maxRecDepth 100000 in
set_option maxHeartbeats 8000000 in
theorem rcl_root_s (s : ByteArray) (hs : s.size ≤ 2001) (hs0 : 0 < s.size) (hs1 : ((s[0].toNat : Int) == 47) = false) (w : World) :
    Calls Try.prog 25 #[.string ⟨#[47]⟩, .string s] w (RclPost (goW [] (cutP s.data.toList)) w) := by
  have HSZ : Hid (s.size ≤ 1000000) := show s.size ≤ _ by omega
  have hs2 : (0 : Int) < (s.size : Int) := by omega
  obtain ⟨o, ho⟩ : ∃ o, goW [] (cutP s.data.toList) = o := ⟨_, rfl⟩
  rw [ho]
  have HRES : Hid (∀ P, cutP s.data.toList = P → goW [] P = o) := fun P e => by rw [← e]; exact ho
  obtain ⟨i0, hi, hz0, hz1, hz2⟩ := info_parts info9
  clear ho
  go_enter Try.func25, Try.ntmps25
  go_wp2_with fail
  refine (rnames_root0 _).mono ?_
  rintro e w1 ⟨rfl, rfl⟩
  have hb1 : Below w.heap.size w w := Below.refl _ _
  go_wp2_with fail
  refine (rcut_any s HSZ.out _).mono ?_
  rintro e wc ⟨vc, rfl, hrow, hbc⟩
  obtain ⟨P, hP⟩ : ∃ P, cutP s.data.toList = P := ⟨_, rfl⟩
  rw [hP] at hrow
  obtain ⟨gc, cc, rfl, hgB, hglt⟩ := hrow.form (List.length_pos_iff.2 (by rw [← hP]; exact cutP_ne _))
  obtain ⟨np, hnp⟩ : ∃ np, P.length = np := ⟨_, rfl⟩
  have HPZ : Hid (∀ x ∈ P, x.length ≤ 1000000) := fun x hx => Nat.le_trans (part_len _ x (by rw [hP]; exact hx)) HSZ.out
  have HO : Hid (OutS w wc gc np cc P (.slice none 0 0) []) := by
    refine ⟨owns_below (World.ownsRow_nil w w.heap.size 9 1 : w.ownsRow w.heap.size 9 1 (.slice none 0 0) ([] : List Str).length (([] : List Str).map encS)) hbc, ?_, ?_, chn hb1 hbc⟩
    · intro e
      have := ((World.ownsRow_nil w w.heap.size 9 1 : w.ownsRow w.heap.size 9 1 (.slice none 0 0) ([] : List Str).length (([] : List Str).map encS))).lt gc e
      omega
    · rw [hnp] at hrow
      exact owns_low hrow (hb1).size
  have HP := Lib.hid hP
  have HNP := Lib.hid hnp
  have hnp1 : np ≤ 1000001 := by
    have h1 := cutP_len s.data.toList
    rw [hP, hnp] at h1
    have h2 : s.data.toList.length ≤ 1000000 := HSZ.out
    omega
  rw [hnp]
  clear hP hnp hrow hbc hgB hglt
  go_wp2
  go_loopw [8, 32] (fun v i wr => ∃ (k : Nat) (cur : List Str) (n : Nat) (ad : Option Addr) (cp : Nat), v = .slice ad n cp ∧ k ≤ np ∧ i = .int .i64 k ∧ Hid (cur.length = n) ∧ n ≤ 40 ∧ Hid (goW [] (P.take k) = some cur) ∧ Hid (partsB cur = true) ∧ Hid (OutS w wr gc np cc P (.slice ad n cp) cur)) (fun _ i _ => np - (intOf i).toNat)
  case atStart => exact ⟨0, [], 0, none, 0, rfl, Nat.zero_le _, rfl, rfl, Nat.zero_le _, by rw [List.take_zero]; rfl, rfl, HO⟩
  case round =>
    clear HO
    obtain ⟨k, cur, n, ad, cp, rfl, hk, rfl, HN, hn40, HG, HPB, HO⟩ := hrel
    by_cases hlt : k < np
    · obtain ⟨x, hx⟩ : ∃ x, P[k]? = some x := ⟨_, List.getElem?_eq_getElem (by have := HNP.out; omega)⟩
      have hcx : wr.cell? ⟨gc, k, none⟩ = some (.string ⟨x.toArray⟩) := own_cell HO.out.row k (encS x) (by rw [List.getElem?_map, hx]; rfl)
      have hxz := HPZ.out x (List.mem_of_getElem? hx)
      have HT := Lib.hid (take_get P k x hx)
      clear hx
      by_cases h0 : x = []
      · have HG2 : Hid (goW [] (P.take (k + 1)) = some cur) := by
          show _ = _
          rw [HT.out, goW_snoc, HG.out, stepW_skip _ _ (.inl h0)]
        subst h0
        go_wp2
        go_roundw
        case rel => exact ⟨k + 1, cur, n, ad, cp, rfl, hlt, by go_num, HN, hn40, HG2, HPB, HO⟩
        case measure => simp [intOf]; omega
      · by_cases h1 : x = [46]
        · have HG2 : Hid (goW [] (P.take (k + 1)) = some cur) := by
            show _ = _
            rw [HT.out, goW_snoc, HG.out, stepW_skip _ _ (.inr h1)]
          subst h1
          clear h0
          go_wp2
          go_roundw
          case rel => exact ⟨k + 1, cur, n, ad, cp, rfl, hlt, by go_num, HN, hn40, HG2, HPB, HO⟩
          case measure => simp [intOf]; omega
        · by_cases h2 : x = [46, 46]
          · have HG2 : Hid (goW [] (P.take (k + 1)) = some cur.dropLast) := by
              show _ = _
              rw [HT.out, goW_snoc, HG.out, h2, stepW_up]
            subst h2
            clear h0 h1
            cases n with
            | zero =>
              have e0 : cur = [] := List.eq_nil_of_length_eq_zero HN.out
              rw [e0] at HG2
              subst e0
              go_wp2
              go_roundw
              case rel => exact ⟨k + 1, [], 0, ad, cp, rfl, hlt, by go_num, rfl, Nat.zero_le _, HG2, HPB, HO⟩
              case measure => simp [intOf]; omega
            | succ m =>
              obtain ⟨g, cap, he, _, _⟩ := HO.out.own.form (by have := HN.out; omega)
              rw [HN.out] at he
              injection he with e1 _ e3
              subst e1; subst e3
              have hcap : m + 1 ≤ cp := by
                rcases HO.out.own.2 with ⟨q, _⟩ | ⟨_, _, _, hv, _, _, hnc, _⟩
                · cases q
                · injection hv with _ q1 q2
                  have := HN.out
                  rw [q2]
                  omega
              have HO2 := Lib.hid HO.out.popped
              have HN2 : Hid (cur.dropLast.length = m) := by show _ = _; rw [List.length_dropLast, HN.out]; rfl
              have HPB2 := Lib.hid (parts_dropLast _ HPB.out)
              have q1 : IntKind.i64.wrap (((m + 1 : Nat) : Int) - 1) = (m : Int) := by rw [IntWalk.i64_in _ (by omega)]; omega
              have q2 : (0 : Int) ≤ (m : Int) := by omega
              have q3 : (m : Int) ≤ (cp : Int) := by omega
              go_wp2
              go_roundw
              case rel => exact ⟨k + 1, cur.dropLast, m, _, cp, rfl, hlt, by go_num, HN2, by omega, HG2, HPB2, HO2⟩
              case measure => simp [intOf]; omega
          · have f1 := isEmpty_no h0
            have f2 := beq_no h1
            have f3 := beq_no h2
            by_cases hbad : cur.length = 40 ∨ nameB x = false
            · have HG2 : Hid (goW [] P = none) := by
                refine goW_dead _ (P.take (k + 1)) _ ?_ (List.take_prefix _ _)
                rw [HT.out, goW_snoc, HG.out, stepW_no _ _ h0 h1 h2 hbad]
              have hbad' : n = 40 ∨ nameB x = false := by rw [← HN.out]; exact hbad
              clear h0 h1 h2 hbad
              obtain ⟨bn, hbn⟩ : ∃ bn, nameB x = bn := ⟨_, rfl⟩
              rw [hbn] at hbad'
              have HBN := Lib.hid hbn
              clear hbn
              cases bn
              · clear hbad'
                go_wp2_with fail
                refine (rname_any ⟨x.toArray⟩ (show x.length ≤ _ by omega) _).mono ?_
                rintro e wd ⟨rfl, rfl⟩
                rw [show nameB (⟨x.toArray⟩ : ByteArray).data.toList = false from HBN.out]
                go_wp2
                go_ret2
                exact rcl_none ((HRES.out P HP.out).symm.trans HG2.out) rfl HO.out.below
              · have hn : n = 40 := by rcases hbad' with h | h; exact h; cases h
                subst hn
                clear hbad'
                go_wp2_with fail
                refine (rname_any ⟨x.toArray⟩ (show x.length ≤ _ by omega) _).mono ?_
                rintro e wd ⟨rfl, rfl⟩
                rw [show nameB (⟨x.toArray⟩ : ByteArray).data.toList = true from HBN.out]
                go_wp2
                go_ret2
                exact rcl_none ((HRES.out P HP.out).symm.trans HG2.out) rfl HO.out.below
            · have hl : cur.length ≠ 40 := fun e => hbad (.inl e)
              have hnm : nameB x = true := by
                cases e : nameB x with
                | false => exact absurd (.inr e) hbad
                | true => rfl
              have HG2 : Hid (goW [] (P.take (k + 1)) = some (cur ++ [x])) := by
                show _ = _
                rw [HT.out, goW_snoc, HG.out, stepW_add _ _ hl hnm]
              have HPB2 := Lib.hid (parts_snoc _ _ HPB.out hl hnm)
              have HBN := Lib.hid hnm
              have hn39 : n < 40 := by have := HN.out; omega
              have q0 : ((n : Int) == 40) = false := by rw [beq_eq_false_iff_ne]; omega
              clear h0 h1 h2 hbad hl hnm
              go_wp2_with fail
              refine (rname_any ⟨x.toArray⟩ (show x.length ≤ _ by omega) _).mono ?_
              rintro e wd ⟨rfl, rfl⟩
              rw [show nameB (⟨x.toArray⟩ : ByteArray).data.toList = true from HBN.out]
              have HOW : Hid (wr.ownsRow w.heap.size 9 1 (.slice ad n cp) n (cur.map encS)) := by
                have := HO.out.own
                rwa [HN.out] at this
              go_wp2_with (at_builtin; refine wpList_append_own_at _ rfl _ _ 22 rfl w.heap.size 9 i0 (.string ⟨#[]⟩) 1 16 Try.underlying22 hi hz0 hz1 hz2 rfl (by decide) _ _ _ rfl (HOW.out.alloc _) ⟨wr.heap.size, 0, none⟩ 1 1 [.string ⟨x.toArray⟩] rfl rfl (cell_one_new _ _ _) (by simp [Value.oneCell']) (by unfold maxLen; omega) (by omega) (by have := HO.out.below.size; simp; omega) ?_; intro v' we hown' hgrow _ hat)
              obtain ⟨g', cap2, rfl⟩ := ownsRow_succ hown'
              have HO2 : Hid (OutS w we gc np cc P (.slice (some ⟨g', 0, none⟩) (n + 1) cap2) (cur ++ [x])) := by
                refine HO.out.appended ?_ hgrow hat
                rw [HN.out]
                exact hown'
              have HN2 : Hid ((cur ++ [x]).length = n + 1) := by show _ = _; rw [List.length_append, HN.out]; rfl
              clear hown' hgrow hat
              go_wp2
              go_roundw
              case rel => exact ⟨k + 1, cur ++ [x], n + 1, _, cap2, rfl, hlt, by go_num, HN2, by omega, HG2, HPB2, HO2⟩
              case measure => simp [intOf]; omega
    · have e : P.take k = P := List.take_of_length_le (by have := HNP.out; omega)
      have HG2 : Hid (goW [] P = some cur) := by have := HG.out; rwa [e] at this
      clear e
      have hrd : RdS wr (.slice ad n cp) cur := by
        have h1 := HO.out.own
        exact RdS.of_own h1
      have HRD := Lib.hid hrd
      clear hrd
      go_wp2_with fail
      refine (rjoin_any _ cur _ HRD.out (by have := HN.out; omega) (joinL_len _ HPB.out)).mono ?_
      rintro e wf ⟨rfl, rfl⟩
      go_wp2
      go_ret2
      exact rcl_some ((HRES.out P HP.out).symm.trans HG2.out) rfl HO.out.below

set_option maxRecDepth 100000 in
set_option maxHeartbeats 8000000 in
theorem rcl_rel_e (a : ByteArray) (ha : a.size ≤ 1000000) (hv : validB a.data.toList = true) (hr : a.data.toList ≠ [47]) (s : ByteArray) (hs0 : s.size = 0) (w : World) :
    Calls Try.prog 25 #[.string a, .string s] w (RclPost (goW (namesL a.data.toList) (cutP s.data.toList)) w) := by
  have HSZ : Hid (s.size ≤ 1000000) := show s.size ≤ _ by omega
  have hs2 : ¬ (0 : Int) < (s.size : Int) := by omega
  obtain ⟨L, hL⟩ : ∃ L, namesL a.data.toList = L := ⟨_, rfl⟩
  have hL0 : L ≠ [] := fun e => hr ((names_root _ hv).1 (hL.trans e))
  have HPB0 : Hid (partsB L = true) := by show _ = _; rw [← hL]; exact (valid_join _ hv).2
  have HC1 : Hid (∀ W, Calls Try.prog 12 #[.string a] W (RYes L W)) := fun W => by rw [← hL]; exact (rnames_any a ha W).1 hv
  obtain ⟨n1, hn1⟩ : ∃ n, L.length = n := ⟨_, rfl⟩
  have hn140 : n1 ≤ 40 := by rw [← hn1]; exact ((parts_iff _).1 HPB0.out).1
  have hn10 : 0 < n1 := by rw [← hn1]; exact List.length_pos_iff.2 hL0
  have HN1 := Lib.hid hn1
  rw [hL]
  obtain ⟨o, ho⟩ : ∃ o, goW L (cutP s.data.toList) = o := ⟨_, rfl⟩
  rw [ho]
  have HRES : Hid (∀ P, cutP s.data.toList = P → goW L P = o) := fun P e => by rw [← e]; exact ho
  obtain ⟨i0, hi, hz0, hz1, hz2⟩ := info_parts info9
  clear ho hL hL0 hn1 hv hr
  go_enter Try.func25, Try.ntmps25
  go_wp2_with fail
  refine (HC1.out _).mono ?_
  rintro e wn ⟨v1, rfl, hr1, hbn⟩
  obtain ⟨a1, c1, rfl, _⟩ := hr1.slice
  rw [HN1.out] at hr1 ⊢
  obtain ⟨g1, o1, rfl, _, hcs⟩ := hr1.cells (by have := HN1.out; omega)
  obtain ⟨T, hT⟩ : ∃ T : List Value, T = L.map encS := ⟨_, rfl⟩
  have H3 : Hid (T.length = n1) := by show _ = _; rw [hT, List.length_map, HN1.out]
  have H2 : Hid (∀ u ∈ T, u.oneCell' = true) := by intro u hu; rw [hT] at hu; obtain ⟨x, _, rfl⟩ := List.mem_map.1 hu; simp [encS, Value.oneCell']
  have H4 : Hid (T = L.map encS) := hT
  have H1 : Hid (∀ j u, T[j]? = some u → wn.cell? ((⟨g1, o1, none⟩ : Addr).add j) = some u) := by
    intro j u hj
    rw [hT, List.getElem?_map] at hj
    obtain ⟨x, hx, rfl⟩ := Option.map_eq_some_iff.1 hj
    rw [add_off]
    exact hcs j x hx
  have HBN := Lib.hid hbn
  clear hT hr1 hcs hbn
  go_wp2_with (first | (go_at_call 35; fail) | (at_builtin; refine wpList_append_own _ rfl _ _ 22 rfl w.heap.size 9 i0 (.string ⟨#[]⟩) 1 16 Try.underlying22 hi hz0 hz1 hz2 rfl (by decide) _ 0 [] rfl (World.ownsRow_nil _ _ _ _) ⟨g1, o1, none⟩ n1 c1 T rfl (by rw [H3.out, Nat.mul_one]) H1.out H2.out (by unfold maxLen; omega) (by omega) HBN.out.size ?_; intro v' w1 hown' hgrow _))
  have hown : w1.ownsRow w.heap.size 9 1 v' L.length (L.map encS) := by
    rw [Nat.zero_add, List.nil_append, H4.out] at hown'
    rw [HN1.out]; exact hown'
  have hb1 : Below w.heap.size w w1 := HBN.out.grown hgrow HBN.out.size (fun j ej => by cases (show (none : Option Nat) = some j from ej))
  obtain ⟨ad0, cp0, rfl⟩ := own_len hown
  rw [HN1.out] at hown
  have HOWN := Lib.hid hown
  have HB1 := Lib.hid hb1
  rw [HN1.out]
  clear hown' hgrow hown hb1
  go_wp2_with fail
  refine (rcut_any s HSZ.out _).mono ?_
  rintro e wc ⟨vc, rfl, hrow, hbc⟩
  obtain ⟨P, hP⟩ : ∃ P, cutP s.data.toList = P := ⟨_, rfl⟩
  rw [hP] at hrow
  obtain ⟨gc, cc, rfl, hgB, hglt⟩ := hrow.form (List.length_pos_iff.2 (by rw [← hP]; exact cutP_ne _))
  obtain ⟨np, hnp⟩ : ∃ np, P.length = np := ⟨_, rfl⟩
  have HPZ : Hid (∀ x ∈ P, x.length ≤ 1000000) := fun x hx => Nat.le_trans (part_len _ x (by rw [hP]; exact hx)) HSZ.out
  have HO : Hid (OutS w wc gc np cc P (.slice ad0 n1 cp0) L) := by
    refine ⟨owns_below (HN1.out.symm ▸ HOWN.out : w1.ownsRow w.heap.size 9 1 (.slice ad0 n1 cp0) L.length (L.map encS)) hbc, ?_, ?_, chn HB1.out hbc⟩
    · intro e
      have := ((HN1.out.symm ▸ HOWN.out : w1.ownsRow w.heap.size 9 1 (.slice ad0 n1 cp0) L.length (L.map encS))).lt gc e
      omega
    · rw [hnp] at hrow
      exact owns_low hrow (HB1.out).size
  have HP := Lib.hid hP
  have HNP := Lib.hid hnp
  have hnp1 : np ≤ 1000001 := by
    have h1 := cutP_len s.data.toList
    rw [hP, hnp] at h1
    have h2 : s.data.toList.length ≤ 1000000 := HSZ.out
    omega
  rw [hnp]
  clear hP hnp hrow hbc hgB hglt
  go_wp2
  go_loopw [8, 32] (fun v i wr => ∃ (k : Nat) (cur : List Str) (n : Nat) (ad : Option Addr) (cp : Nat), v = .slice ad n cp ∧ k ≤ np ∧ i = .int .i64 k ∧ Hid (cur.length = n) ∧ n ≤ 40 ∧ Hid (goW L (P.take k) = some cur) ∧ Hid (partsB cur = true) ∧ Hid (OutS w wr gc np cc P (.slice ad n cp) cur)) (fun _ i _ => np - (intOf i).toNat)
  case atStart => exact ⟨0, L, n1, ad0, cp0, rfl, Nat.zero_le _, rfl, HN1, hn140, by rw [List.take_zero]; rfl, HPB0, HO⟩
  case round =>
    clear HO
    obtain ⟨k, cur, n, ad, cp, rfl, hk, rfl, HN, hn40, HG, HPB, HO⟩ := hrel
    by_cases hlt : k < np
    · obtain ⟨x, hx⟩ : ∃ x, P[k]? = some x := ⟨_, List.getElem?_eq_getElem (by have := HNP.out; omega)⟩
      have hcx : wr.cell? ⟨gc, k, none⟩ = some (.string ⟨x.toArray⟩) := own_cell HO.out.row k (encS x) (by rw [List.getElem?_map, hx]; rfl)
      have hxz := HPZ.out x (List.mem_of_getElem? hx)
      have HT := Lib.hid (take_get P k x hx)
      clear hx
      by_cases h0 : x = []
      · have HG2 : Hid (goW L (P.take (k + 1)) = some cur) := by
          show _ = _
          rw [HT.out, goW_snoc, HG.out, stepW_skip _ _ (.inl h0)]
        subst h0
        go_wp2
        go_roundw
        case rel => exact ⟨k + 1, cur, n, ad, cp, rfl, hlt, by go_num, HN, hn40, HG2, HPB, HO⟩
        case measure => simp [intOf]; omega
      · by_cases h1 : x = [46]
        · have HG2 : Hid (goW L (P.take (k + 1)) = some cur) := by
            show _ = _
            rw [HT.out, goW_snoc, HG.out, stepW_skip _ _ (.inr h1)]
          subst h1
          clear h0
          go_wp2
          go_roundw
          case rel => exact ⟨k + 1, cur, n, ad, cp, rfl, hlt, by go_num, HN, hn40, HG2, HPB, HO⟩
          case measure => simp [intOf]; omega
        · by_cases h2 : x = [46, 46]
          · have HG2 : Hid (goW L (P.take (k + 1)) = some cur.dropLast) := by
              show _ = _
              rw [HT.out, goW_snoc, HG.out, h2, stepW_up]
            subst h2
            clear h0 h1
            cases n with
            | zero =>
              have e0 : cur = [] := List.eq_nil_of_length_eq_zero HN.out
              rw [e0] at HG2
              subst e0
              go_wp2
              go_roundw
              case rel => exact ⟨k + 1, [], 0, ad, cp, rfl, hlt, by go_num, rfl, Nat.zero_le _, HG2, HPB, HO⟩
              case measure => simp [intOf]; omega
            | succ m =>
              obtain ⟨g, cap, he, _, _⟩ := HO.out.own.form (by have := HN.out; omega)
              rw [HN.out] at he
              injection he with e1 _ e3
              subst e1; subst e3
              have hcap : m + 1 ≤ cp := by
                rcases HO.out.own.2 with ⟨q, _⟩ | ⟨_, _, _, hv, _, _, hnc, _⟩
                · cases q
                · injection hv with _ q1 q2
                  have := HN.out
                  rw [q2]
                  omega
              have HO2 := Lib.hid HO.out.popped
              have HN2 : Hid (cur.dropLast.length = m) := by show _ = _; rw [List.length_dropLast, HN.out]; rfl
              have HPB2 := Lib.hid (parts_dropLast _ HPB.out)
              have q1 : IntKind.i64.wrap (((m + 1 : Nat) : Int) - 1) = (m : Int) := by rw [IntWalk.i64_in _ (by omega)]; omega
              have q2 : (0 : Int) ≤ (m : Int) := by omega
              have q3 : (m : Int) ≤ (cp : Int) := by omega
              go_wp2
              go_roundw
              case rel => exact ⟨k + 1, cur.dropLast, m, _, cp, rfl, hlt, by go_num, HN2, by omega, HG2, HPB2, HO2⟩
              case measure => simp [intOf]; omega
          · have f1 := isEmpty_no h0
            have f2 := beq_no h1
            have f3 := beq_no h2
            by_cases hbad : cur.length = 40 ∨ nameB x = false
            · have HG2 : Hid (goW L P = none) := by
                refine goW_dead _ (P.take (k + 1)) _ ?_ (List.take_prefix _ _)
                rw [HT.out, goW_snoc, HG.out, stepW_no _ _ h0 h1 h2 hbad]
              have hbad' : n = 40 ∨ nameB x = false := by rw [← HN.out]; exact hbad
              clear h0 h1 h2 hbad
              obtain ⟨bn, hbn⟩ : ∃ bn, nameB x = bn := ⟨_, rfl⟩
              rw [hbn] at hbad'
              have HBN := Lib.hid hbn
              clear hbn
              cases bn
              · clear hbad'
                go_wp2_with fail
                refine (rname_any ⟨x.toArray⟩ (show x.length ≤ _ by omega) _).mono ?_
                rintro e wd ⟨rfl, rfl⟩
                rw [show nameB (⟨x.toArray⟩ : ByteArray).data.toList = false from HBN.out]
                go_wp2
                go_ret2
                exact rcl_none ((HRES.out P HP.out).symm.trans HG2.out) rfl HO.out.below
              · have hn : n = 40 := by rcases hbad' with h | h; exact h; cases h
                subst hn
                clear hbad'
                go_wp2_with fail
                refine (rname_any ⟨x.toArray⟩ (show x.length ≤ _ by omega) _).mono ?_
                rintro e wd ⟨rfl, rfl⟩
                rw [show nameB (⟨x.toArray⟩ : ByteArray).data.toList = true from HBN.out]
                go_wp2
                go_ret2
                exact rcl_none ((HRES.out P HP.out).symm.trans HG2.out) rfl HO.out.below
            · have hl : cur.length ≠ 40 := fun e => hbad (.inl e)
              have hnm : nameB x = true := by
                cases e : nameB x with
                | false => exact absurd (.inr e) hbad
                | true => rfl
              have HG2 : Hid (goW L (P.take (k + 1)) = some (cur ++ [x])) := by
                show _ = _
                rw [HT.out, goW_snoc, HG.out, stepW_add _ _ hl hnm]
              have HPB2 := Lib.hid (parts_snoc _ _ HPB.out hl hnm)
              have HBN := Lib.hid hnm
              have hn39 : n < 40 := by have := HN.out; omega
              have q0 : ((n : Int) == 40) = false := by rw [beq_eq_false_iff_ne]; omega
              clear h0 h1 h2 hbad hl hnm
              go_wp2_with fail
              refine (rname_any ⟨x.toArray⟩ (show x.length ≤ _ by omega) _).mono ?_
              rintro e wd ⟨rfl, rfl⟩
              rw [show nameB (⟨x.toArray⟩ : ByteArray).data.toList = true from HBN.out]
              have HOW : Hid (wr.ownsRow w.heap.size 9 1 (.slice ad n cp) n (cur.map encS)) := by
                have := HO.out.own
                rwa [HN.out] at this
              go_wp2_with (at_builtin; refine wpList_append_own_at _ rfl _ _ 22 rfl w.heap.size 9 i0 (.string ⟨#[]⟩) 1 16 Try.underlying22 hi hz0 hz1 hz2 rfl (by decide) _ _ _ rfl (HOW.out.alloc _) ⟨wr.heap.size, 0, none⟩ 1 1 [.string ⟨x.toArray⟩] rfl rfl (cell_one_new _ _ _) (by simp [Value.oneCell']) (by unfold maxLen; omega) (by omega) (by have := HO.out.below.size; simp; omega) ?_; intro v' we hown' hgrow _ hat)
              obtain ⟨g', cap2, rfl⟩ := ownsRow_succ hown'
              have HO2 : Hid (OutS w we gc np cc P (.slice (some ⟨g', 0, none⟩) (n + 1) cap2) (cur ++ [x])) := by
                refine HO.out.appended ?_ hgrow hat
                rw [HN.out]
                exact hown'
              have HN2 : Hid ((cur ++ [x]).length = n + 1) := by show _ = _; rw [List.length_append, HN.out]; rfl
              clear hown' hgrow hat
              go_wp2
              go_roundw
              case rel => exact ⟨k + 1, cur ++ [x], n + 1, _, cap2, rfl, hlt, by go_num, HN2, by omega, HG2, HPB2, HO2⟩
              case measure => simp [intOf]; omega
    · have e : P.take k = P := List.take_of_length_le (by have := HNP.out; omega)
      have HG2 : Hid (goW L P = some cur) := by have := HG.out; rwa [e] at this
      clear e
      have hrd : RdS wr (.slice ad n cp) cur := by
        have h1 := HO.out.own
        exact RdS.of_own h1
      have HRD := Lib.hid hrd
      clear hrd
      go_wp2_with fail
      refine (rjoin_any _ cur _ HRD.out (by have := HN.out; omega) (joinL_len _ HPB.out)).mono ?_
      rintro e wf ⟨rfl, rfl⟩
      go_wp2
      go_ret2
      exact rcl_some ((HRES.out P HP.out).symm.trans HG2.out) rfl HO.out.below

set_option maxRecDepth 100000 in
set_option maxHeartbeats 8000000 in
theorem rcl_rel_s (a : ByteArray) (ha : a.size ≤ 1000000) (hv : validB a.data.toList = true) (hr : a.data.toList ≠ [47]) (s : ByteArray) (hs : s.size ≤ 2001) (hs0 : 0 < s.size) (hs1 : ((s[0].toNat : Int) == 47) = false) (w : World) :
    Calls Try.prog 25 #[.string a, .string s] w (RclPost (goW (namesL a.data.toList) (cutP s.data.toList)) w) := by
  have HSZ : Hid (s.size ≤ 1000000) := show s.size ≤ _ by omega
  have hs2 : (0 : Int) < (s.size : Int) := by omega
  obtain ⟨L, hL⟩ : ∃ L, namesL a.data.toList = L := ⟨_, rfl⟩
  have hL0 : L ≠ [] := fun e => hr ((names_root _ hv).1 (hL.trans e))
  have HPB0 : Hid (partsB L = true) := by show _ = _; rw [← hL]; exact (valid_join _ hv).2
  have HC1 : Hid (∀ W, Calls Try.prog 12 #[.string a] W (RYes L W)) := fun W => by rw [← hL]; exact (rnames_any a ha W).1 hv
  obtain ⟨n1, hn1⟩ : ∃ n, L.length = n := ⟨_, rfl⟩
  have hn140 : n1 ≤ 40 := by rw [← hn1]; exact ((parts_iff _).1 HPB0.out).1
  have hn10 : 0 < n1 := by rw [← hn1]; exact List.length_pos_iff.2 hL0
  have HN1 := Lib.hid hn1
  rw [hL]
  obtain ⟨o, ho⟩ : ∃ o, goW L (cutP s.data.toList) = o := ⟨_, rfl⟩
  rw [ho]
  have HRES : Hid (∀ P, cutP s.data.toList = P → goW L P = o) := fun P e => by rw [← e]; exact ho
  obtain ⟨i0, hi, hz0, hz1, hz2⟩ := info_parts info9
  clear ho hL hL0 hn1 hv hr
  go_enter Try.func25, Try.ntmps25
  go_wp2_with fail
  refine (HC1.out _).mono ?_
  rintro e wn ⟨v1, rfl, hr1, hbn⟩
  obtain ⟨a1, c1, rfl, _⟩ := hr1.slice
  rw [HN1.out] at hr1 ⊢
  obtain ⟨g1, o1, rfl, _, hcs⟩ := hr1.cells (by have := HN1.out; omega)
  obtain ⟨T, hT⟩ : ∃ T : List Value, T = L.map encS := ⟨_, rfl⟩
  have H3 : Hid (T.length = n1) := by show _ = _; rw [hT, List.length_map, HN1.out]
  have H2 : Hid (∀ u ∈ T, u.oneCell' = true) := by intro u hu; rw [hT] at hu; obtain ⟨x, _, rfl⟩ := List.mem_map.1 hu; simp [encS, Value.oneCell']
  have H4 : Hid (T = L.map encS) := hT
  have H1 : Hid (∀ j u, T[j]? = some u → wn.cell? ((⟨g1, o1, none⟩ : Addr).add j) = some u) := by
    intro j u hj
    rw [hT, List.getElem?_map] at hj
    obtain ⟨x, hx, rfl⟩ := Option.map_eq_some_iff.1 hj
    rw [add_off]
    exact hcs j x hx
  have HBN := Lib.hid hbn
  clear hT hr1 hcs hbn
  go_wp2_with (first | (go_at_call 35; fail) | (at_builtin; refine wpList_append_own _ rfl _ _ 22 rfl w.heap.size 9 i0 (.string ⟨#[]⟩) 1 16 Try.underlying22 hi hz0 hz1 hz2 rfl (by decide) _ 0 [] rfl (World.ownsRow_nil _ _ _ _) ⟨g1, o1, none⟩ n1 c1 T rfl (by rw [H3.out, Nat.mul_one]) H1.out H2.out (by unfold maxLen; omega) (by omega) HBN.out.size ?_; intro v' w1 hown' hgrow _))
  have hown : w1.ownsRow w.heap.size 9 1 v' L.length (L.map encS) := by
    rw [Nat.zero_add, List.nil_append, H4.out] at hown'
    rw [HN1.out]; exact hown'
  have hb1 : Below w.heap.size w w1 := HBN.out.grown hgrow HBN.out.size (fun j ej => by cases (show (none : Option Nat) = some j from ej))
  obtain ⟨ad0, cp0, rfl⟩ := own_len hown
  rw [HN1.out] at hown
  have HOWN := Lib.hid hown
  have HB1 := Lib.hid hb1
  rw [HN1.out]
  clear hown' hgrow hown hb1
  go_wp2_with fail
  refine (rcut_any s HSZ.out _).mono ?_
  rintro e wc ⟨vc, rfl, hrow, hbc⟩
  obtain ⟨P, hP⟩ : ∃ P, cutP s.data.toList = P := ⟨_, rfl⟩
  rw [hP] at hrow
  obtain ⟨gc, cc, rfl, hgB, hglt⟩ := hrow.form (List.length_pos_iff.2 (by rw [← hP]; exact cutP_ne _))
  obtain ⟨np, hnp⟩ : ∃ np, P.length = np := ⟨_, rfl⟩
  have HPZ : Hid (∀ x ∈ P, x.length ≤ 1000000) := fun x hx => Nat.le_trans (part_len _ x (by rw [hP]; exact hx)) HSZ.out
  have HO : Hid (OutS w wc gc np cc P (.slice ad0 n1 cp0) L) := by
    refine ⟨owns_below (HN1.out.symm ▸ HOWN.out : w1.ownsRow w.heap.size 9 1 (.slice ad0 n1 cp0) L.length (L.map encS)) hbc, ?_, ?_, chn HB1.out hbc⟩
    · intro e
      have := ((HN1.out.symm ▸ HOWN.out : w1.ownsRow w.heap.size 9 1 (.slice ad0 n1 cp0) L.length (L.map encS))).lt gc e
      omega
    · rw [hnp] at hrow
      exact owns_low hrow (HB1.out).size
  have HP := Lib.hid hP
  have HNP := Lib.hid hnp
  have hnp1 : np ≤ 1000001 := by
    have h1 := cutP_len s.data.toList
    rw [hP, hnp] at h1
    have h2 : s.data.toList.length ≤ 1000000 := HSZ.out
    omega
  rw [hnp]
  clear hP hnp hrow hbc hgB hglt
  go_wp2
  go_loopw [8, 32] (fun v i wr => ∃ (k : Nat) (cur : List Str) (n : Nat) (ad : Option Addr) (cp : Nat), v = .slice ad n cp ∧ k ≤ np ∧ i = .int .i64 k ∧ Hid (cur.length = n) ∧ n ≤ 40 ∧ Hid (goW L (P.take k) = some cur) ∧ Hid (partsB cur = true) ∧ Hid (OutS w wr gc np cc P (.slice ad n cp) cur)) (fun _ i _ => np - (intOf i).toNat)
  case atStart => exact ⟨0, L, n1, ad0, cp0, rfl, Nat.zero_le _, rfl, HN1, hn140, by rw [List.take_zero]; rfl, HPB0, HO⟩
  case round =>
    clear HO
    obtain ⟨k, cur, n, ad, cp, rfl, hk, rfl, HN, hn40, HG, HPB, HO⟩ := hrel
    by_cases hlt : k < np
    · obtain ⟨x, hx⟩ : ∃ x, P[k]? = some x := ⟨_, List.getElem?_eq_getElem (by have := HNP.out; omega)⟩
      have hcx : wr.cell? ⟨gc, k, none⟩ = some (.string ⟨x.toArray⟩) := own_cell HO.out.row k (encS x) (by rw [List.getElem?_map, hx]; rfl)
      have hxz := HPZ.out x (List.mem_of_getElem? hx)
      have HT := Lib.hid (take_get P k x hx)
      clear hx
      by_cases h0 : x = []
      · have HG2 : Hid (goW L (P.take (k + 1)) = some cur) := by
          show _ = _
          rw [HT.out, goW_snoc, HG.out, stepW_skip _ _ (.inl h0)]
        subst h0
        go_wp2
        go_roundw
        case rel => exact ⟨k + 1, cur, n, ad, cp, rfl, hlt, by go_num, HN, hn40, HG2, HPB, HO⟩
        case measure => simp [intOf]; omega
      · by_cases h1 : x = [46]
        · have HG2 : Hid (goW L (P.take (k + 1)) = some cur) := by
            show _ = _
            rw [HT.out, goW_snoc, HG.out, stepW_skip _ _ (.inr h1)]
          subst h1
          clear h0
          go_wp2
          go_roundw
          case rel => exact ⟨k + 1, cur, n, ad, cp, rfl, hlt, by go_num, HN, hn40, HG2, HPB, HO⟩
          case measure => simp [intOf]; omega
        · by_cases h2 : x = [46, 46]
          · have HG2 : Hid (goW L (P.take (k + 1)) = some cur.dropLast) := by
              show _ = _
              rw [HT.out, goW_snoc, HG.out, h2, stepW_up]
            subst h2
            clear h0 h1
            cases n with
            | zero =>
              have e0 : cur = [] := List.eq_nil_of_length_eq_zero HN.out
              rw [e0] at HG2
              subst e0
              go_wp2
              go_roundw
              case rel => exact ⟨k + 1, [], 0, ad, cp, rfl, hlt, by go_num, rfl, Nat.zero_le _, HG2, HPB, HO⟩
              case measure => simp [intOf]; omega
            | succ m =>
              obtain ⟨g, cap, he, _, _⟩ := HO.out.own.form (by have := HN.out; omega)
              rw [HN.out] at he
              injection he with e1 _ e3
              subst e1; subst e3
              have hcap : m + 1 ≤ cp := by
                rcases HO.out.own.2 with ⟨q, _⟩ | ⟨_, _, _, hv, _, _, hnc, _⟩
                · cases q
                · injection hv with _ q1 q2
                  have := HN.out
                  rw [q2]
                  omega
              have HO2 := Lib.hid HO.out.popped
              have HN2 : Hid (cur.dropLast.length = m) := by show _ = _; rw [List.length_dropLast, HN.out]; rfl
              have HPB2 := Lib.hid (parts_dropLast _ HPB.out)
              have q1 : IntKind.i64.wrap (((m + 1 : Nat) : Int) - 1) = (m : Int) := by rw [IntWalk.i64_in _ (by omega)]; omega
              have q2 : (0 : Int) ≤ (m : Int) := by omega
              have q3 : (m : Int) ≤ (cp : Int) := by omega
              go_wp2
              go_roundw
              case rel => exact ⟨k + 1, cur.dropLast, m, _, cp, rfl, hlt, by go_num, HN2, by omega, HG2, HPB2, HO2⟩
              case measure => simp [intOf]; omega
          · have f1 := isEmpty_no h0
            have f2 := beq_no h1
            have f3 := beq_no h2
            by_cases hbad : cur.length = 40 ∨ nameB x = false
            · have HG2 : Hid (goW L P = none) := by
                refine goW_dead _ (P.take (k + 1)) _ ?_ (List.take_prefix _ _)
                rw [HT.out, goW_snoc, HG.out, stepW_no _ _ h0 h1 h2 hbad]
              have hbad' : n = 40 ∨ nameB x = false := by rw [← HN.out]; exact hbad
              clear h0 h1 h2 hbad
              obtain ⟨bn, hbn⟩ : ∃ bn, nameB x = bn := ⟨_, rfl⟩
              rw [hbn] at hbad'
              have HBN := Lib.hid hbn
              clear hbn
              cases bn
              · clear hbad'
                go_wp2_with fail
                refine (rname_any ⟨x.toArray⟩ (show x.length ≤ _ by omega) _).mono ?_
                rintro e wd ⟨rfl, rfl⟩
                rw [show nameB (⟨x.toArray⟩ : ByteArray).data.toList = false from HBN.out]
                go_wp2
                go_ret2
                exact rcl_none ((HRES.out P HP.out).symm.trans HG2.out) rfl HO.out.below
              · have hn : n = 40 := by rcases hbad' with h | h; exact h; cases h
                subst hn
                clear hbad'
                go_wp2_with fail
                refine (rname_any ⟨x.toArray⟩ (show x.length ≤ _ by omega) _).mono ?_
                rintro e wd ⟨rfl, rfl⟩
                rw [show nameB (⟨x.toArray⟩ : ByteArray).data.toList = true from HBN.out]
                go_wp2
                go_ret2
                exact rcl_none ((HRES.out P HP.out).symm.trans HG2.out) rfl HO.out.below
            · have hl : cur.length ≠ 40 := fun e => hbad (.inl e)
              have hnm : nameB x = true := by
                cases e : nameB x with
                | false => exact absurd (.inr e) hbad
                | true => rfl
              have HG2 : Hid (goW L (P.take (k + 1)) = some (cur ++ [x])) := by
                show _ = _
                rw [HT.out, goW_snoc, HG.out, stepW_add _ _ hl hnm]
              have HPB2 := Lib.hid (parts_snoc _ _ HPB.out hl hnm)
              have HBN := Lib.hid hnm
              have hn39 : n < 40 := by have := HN.out; omega
              have q0 : ((n : Int) == 40) = false := by rw [beq_eq_false_iff_ne]; omega
              clear h0 h1 h2 hbad hl hnm
              go_wp2_with fail
              refine (rname_any ⟨x.toArray⟩ (show x.length ≤ _ by omega) _).mono ?_
              rintro e wd ⟨rfl, rfl⟩
              rw [show nameB (⟨x.toArray⟩ : ByteArray).data.toList = true from HBN.out]
              have HOW : Hid (wr.ownsRow w.heap.size 9 1 (.slice ad n cp) n (cur.map encS)) := by
                have := HO.out.own
                rwa [HN.out] at this
              go_wp2_with (at_builtin; refine wpList_append_own_at _ rfl _ _ 22 rfl w.heap.size 9 i0 (.string ⟨#[]⟩) 1 16 Try.underlying22 hi hz0 hz1 hz2 rfl (by decide) _ _ _ rfl (HOW.out.alloc _) ⟨wr.heap.size, 0, none⟩ 1 1 [.string ⟨x.toArray⟩] rfl rfl (cell_one_new _ _ _) (by simp [Value.oneCell']) (by unfold maxLen; omega) (by omega) (by have := HO.out.below.size; simp; omega) ?_; intro v' we hown' hgrow _ hat)
              obtain ⟨g', cap2, rfl⟩ := ownsRow_succ hown'
              have HO2 : Hid (OutS w we gc np cc P (.slice (some ⟨g', 0, none⟩) (n + 1) cap2) (cur ++ [x])) := by
                refine HO.out.appended ?_ hgrow hat
                rw [HN.out]
                exact hown'
              have HN2 : Hid ((cur ++ [x]).length = n + 1) := by show _ = _; rw [List.length_append, HN.out]; rfl
              clear hown' hgrow hat
              go_wp2
              go_roundw
              case rel => exact ⟨k + 1, cur ++ [x], n + 1, _, cap2, rfl, hlt, by go_num, HN2, by omega, HG2, HPB2, HO2⟩
              case measure => simp [intOf]; omega
    · have e : P.take k = P := List.take_of_length_le (by have := HNP.out; omega)
      have HG2 : Hid (goW L P = some cur) := by have := HG.out; rwa [e] at this
      clear e
      have hrd : RdS wr (.slice ad n cp) cur := by
        have h1 := HO.out.own
        exact RdS.of_own h1
      have HRD := Lib.hid hrd
      clear hrd
      go_wp2_with fail
      refine (rjoin_any _ cur _ HRD.out (by have := HN.out; omega) (joinL_len _ HPB.out)).mono ?_
      rintro e wf ⟨rfl, rfl⟩
      go_wp2
      go_ret2
      exact rcl_some ((HRES.out P HP.out).symm.trans HG2.out) rfl HO.out.below

theorem rcl_any (a s : ByteArray) (ha : a.size ≤ 1000000) (hs : s.size ≤ 2001) (hv : validB a.data.toList = true) (w : World) :
    Calls Try.prog 25 #[.string a, .string s] w (RclPost (cleanL a.data.toList s.data.toList) w) := by
  unfold cleanL
  by_cases hh : s.data.toList.head? = some 47
  · rw [if_pos hh]
    obtain ⟨r, hr⟩ : ∃ r, s.data.toList = 47 :: r := by
      cases e : s.data.toList with
      | nil => rw [e] at hh; cases hh
      | cons c r => rw [e] at hh; simp at hh; exact ⟨r, by rw [hh]⟩
    have es : s = ⟨(47 :: r).toArray⟩ := ba_eq s _ hr
    rw [hr]
    have hl : s.data.toList.length = s.size := rfl
    rw [hr] at hl
    rw [es]
    exact rcl_abs a.data.toList r ha (by simp at hl; omega) hv w
  · rw [if_neg hh]
    by_cases h0 : s.size = 0
    · by_cases hr : a.data.toList = [47]
      · have ea : a = ⟨#[47]⟩ := ba_eq a [47] hr
        subst ea
        exact rcl_root_e s h0 w
      · exact rcl_rel_e a ha hv hr s h0 w
    · have h1 : 0 < s.size := by omega
      have h2 : ((s[0].toNat : Int) == 47) = false := by
        rw [beq_eq_false_iff_ne]
        intro e
        apply hh
        have e2 : s[0] = 47 := by
          apply UInt8.toNat_inj.1
          show s[0].toNat = 47
          omega
        have hl : 0 < s.data.toList.length := h1
        rw [List.head?_eq_getElem?, List.getElem?_eq_getElem hl]
        exact congrArg some e2
      by_cases hr : a.data.toList = [47]
      · have ea : a = ⟨#[47]⟩ := ba_eq a [47] hr
        subst ea
        exact rcl_root_s s hs h1 h2 w
      · exact rcl_rel_s a ha hv hr s hs h1 h2 w
end Go.Proofs.Ytjnmlhmlcbbafaa
