/- Proved here: Clean of puncheonref01 for every two texts of at most a million bytes. -/
import Derived.Test.YtjnmlhmlcbbafaaRefE
import Derived.Test.YtjnmlhmlcbbafaaWakes
import Derived.Maps.AppendAt
namespace Go.Proofs.Ytjnmlhmlcbbafaa
open Go.RowKit Go.Shelf

set_option maxHeartbeats 1000000 in
theorem rcl_bad (a s : ByteArray) (ha : a.size ≤ 1000000) (hv : validB a.data.toList = false) (w : World) :
    Calls Try.prog 25 #[.string a, .string s] w fun e w' => e = .returned (.tuple #[.string ⟨#[]⟩, .bool false]) ∧ Below w.heap.size w w' := by
  have HV := Lib.hid hv
  clear hv
  go_enter Try.func25, Try.ntmps25
  go_wp2_with fail
  refine ((rnames_any a ha _).2 HV.out).mono ?_
  rintro e w1 ⟨rfl, hb1⟩
  go_wp2
  go_ret2
  exact ⟨rfl, hb1⟩

structure OutS (w wr : World) (gc np cc : Nat) (P : List Str) (v : Value) (cur : List Str) : Prop where
  own : wr.ownsRow w.heap.size 9 1 v cur.length (cur.map encS)
  ne : v.ownBlock ≠ some gc
  row : wr.ownsRow w.heap.size 9 1 (.slice (some ⟨gc, 0, none⟩) np cc) np (P.map encS)
  below : Below w.heap.size w wr

theorem OutS.appended {w wr w2 : World} {gc np cc : Nat} {P cur : List Str} {v v' : Value} {x : Str} {tmp : Obj} (h : OutS w wr gc np cc P v cur) (hown : w2.ownsRow w.heap.size 9 1 v' (cur.length + 1) (cur.map encS ++ [encS x]))
    (hgrow : (wr.alloc tmp).grownBy w2 v.ownBlock) (hat : v'.ownBlock = v.ownBlock ∨ v'.ownBlock = some (wr.alloc tmp).heap.size) : OutS w w2 gc np cc P v' (cur ++ [x]) := by
  have hgc : gc < wr.heap.size := (h.row.lt gc rfl).2
  refine ⟨?_, ?_, (h.row.alloc tmp).kept hgrow (.inr (Ne.symm h.ne)), ?_⟩
  · rw [List.length_append, List.map_append]; exact hown
  · rcases hat with e | e
    · rw [e]; exact h.ne
    · rw [e]
      simp
      omega
  · refine (h.below.alloc h.below.size tmp).grown hgrow (by have := h.below.size; simp; omega) (fun j ej => (h.own.lt j ej).1)

theorem OutS.popped {w wr : World} {gc np cc g m cap : Nat} {P cur : List Str} (h : OutS w wr gc np cc P (.slice (some ⟨g, 0, none⟩) (m + 1) cap) cur) : OutS w wr gc np cc P (.slice (some ⟨g, 0, none⟩) m cap) cur.dropLast := by
  obtain ⟨h1, h2, h3, h4⟩ := h
  have hl : cur.length = m + 1 := by
    rcases h1.2 with ⟨k, _⟩ | ⟨_, _, _, hv, _⟩
    · cases k
    · injection hv with _ k _; exact k.symm
  have h0 : cur ≠ [] := fun e => by subst e; simp at hl
  obtain ⟨init, x, rfl⟩ : ∃ init x, cur = init ++ [x] := ⟨_, _, (List.dropLast_concat_getLast h0).symm⟩
  have hm : init.length = m := by simpa using hl
  subst hm
  rw [List.dropLast_concat]
  rw [List.map_append, List.length_append] at h1
  exact ⟨ownsRow_pop (by simp) h1, h2, h3, h4⟩

def RclPost (o : Option (List Str)) (w : World) (e : Ending) (w' : World) : Prop :=
  (match o with
    | none => e = .returned (.tuple #[.string ⟨#[]⟩, .bool false])
    | some l => e = .returned (.tuple #[.string ⟨(joinL l).toArray⟩, .bool true])) ∧ Below w.heap.size w w'
theorem rcl_none {o : Option (List Str)} {w w' : World} {e : Ending} (h : o = none) (he : e = .returned (.tuple #[.string ⟨#[]⟩, .bool false])) (hb : Below w.heap.size w w') : RclPost o w e w' := by
  subst h; exact ⟨he, hb⟩
theorem rcl_some {o : Option (List Str)} {w w' : World} {e : Ending} {l : List Str} (h : o = some l) (he : e = .returned (.tuple #[.string ⟨(joinL l).toArray⟩, .bool true])) (hb : Below w.heap.size w w') : RclPost o w e w' := by
  subst h; exact ⟨he, hb⟩

set_option maxRecDepth 100000 in
set_option maxHeartbeats 8000000 in
theorem rcl_abs (a r : Str) (ha : a.length ≤ 1000000) (hr : r.length ≤ 2001) (hv : validB a = true) (w : World) :
    Calls Try.prog 25 #[.string ⟨a.toArray⟩, .string ⟨(47 :: r).toArray⟩] w (RclPost (goW [] (cutP (47 :: r))) w) := by
  have HV := Lib.hid hv
  have HSZ : Hid ((⟨(47 :: r).toArray⟩ : ByteArray).size ≤ 1000000) := show (47 :: r).length ≤ _ by simp; omega
  obtain ⟨o, ho⟩ : ∃ o, goW [] (cutP (47 :: r)) = o := ⟨_, rfl⟩
  rw [ho]
  have HRES : Hid (∀ P, cutP (⟨(47 :: r).toArray⟩ : ByteArray).data.toList = P → goW [] P = o) := fun P e => by rw [← e]; exact ho
  obtain ⟨i0, hi, hz0, hz1, hz2⟩ := info_parts info9
  clear hv ho
  go_enter Try.func25, Try.ntmps25
  go_wp2_with fail
  refine (rnames_is ⟨a.toArray⟩ ha _ HV.out _).mono ?_
  rintro e w1 ⟨a1, n1, c1, rfl, hb1⟩
  go_wp2_with fail
  refine (rcut_any ⟨(47 :: r).toArray⟩ HSZ.out _).mono ?_
  rintro e wc ⟨vc, rfl, hrow, hbc⟩
  obtain ⟨P, hP⟩ : ∃ P, cutP (⟨(47 :: r).toArray⟩ : ByteArray).data.toList = P := ⟨_, rfl⟩
  rw [hP] at hrow
  obtain ⟨gc, cc, rfl, hgB, hglt⟩ := hrow.form (List.length_pos_iff.2 (by rw [← hP]; exact cutP_ne _))
  obtain ⟨np, hnp⟩ : ∃ np, P.length = np := ⟨_, rfl⟩
  have HPZ : Hid (∀ x ∈ P, x.length ≤ 1000000) := fun x hx => Nat.le_trans (part_len _ x (by rw [hP]; exact hx)) HSZ.out
  have HO : Hid (OutS w wc gc np cc P (.slice none 0 0) []) := by
    refine ⟨owns_below (World.ownsRow_nil w1 w.heap.size 9 1 : w1.ownsRow w.heap.size 9 1 (.slice none 0 0) ([] : List Str).length (([] : List Str).map encS)) hbc, ?_, ?_, chn hb1 hbc⟩
    · intro e
      have := ((World.ownsRow_nil w1 w.heap.size 9 1 : w1.ownsRow w.heap.size 9 1 (.slice none 0 0) ([] : List Str).length (([] : List Str).map encS))).lt gc e
      omega
    · rw [hnp] at hrow
      exact owns_low hrow (hb1).size
  have HP := Lib.hid hP
  have HNP := Lib.hid hnp
  have hnp1 : np ≤ 1000001 := by
    have h1 := cutP_len (⟨(47 :: r).toArray⟩ : ByteArray).data.toList
    rw [hP, hnp] at h1
    have h2 : (⟨(47 :: r).toArray⟩ : ByteArray).data.toList.length ≤ 1000000 := HSZ.out
    omega
  rw [hnp]
  clear hP hnp hrow hbc hgB hglt
  go_wp2
  go_loopw [8, 32] (fun v i wr => ∃ (k : Nat) (cur : List Str) (n : Nat) (ad : Option Addr) (cp : Nat), v = .slice ad n cp ∧ k ≤ np ∧ i = .int .i64 k ∧ Hid (cur.length = n) ∧ n ≤ 40 ∧ Hid (goW [] (P.take k) = some cur) ∧ Hid (partsB cur = true) ∧ Hid (OutS w wr gc np cc P (.slice ad n cp) cur)) (fun _ i _ => np - (intOf i).toNat)
  case atStart => exact ⟨0, [], 0, none, 0, rfl, Nat.zero_le _, rfl, rfl, Nat.zero_le _, by rw [List.take_zero]; rfl, rfl, HO⟩
  case round =>
    clear HO
    obtain ⟨k, cur, n, ad, cp, rfl, hk, rfl, HN, hn40, HG, HPB, HO⟩ := hrel
    by_cases hlt : k < np
    · obtain ⟨x, hx⟩ : ∃ x, P[k]? = some x := ⟨_, List.getElem?_eq_getElem (by have := HNP.out; omega)⟩
      have hcx : wr.cell? ⟨gc, k, none⟩ = some (.string ⟨x.toArray⟩) := own_cell HO.out.row k (encS x) (by rw [List.getElem?_map, hx]; rfl)
      have hxz := HPZ.out x (List.mem_of_getElem? hx)
      have HT := Lib.hid (take_get P k x hx)
      clear hx
      by_cases h0 : x = []
      · have HG2 : Hid (goW [] (P.take (k + 1)) = some cur) := by
          show _ = _
          rw [HT.out, goW_snoc, HG.out, stepW_skip _ _ (.inl h0)]
        subst h0
        go_wp2
        go_roundw
        case rel => exact ⟨k + 1, cur, n, ad, cp, rfl, hlt, by go_num, HN, hn40, HG2, HPB, HO⟩
        case measure => simp [intOf]; omega
      · by_cases h1 : x = [46]
        · have HG2 : Hid (goW [] (P.take (k + 1)) = some cur) := by
            show _ = _
            rw [HT.out, goW_snoc, HG.out, stepW_skip _ _ (.inr h1)]
          subst h1
          clear h0
          go_wp2
          go_roundw
          case rel => exact ⟨k + 1, cur, n, ad, cp, rfl, hlt, by go_num, HN, hn40, HG2, HPB, HO⟩
          case measure => simp [intOf]; omega
        · by_cases h2 : x = [46, 46]
          · have HG2 : Hid (goW [] (P.take (k + 1)) = some cur.dropLast) := by
              show _ = _
              rw [HT.out, goW_snoc, HG.out, h2, stepW_up]
            subst h2
            clear h0 h1
            cases n with
            | zero =>
              have e0 : cur = [] := List.eq_nil_of_length_eq_zero HN.out
              rw [e0] at HG2
              subst e0
              go_wp2
              go_roundw
              case rel => exact ⟨k + 1, [], 0, ad, cp, rfl, hlt, by go_num, rfl, Nat.zero_le _, HG2, HPB, HO⟩
              case measure => simp [intOf]; omega
            | succ m =>
              obtain ⟨g, cap, he, _, _⟩ := HO.out.own.form (by have := HN.out; omega)
              rw [HN.out] at he
              injection he with e1 _ e3
              subst e1; subst e3
              have hcap : m + 1 ≤ cp := by
                rcases HO.out.own.2 with ⟨q, _⟩ | ⟨_, _, _, hv, _, _, hnc, _⟩
                · cases q
                · injection hv with _ q1 q2
                  have := HN.out
                  rw [q2]
                  omega
              have HO2 := Lib.hid HO.out.popped
              have HN2 : Hid (cur.dropLast.length = m) := by show _ = _; rw [List.length_dropLast, HN.out]; rfl
              have HPB2 := Lib.hid (parts_dropLast _ HPB.out)
              have q1 : IntKind.i64.wrap (((m + 1 : Nat) : Int) - 1) = (m : Int) := by rw [IntWalk.i64_in _ (by omega)]; omega
              have q2 : (0 : Int) ≤ (m : Int) := by omega
              have q3 : (m : Int) ≤ (cp : Int) := by omega
              go_wp2
              go_roundw
              case rel => exact ⟨k + 1, cur.dropLast, m, _, cp, rfl, hlt, by go_num, HN2, by omega, HG2, HPB2, HO2⟩
              case measure => simp [intOf]; omega
          · have f1 := isEmpty_no h0
            have f2 := beq_no h1
            have f3 := beq_no h2
            by_cases hbad : cur.length = 40 ∨ nameB x = false
            · have HG2 : Hid (goW [] P = none) := by
                refine goW_dead _ (P.take (k + 1)) _ ?_ (List.take_prefix _ _)
                rw [HT.out, goW_snoc, HG.out, stepW_no _ _ h0 h1 h2 hbad]
              have hbad' : n = 40 ∨ nameB x = false := by rw [← HN.out]; exact hbad
              clear h0 h1 h2 hbad
              obtain ⟨bn, hbn⟩ : ∃ bn, nameB x = bn := ⟨_, rfl⟩
              rw [hbn] at hbad'
              have HBN := Lib.hid hbn
              clear hbn
              cases bn
              · clear hbad'
                go_wp2_with fail
                refine (rname_any ⟨x.toArray⟩ (show x.length ≤ _ by omega) _).mono ?_
                rintro e wd ⟨rfl, rfl⟩
                rw [show nameB (⟨x.toArray⟩ : ByteArray).data.toList = false from HBN.out]
                go_wp2
                go_ret2
                exact rcl_none ((HRES.out P HP.out).symm.trans HG2.out) rfl HO.out.below
              · have hn : n = 40 := by rcases hbad' with h | h; exact h; cases h
                subst hn
                clear hbad'
                go_wp2_with fail
                refine (rname_any ⟨x.toArray⟩ (show x.length ≤ _ by omega) _).mono ?_
                rintro e wd ⟨rfl, rfl⟩
                rw [show nameB (⟨x.toArray⟩ : ByteArray).data.toList = true from HBN.out]
                go_wp2
                go_ret2
                exact rcl_none ((HRES.out P HP.out).symm.trans HG2.out) rfl HO.out.below
            · have hl : cur.length ≠ 40 := fun e => hbad (.inl e)
              have hnm : nameB x = true := by
                cases e : nameB x with
                | false => exact absurd (.inr e) hbad
                | true => rfl
              have HG2 : Hid (goW [] (P.take (k + 1)) = some (cur ++ [x])) := by
                show _ = _
                rw [HT.out, goW_snoc, HG.out, stepW_add _ _ hl hnm]
              have HPB2 := Lib.hid (parts_snoc _ _ HPB.out hl hnm)
              have HBN := Lib.hid hnm
              have hn39 : n < 40 := by have := HN.out; omega
              have q0 : ((n : Int) == 40) = false := by rw [beq_eq_false_iff_ne]; omega
              clear h0 h1 h2 hbad hl hnm
              go_wp2_with fail
              refine (rname_any ⟨x.toArray⟩ (show x.length ≤ _ by omega) _).mono ?_
              rintro e wd ⟨rfl, rfl⟩
              rw [show nameB (⟨x.toArray⟩ : ByteArray).data.toList = true from HBN.out]
              have HOW : Hid (wr.ownsRow w.heap.size 9 1 (.slice ad n cp) n (cur.map encS)) := by
                have := HO.out.own
                rwa [HN.out] at this
              go_wp2_with (at_builtin; refine wpList_append_own_at _ rfl _ _ 22 rfl w.heap.size 9 i0 (.string ⟨#[]⟩) 1 16 Try.underlying22 hi hz0 hz1 hz2 rfl (by decide) _ _ _ rfl (HOW.out.alloc _) ⟨wr.heap.size, 0, none⟩ 1 1 [.string ⟨x.toArray⟩] rfl rfl (cell_one_new _ _ _) (by simp [Value.oneCell']) (by unfold maxLen; omega) (by omega) (by have := HO.out.below.size; simp; omega) ?_; intro v' we hown' hgrow _ hat)
              obtain ⟨g', cap2, rfl⟩ := ownsRow_succ hown'
              have HO2 : Hid (OutS w we gc np cc P (.slice (some ⟨g', 0, none⟩) (n + 1) cap2) (cur ++ [x])) := by
                refine HO.out.appended ?_ hgrow hat
                rw [HN.out]
                exact hown'
              have HN2 : Hid ((cur ++ [x]).length = n + 1) := by show _ = _; rw [List.length_append, HN.out]; rfl
              clear hown' hgrow hat
              go_wp2
              go_roundw
              case rel => exact ⟨k + 1, cur ++ [x], n + 1, _, cap2, rfl, hlt, by go_num, HN2, by omega, HG2, HPB2, HO2⟩
              case measure => simp [intOf]; omega
    · have e : P.take k = P := List.take_of_length_le (by have := HNP.out; omega)
      have HG2 : Hid (goW [] P = some cur) := by have := HG.out; rwa [e] at this
      clear e
      have hrd : RdS wr (.slice ad n cp) cur := by
        have h1 := HO.out.own
        exact RdS.of_own h1
      have HRD := Lib.hid hrd
      clear hrd
      go_wp2_with fail
      refine (rjoin_any _ cur _ HRD.out (by have := HN.out; omega) (joinL_len _ HPB.out)).mono ?_
      rintro e wf ⟨rfl, rfl⟩
      go_wp2
      go_ret2
      exact rcl_some ((HRES.out P HP.out).symm.trans HG2.out) rfl HO.out.below

end Go.Proofs.Ytjnmlhmlcbbafaa
