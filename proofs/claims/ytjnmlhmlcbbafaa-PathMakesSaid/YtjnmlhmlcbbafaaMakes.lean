/- Proved here: the law PathMakes returns true for every row of rows of texts. -/
import Derived.Test.YtjnmlhmlcbbafaaRefE
import Derived.Test.YtjnmlhmlcbbafaaTells
namespace Go.Proofs.Ytjnmlhmlcbbafaa
open Go.RowKit Go.Shelf

theorem argS_slice2 {w : World} {v : Value} {l : List Str} (h : ArgS w v l) : ∃ a n c, v = .slice a n c ∧ n ≤ c := by
  rcases h with ⟨rfl, _⟩ | ⟨a, n, c, _, rfl, hn, _⟩
  · exact ⟨_, _, _, rfl, Nat.le_refl _⟩
  · exact ⟨_, _, _, rfl, hn⟩

theorem argS_sizes {w : World} {v : Value} {l : List Str} (h : ArgS w v l) : ∀ x ∈ l, x.length ≤ maxLen := by
  rcases h with ⟨_, rfl⟩ | ⟨_, _, _, ss, _, _, _, _, _, _, h7, rfl⟩
  · intro x hx; cases hx
  · intro x hx
    unfold txt at hx
    obtain ⟨s, hs, rfl⟩ := List.mem_map.1 hx
    exact h7 s (List.mem_of_mem_take hs)

/-- What a slice of rows that came in reads as. -/
def ArgG (w : World) (v : Value) : Prop :=
  ∃ (a : Option Addr) (n cap : Nat), v = .slice a n cap ∧ (0 < n → ∃ (g o : Nat) (V : Nat → Value), a = some ⟨g, o, none⟩ ∧ g < w.heap.size ∧ n ≤ maxLen ∧ ∀ i, i < n → w.cell? ⟨g, o + i, none⟩ = some (V i) ∧ ∃ l, ArgS w (V i) l)

theorem own_map {w : World} {B k : Nat} {v : Value} {ss : List ByteArray} (h : w.ownsRow B 9 1 v k ((ss.take k).map Value.string)) (hk : k ≤ ss.length) : w.ownsRow B 9 1 v ((txt (ss.take k)).length) ((txt (ss.take k)).map encS) := by
  rw [← map_clone, txt, List.length_map, List.length_take, Nat.min_eq_left hk]
  exact h

theorem clone_arg (a : Option Addr) (n c : Nat) (l : List Str) (w : World) (h : ArgS w (.slice a n c) l) (k : Nat) (hk : k ≤ n) (hk2 : k ≤ 1000) :
    Calls Try.prog 21 #[.slice a k c] w fun e w' => ∃ v', e = .returned v' ∧ w'.ownsRow w.heap.size 9 1 v' (l.take k).length ((l.take k).map encS) ∧ Below w.heap.size w w' := by
  rcases h with ⟨e, rfl⟩ | ⟨⟨b, off, spot⟩, len, cap, ss, e, h2, h3, h4, _, h6, h7, rfl⟩
  · injection e with e1 e2 e3
    subst e1; subst e2; subst e3
    refine (Try.slices_Clone_string_nil k 0 w).mono ?_
    rintro e w' ⟨rfl, rfl⟩
    rw [List.take_nil]
    exact ⟨_, rfl, World.ownsRow_nil _ _ _ _, Below.refl _ _⟩
  · injection e with e1 e2 e3
    subst e1; subst e2; subst e3
    have ht : (txt (ss.take n)).take k = txt (ss.take k) := by
      unfold txt
      rw [← List.map_take, List.take_take, Nat.min_eq_left hk]
    rw [ht]
    by_cases h0 : k = 0
    · subst h0
      refine (Try.slices_Clone_string_zero _ c w).mono ?_
      rintro e w' ⟨v', rfl, hown, _, hb⟩
      exact ⟨v', rfl, hown, hb⟩
    · have hspot : spot = none := by simpa [Addr.add] using World.cell?_spot (h6 0 (by omega))
      subst hspot
      refine (Try.slices_Clone_string b off k c ss w (by omega) (by omega) (fun j hj => ?_)).mono ?_
      · have := h6 j hj
        rwa [add_off] at this
      · rintro e w' ⟨v', rfl, hown, _, hb⟩
        exact ⟨v', rfl, own_map hown (by omega), hb⟩

theorem clone_rd (v : Value) (l : List Str) (w : World) (h : RdS w v l) (hl : l.length ≤ 1000) :
    Calls Try.prog 21 #[v] w fun e w' => ∃ v', e = .returned v' ∧ w'.ownsRow w.heap.size 9 1 v' l.length (l.map encS) ∧ Below w.heap.size w w' := by
  obtain ⟨a, c, rfl, p1, p2, p3⟩ := h
  by_cases h0 : l = []
  · subst h0
    cases a with
    | none =>
      refine (Try.slices_Clone_string_nil 0 c w).mono ?_
      rintro e w' ⟨rfl, rfl⟩
      exact ⟨_, rfl, World.ownsRow_nil _ _ _ _, Below.refl _ _⟩
    | some a =>
      refine (Try.slices_Clone_string_zero a c w).mono ?_
      rintro e w' ⟨v', rfl, hown, _, hb⟩
      exact ⟨v', rfl, hown, hb⟩
  · obtain ⟨g, o, rfl, _, k1⟩ := p3 (List.length_pos_iff.2 h0)
    refine (Try.slices_Clone_string g o l.length c (bas l) w (by rw [bas_len]; exact Nat.le_refl _) (by omega) (bas_cellR k1)).mono ?_
    rintro e w' ⟨v', rfl, hown, _, hb⟩
    refine ⟨v', rfl, ?_, hb⟩
    rw [List.take_of_length_le (by rw [bas_len]; exact Nat.le_refl _)] at hown
    have e : (bas l).map Value.string = l.map encS := by unfold bas encS; rw [List.map_map]; rfl
    rwa [e] at hown

theorem of_is (l : List Str) (b0 : Nat) (v : Value) (w : World) (hown : w.ownsRow b0 9 1 v l.length (l.map encS)) (hn : l.length ≤ 1000000) (r : Str × Int) (hr : ofRes l = r) :
    Calls Try.prog 22 #[v] w fun e w' => e = .returned (.tuple #[.string ⟨r.1.toArray⟩, .int .i64 r.2]) ∧ Below w.heap.size w w' := by
  rw [← hr]; exact of_any l b0 v w hown hn

set_option maxRecDepth 100000 in
set_option maxHeartbeats 4000000 in
theorem makes_any (v : Value) (w : World) (h : ArgG w v) : Calls Try.prog 4 #[v] w (TrueB w) := by
  obtain ⟨a0, n, c0, rfl, hcs⟩ := h
  have HA := Lib.hid hcs
  clear hcs
  go_enter Try.func4, Try.ntmps4
  go_wp2_with fail
  refine (wakes_any _).mono ?_
  rintro e w1 ⟨rfl, hb1⟩
  have HB1 := Lib.hid hb1
  clear hb1
  go_wp2
  go_loopw [16] (fun i wr => ∃ k : Nat, k ≤ n ∧ k ≤ 8 ∧ i = .int .i64 k ∧ Hid (Below w.heap.size w wr)) (fun i _ => n - (intOf i).toNat)
  case atStart => exact ⟨0, Nat.zero_le _, Nat.zero_le _, rfl, HB1⟩
  case round =>
    obtain ⟨k, hk, hk8, rfl, HB0⟩ := hrel
    by_cases hlt : k < n
    · obtain ⟨g, o, V, rfl, hg, hnm, hcs⟩ := HA.out (by omega)
      obtain ⟨hck, l, hl⟩ := hcs k hlt
      have HBW := Lib.hid HB0.out
      have hcx := (HBW.out.cell (p := ⟨g, o + k, none⟩) hg).trans hck
      obtain ⟨a2, n2, c2, e2, hnc⟩ := argS_slice2 hl
      rw [e2] at hcx hl
      have HL := Lib.hid (hl.below HBW.out)
      clear hcs hck hl e2 hg
      by_cases h8 : k = 8
      · subst h8
        go_wp2
        go_ret
        exact ⟨rfl, HBW.out⟩
      · have q8 : ((k : Int) == 8) = false := by rw [beq_eq_false_iff_ne]; omega
        have hk7 : k < 8 := by omega
        clear h8
        obtain ⟨kk, hkk⟩ : ∃ kk, kk = min n2 50 := ⟨_, rfl⟩
        have m1 : kk ≤ n2 := by omega
        have m2 : kk ≤ 50 := by omega
        have m3 : (0 : Int) ≤ (kk : Int) := by omega
        have m4 : (kk : Int) ≤ (c2 : Int) := by omega
        have m5 : min (n2 : Int) 50 = (kk : Int) := by omega
        clear hkk
        go_wp2_with fail
        refine (clone_arg a2 n2 c2 l _ HL.out kk m1 (by omega)).mono ?_
        rintro e w2 ⟨v', rfl, hown, hb⟩
        have hb1 := chn HBW.out hb
        obtain ⟨L, hL⟩ : ∃ L, l.take kk = L := ⟨_, rfl⟩
        have hL50 : L.length ≤ 50 := by rw [← hL, List.length_take]; omega
        rw [hL] at hown
        have HSZ : Hid (∀ x ∈ L, x.length ≤ maxLen) := fun x hx => argS_sizes HL.out x (by rw [← hL] at hx; exact List.mem_of_mem_take hx)
        have hrl := RdS.of_own hown
        obtain ⟨a3, c3, rfl, _⟩ := hrl.slice
        obtain ⟨nl, hnl⟩ : ∃ nl, L.length = nl := ⟨_, rfl⟩
        rw [hnl] at hrl hown hL50 ⊢
        have HNL := Lib.hid hnl
        clear hL hnl hcx hb hown
        go_wp2_with fail
        refine (clone_rd _ L _ hrl (by have := HNL.out; omega)).mono ?_
        rintro e w3 ⟨v5, rfl, hown, hb⟩
        have hb1 := chn hb1 hb
        have hrl := hrl.below hb
        have hro := RdS.of_own hown
        obtain ⟨b, hpb⟩ : ∃ b, partsB L = b := ⟨_, rfl⟩
        have HPB := Lib.hid hpb
        clear hb hpb
        go_wp2_with fail
        refine (of_is L _ _ _ hown (by have := HNL.out; omega) _ rfl).mono ?_
        rintro e w4 ⟨rfl, hb⟩
        have HB4 := Lib.hid (chn hb1 hb)
        have HRL := Lib.hid (hrl.below hb)
        have HRO := Lib.hid (hro.below hb)
        obtain ⟨a5, c5, rfl, _⟩ := hro.slice
        have HRES := Lib.hid (show ofRes L = if partsB L = true then (joinL L, 0) else ([], 110) from rfl)
        obtain ⟨res, hres⟩ : ∃ res, ofRes L = res := ⟨_, rfl⟩
        rw [hres] at HRES ⊢
        rw [HPB.out] at HRES
        obtain ⟨rs, re⟩ := res
        clear hb1 hb hrl hro hown hres
        go_wp2
        obtain ⟨wo, hwo⟩ : ∃ wo : World, wo = w4 := ⟨_, rfl⟩
        rw [HNL.out] at HRO ⊢
        go_loopw [8, 41] (fun v i wr => ∃ (j : Nat) (rr : Bool), v = .bool rr ∧ j ≤ nl ∧ i = .int .i64 j ∧ Hid (rr = (decide (L.length ≤ 40) && (L.take j).all nameB)) ∧ Hid (Below w4.heap.size w4 wr)) (fun _ i _ => nl - (intOf i).toNat)
        case atStart => exact ⟨0, _, rfl, Nat.zero_le _, rfl, by show _ = _; rw [HNL.out, List.take_zero, List.all_nil, Bool.and_true]; exact decide_eq_decide.2 (by omega), Below.refl _ _⟩
        case round =>
          obtain ⟨j, rr, rfl, hj, rfl, HRR, HB5⟩ := hrel
          by_cases hjl : j < nl
          · obtain ⟨x, hx⟩ : ∃ x, L[j]? = some x := ⟨_, List.getElem?_eq_getElem (by have := HNL.out; omega)⟩
            obtain ⟨g3, o3, rfl, hg3, hc3⟩ := HRL.out.cells (by have := HNL.out; omega)
            have hcx := (HB5.out.cell (p := ⟨g3, o3 + j, none⟩) hg3).trans (hc3 j x hx)
            unfold encS at hcx
            have hxz : x.length ≤ 9223372036854775807 := Nat.le_trans (HSZ.out x (List.mem_of_getElem? hx)) (by unfold maxLen; omega)
            have HT := Lib.hid (take_get L j x hx)
            clear hx hc3 hg3
            cases rr with
            | false =>
              have HR2 : Hid (false = (decide (L.length ≤ 40) && (L.take (j + 1)).all nameB)) := by
                show _ = _
                rw [HT.out, List.all_append, ← Bool.and_assoc, ← HRR.out, Bool.false_and]
              go_wp2
              go_roundw
              case rel => exact ⟨j + 1, false, rfl, hjl, by go_num, HR2, HB5⟩
              case measure => simp [intOf]; omega
            | true =>
              obtain ⟨bn, hbn⟩ : ∃ bn, nameB x = bn := ⟨_, rfl⟩
              have HR2 : Hid (bn = (decide (L.length ≤ 40) && (L.take (j + 1)).all nameB)) := by
                show _ = _
                rw [HT.out, List.all_append, ← Bool.and_assoc, ← HRR.out, Bool.true_and, List.all_cons, List.all_nil, Bool.and_true, hbn]
              have HBN := Lib.hid hbn
              clear hbn
              go_wp2_with fail
              refine (rname_any ⟨x.toArray⟩ hxz _).mono ?_
              rintro e wd ⟨rfl, rfl⟩
              rw [show nameB (⟨x.toArray⟩ : ByteArray).data.toList = bn from HBN.out]
              go_wp2
              go_roundw
              case rel => exact ⟨j + 1, bn, rfl, hjl, by go_num, HR2, HB5⟩
              case measure => simp [intOf]; omega
          · have hrb : rr = b := by
              rw [HRR.out, List.take_of_length_le (by have := HNL.out; omega), ← HPB.out]
              rfl
            subst hrb
            have hr1 := HRL.out.below HB5.out
            have hr2 := HRO.out.below HB5.out
            have hb1 := chn HB4.out HB5.out
            clear HRR
            cases rr with
            | false =>
              obtain ⟨rfl, rfl⟩ : rs = [] ∧ re = 110 := by
                have := HRES.out
                rw [if_neg (by decide)] at this
                exact Prod.mk.inj this
              go_wp2_with fail
              refine (eqR_yes L _ _ _ hr2 hr1 (by have := HNL.out; omega)).mono ?_
              rintro e w7 ⟨rfl, hb⟩
              have hb1 := chn hb1 hb
              clear hb hr1 hr2
              go_wp2
              exact ⟨⟨k + 1, hlt, hk7, by go_num, hb1⟩, by simp [intOf]; omega⟩
            | true =>
              obtain ⟨rfl, rfl⟩ : rs = joinL L ∧ re = 0 := by
                have := HRES.out
                rw [if_pos rfl] at this
                exact Prod.mk.inj this
              go_wp2_with fail
              refine (rjoin_any _ L _ hr1 (by have := HNL.out; omega) (joinL_len _ HPB.out)).mono ?_
              rintro e w6 ⟨rfl, rfl⟩
              go_wp2_with fail
              refine (eqR_yes L _ _ _ hr2 hr1 (by have := HNL.out; omega)).mono ?_
              rintro e w7 ⟨rfl, hb⟩
              have hb1 := chn hb1 hb
              clear hb hr1 hr2
              go_wp2
              exact ⟨⟨k + 1, hlt, hk7, by go_num, hb1⟩, by simp [intOf]; omega⟩
    · go_wp2
      go_ret
      exact ⟨rfl, HB0.out⟩
end Go.Proofs.Ytjnmlhmlcbbafaa
