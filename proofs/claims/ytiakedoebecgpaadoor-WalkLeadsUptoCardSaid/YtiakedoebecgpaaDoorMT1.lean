/- Proved here: Right of puncheonref06 says of a tree whether it may be, for every tree whose paths have at most two million letters each. | Proved here: Right, Join, Up and Base of puncheonref01. | Proved here: Beneath of puncheonref01 for every two texts of at most a million bytes. | Proved here: Beneath of puncheonref01 in all cases; less of puncheonref01. | Proved here: Compare of puncheonref01 for every two texts of at most a million bytes. | Proved here: Get of puncheonref06: what stands at a path, for every tree and path. | Proved here: RightItem of puncheonref06, for every item whose path has at most a million letters. | Plain words on Right of puncheonref06: it says of the same trees that they may be. Nothing of the program stands here. | Proved here: begins of puncheonref07. | Proved here: Names of puncheonref01 of a path hands back memory of its own; what an append of one name more makes of it. -/
import Derived.Test.YtiakedoebecgpaaDoorRefC
import Derived.Laws.AppendOwnNone
import Derived.Test.YtiakedoebecgpaaDoorMath5
import Derived.StillTailTactics
import Derived.Test.YtiakedoebecgpaaDoorWEq
import Derived.Test.YtiakedoebecgpaaDoorTMath2
import Derived.Lib.JoinLaws
import Derived.Deep.AppendSrc
import Derived.Deep.RegionHeld
namespace Go.Proofs.YtiakedoebecgpaaDoor
open Go.RowKit Go.Shelf

theorem rd_cell {w : World} {g o n cap : Nat} {l : List Str} (h : RdS w (.slice (some ⟨g, o, none⟩) n cap) l) (j : Nat) (x : Str) (hx : l[j]? = some x) : w.cell? ⟨g, o + j, none⟩ = some (encS x) := by
  obtain ⟨a, c, h1, _, _, h4⟩ := h
  injection h1 with h1 h2 h3
  have hl : 0 < l.length := by have := (List.getElem?_eq_some_iff.1 hx).1; omega
  obtain ⟨g', o', e, _, hc⟩ := h4 hl
  rw [e] at h1
  injection h1 with h1
  injection h1 with h1 h2
  subst h1; subst h2
  exact hc j x hx

set_option maxHeartbeats 2000000 in
theorem rright_any (p : ByteArray) (hp : p.size ≤ 2000000) (w : World) : Calls Tryd.prog 48 #[.string p] w fun e w' => e = .returned (.bool (validB p.data.toList)) ∧ Below w.heap.size w w' := by
  obtain ⟨b, hb⟩ : ∃ b, validB p.data.toList = b := ⟨_, rfl⟩
  rw [hb]
  cases b
  · have HB := Lib.hid hb
    clear hb
    go_enter Tryd.func48, Tryd.ntmps48
    go_wp2_with fail
    refine ((rnames_any p hp _).2 HB.out).mono ?_
    rintro e w1 ⟨rfl, hb⟩
    go_wp2
    go_ret
    exact ⟨rfl, hb⟩
  · have HB := Lib.hid hb
    clear hb
    go_enter Tryd.func48, Tryd.ntmps48
    go_wp2_with fail
    refine ((rnames_any p hp _).1 HB.out).mono ?_
    rintro e w1 ⟨v, rfl, hr, hb⟩
    go_wp2
    go_ret
    exact ⟨rfl, hb⟩

set_option maxHeartbeats 2000000 in
theorem rjoin_none (a : Option Addr) (cap : Nat) (w : World) : Calls Tryd.prog 80 #[.slice a 0 cap] w fun e w' => e = .returned (.string ⟨#[47]⟩) ∧ w = w' := by
  go_enter Tryd.func80, Tryd.ntmps80
  go_wp2
  go_ret
  exact ⟨rfl, rfl⟩

theorem flat_snoc (l : List Str) (x : Str) : flat (l ++ [x]) = flat l ++ 47 :: x := by rw [flat_append, flat_cons, flat_nil, List.append_nil]
theorem flat_mono (l : List Str) (k : Nat) : (flat (l.take k)).length ≤ (flat l).length := by
  conv => rhs; rw [← List.take_append_drop k l]
  rw [flat_append, List.length_append]
  omega

set_option maxHeartbeats 2000000 in
theorem rjoin_some (g o n cap : Nat) (l : List Str) (w : World) (hn : l.length = n) (h0 : 0 < n) (hn2 : n ≤ 1000) (hc : ∀ j x, l[j]? = some x → w.cell? ⟨g, o + j, none⟩ = some (encS x)) (hf : (flat l).length ≤ 2000000) :
    Calls Tryd.prog 80 #[.slice (some ⟨g, o, none⟩) n cap] w fun e w' => e = .returned (.string ⟨(flat l).toArray⟩) ∧ w = w' := by
  have HC := Lib.hid hc
  have HF := Lib.hid hf
  have HN := Lib.hid hn
  have d0 : ((n : Int) == 0) = false := by rw [beq_eq_false_iff_ne]; omega
  clear hc hf hn
  go_enter Tryd.func80, Tryd.ntmps80
  go_wp2
  go_loop [3, 11] (fun v i => ∃ k : Nat, k ≤ n ∧ i = .int .i64 k ∧ v = .string ⟨(flat (l.take k)).toArray⟩) (fun _ i => n - (intOf i).toNat)
  case atStart => exact ⟨0, Nat.zero_le _, rfl, by rw [List.take_zero]; rfl⟩
  case round =>
    obtain ⟨k, hk, rfl, rfl⟩ := hrel
    by_cases hlt : k < n
    · obtain ⟨x, hx⟩ : ∃ x, l[k]? = some x := ⟨_, List.getElem?_eq_getElem (by have := HN.out; omega)⟩
      have hcx := HC.out k x hx
      have HX := Lib.hid hx
      have ht : flat (l.take (k + 1)) = flat (l.take k) ++ 47 :: x := by rw [take_get l k x hx, flat_snoc]
      have hm := flat_mono l (k + 1)
      have hsz : (flat (l.take k)).length + (1 + x.length) ≤ 2000000 := by
        rw [ht, List.length_append] at hm
        have := HF.out
        simp at hm
        omega
      have HT := Lib.hid ht
      clear hx ht hm
      unfold encS at hcx
      go_wp2
      refine ⟨⟨k + 1, hlt, by go_num, ?_⟩, by simp [intOf]; omega⟩
      rw [HT.out]
      congr 1
    · have e : l.take k = l := List.take_of_length_le (by have := HN.out; omega)
      rw [e]
      go_wp2
      go_ret
      exact ⟨rfl, rfl⟩

theorem rjoin_any (v : Value) (l : List Str) (w : World) (h : RdS w v l) (hn : l.length ≤ 1000) (hf : (flat l).length ≤ 2000000) :
    Calls Tryd.prog 80 #[v] w fun e w' => e = .returned (.string ⟨(joinL l).toArray⟩) ∧ w = w' := by
  by_cases h0 : l = []
  · subst h0
    obtain ⟨a, cap, rfl, _⟩ := h
    exact rjoin_none a cap w
  · obtain ⟨a, cap, rfl, _, _, h4⟩ := h
    have hl := List.length_pos_iff.2 h0
    obtain ⟨g, o, rfl, _, hc⟩ := h4 hl
    rw [joinL_flat l h0]
    exact rjoin_some g o l.length cap l w rfl hl hn hc hf

theorem joinL_len (l : List Str) (h : partsB l = true) : (flat l).length ≤ 2000000 := by
  have h1 := (parts_iff l).1 h
  have := flat_len l h1.2
  omega

theorem RdS.take {w : World} {a : Option Addr} {n cap : Nat} {l : List Str} (h : RdS w (.slice a n cap) l) (k : Nat) (hk : k ≤ n) : RdS w (.slice a k cap) (l.take k) := by
  obtain ⟨a', cap', e, h2, h3, h4⟩ := h
  injection e with e1 e2 e3
  subst e1; subst e2; subst e3
  have hl : (l.take k).length = k := by rw [List.length_take]; omega
  refine ⟨a, cap, by rw [hl], by omega, h3, fun h0 => ?_⟩
  obtain ⟨g, o, ea, hg, hc⟩ := h4 (by omega)
  refine ⟨g, o, ea, hg, fun j x hx => hc j x ?_⟩
  rw [List.getElem?_take] at hx
  split at hx
  · exact hx
  · cases hx

set_option maxHeartbeats 2000000 in
theorem rup_any (p : ByteArray) (hp : p.size ≤ 2000000) (w : World) : Calls Tryd.prog 44 #[.string p] w fun e w' => e = .returned (.string ⟨(upL p.data.toList).toArray⟩) ∧ Below w.heap.size w w' := by
  by_cases hv : validB p.data.toList = true
  · by_cases h0 : namesL p.data.toList = []
    · have e : upL p.data.toList = [47] := by rw [upL, if_pos hv, h0]; rfl
      rw [e]
      have HV := Lib.hid hv
      have H0 := Lib.hid h0
      clear hv h0 e
      go_enter Tryd.func44, Tryd.ntmps44
      go_wp2_with fail
      refine ((rnames_any p hp _).1 HV.out).mono ?_
      rintro e w1 ⟨v, rfl, hr, hb⟩
      rw [H0.out] at hr
      obtain ⟨a, cap, rfl, _⟩ := hr
      go_wp2
      go_ret
      exact ⟨rfl, hb⟩
    · have e : upL p.data.toList = joinL (namesL p.data.toList).dropLast := by rw [upL, if_pos hv]
      rw [e]
      have HV := Lib.hid hv
      have hpb := (valid_join _ hv).2
      have HP := Lib.hid (parts_dropLast _ hpb)
      obtain ⟨n, hn⟩ : ∃ n, (namesL p.data.toList).length = n := ⟨_, rfl⟩
      have hn0 : 0 < n := by have := List.length_pos_iff.2 h0; omega
      have hn40 : n ≤ 40 := by have := ((parts_iff _).1 hpb).1; omega
      have HN := Lib.hid hn
      have d0 : ((n : Int) == 0) = false := by rw [beq_eq_false_iff_ne]; omega
      have q1 : IntKind.i64.wrap ((n : Int) - 1) = (n : Int) - 1 := by rw [IntWalk.i64_in _ (by omega)]
      have q2 : (0 : Int) ≤ (n : Int) - 1 := by omega
      have q4 : ((n : Int) - 1).toNat = n - 1 := by omega
      clear hv h0 e hpb hn
      go_enter Tryd.func44, Tryd.ntmps44
      go_wp2_with fail
      refine ((rnames_any p hp _).1 HV.out).mono ?_
      rintro e w1 ⟨v, rfl, hr, hb⟩
      obtain ⟨a, cap, rfl, hc1, hc2, _⟩ := id hr
      have HR := Lib.hid hr
      rw [HN.out]
      have q3 : (n : Int) - 1 ≤ (cap : Int) := by have := HN.out; omega
      clear hr
      go_wp2_with fail
      have hr2 : RdS w1 (.slice a (n - 1) cap) (namesL p.data.toList).dropLast := by
        rw [List.dropLast_eq_take, HN.out]
        exact RdS.take (by have := HR.out; rwa [HN.out] at this) _ (by omega)
      have h3 : (namesL p.data.toList).dropLast.length ≤ 1000 := by have := HN.out; rw [List.length_dropLast]; omega
      refine (rjoin_any _ _ w1 hr2 h3 (joinL_len _ HP.out)).mono ?_
      rintro e w2 ⟨rfl, rfl⟩
      go_wp2
      go_ret
      exact ⟨rfl, hb⟩
  · have e : upL p.data.toList = [] := by rw [upL, if_neg hv]
    rw [e]
    have HV := Lib.hid (Bool.eq_false_iff.2 hv)
    clear hv e
    go_enter Tryd.func44, Tryd.ntmps44
    go_wp2_with fail
    refine ((rnames_any p hp _).2 HV.out).mono ?_
    rintro e w1 ⟨rfl, hb⟩
    go_wp2
    go_ret
    exact ⟨rfl, hb⟩
end Go.Proofs.YtiakedoebecgpaaDoor

namespace Go.Proofs.YtiakedoebecgpaaDoor
open Go.RowKit Go.Shelf

theorem RdS.cells {w : World} {a : Option Addr} {n cap : Nat} {l : List Str} (h : RdS w (.slice a n cap) l) (h0 : 0 < l.length) : ∃ g o, a = some ⟨g, o, none⟩ ∧ g < w.heap.size ∧ ∀ j x, l[j]? = some x → w.cell? ⟨g, o + j, none⟩ = some (encS x) := by
  obtain ⟨_, _, E, _, _, k⟩ := h
  injection E with E _ _
  rw [E]
  exact k h0

theorem RdS.caps {w : World} {a : Option Addr} {n cap : Nat} {l : List Str} (h : RdS w (.slice a n cap) l) : l.length = n ∧ n ≤ cap ∧ cap ≤ maxLen := by
  obtain ⟨_, _, E, h2, h3, _⟩ := h
  injection E with _ E2 E3
  subst E3
  exact ⟨E2.symm, by omega, h3⟩

set_option maxHeartbeats 2000000 in
theorem rnames_root0 (w : World) : Calls Tryd.prog 78 #[.string ⟨#[47]⟩] w fun e w' => e = .returned (.tuple #[.slice none 0 0, .bool true]) ∧ w = w' := by
  have f1 : ((⟨#[47]⟩ : ByteArray).toList == [47]) = true := by rw [Lib.toList_data]; rfl
  go_enter Tryd.func78, Tryd.ntmps78
  go_wp2
  go_ret2
  exact ⟨rfl, rfl⟩

theorem rnames_is (p : ByteArray) (hp : p.size ≤ 2000000) (b : Bool) (hb : validB p.data.toList = b) (w : World) :
    Calls Tryd.prog 78 #[.string p] w fun e w' => ∃ a n c, e = .returned (.tuple #[.slice a n c, .bool b]) ∧ Below w.heap.size w w' := by
  cases b
  · exact ((rnames_any p hp w).2 hb).mono fun _ _ ⟨he, hb⟩ => ⟨_, _, _, he, hb⟩
  · refine ((rnames_any p hp w).1 hb).mono ?_
    rintro e w' ⟨v, he, ⟨a, c, hv, _⟩, hb⟩
    subst hv
    exact ⟨_, _, _, he, hb⟩

/-- The names of the directory are the first ones: what is left. -/
theorem rben_pre (l d : List Str) (h : d <+: l) (k : Nat) (x y : Str) (hx : l[k]? = some x) (hy : d[k]? = some y) : y = x := by
  obtain ⟨r, rfl⟩ := h
  have hk := (List.getElem?_eq_some_iff.1 hy).1
  rw [List.getElem?_append_left hk, hy] at hx
  cases hx; rfl

theorem RdS.drop {w : World} {g o n cap : Nat} {l : List Str} (h : RdS w (.slice (some ⟨g, o, none⟩) n cap) l) (k : Nat) (j : Nat) (x : Str) (hx : (l.drop k)[j]? = some x) : w.cell? ⟨g, o + k + j, none⟩ = some (encS x) := by
  rw [List.getElem?_drop] at hx
  have := rd_cell h (k + j) x hx
  rwa [← Nat.add_assoc] at this

theorem add_off (g o j : Nat) : (⟨g, o, none⟩ : Addr).add j = ⟨g, o + j, none⟩ := by
  unfold Addr.add
  by_cases hj0 : j = 0
  · simp [hj0]
  · simp [hj0]
theorem fin_own {w : World} {B n : Nat} {v : Value} {T : List Value} {l : List Str} (h : w.ownsRow B 9 1 v (0 + n) ([] ++ T)) (hT : T = l.map encS) : RdS w v l := by
  subst hT
  have hl : l.length = 0 + n := by have := h.1; simpa using this
  rw [← hl] at h
  exact RdS.of_own h

end Go.Proofs.YtiakedoebecgpaaDoor

namespace Go.Proofs.YtiakedoebecgpaaDoor
open Go.RowKit Go.Shelf

theorem pre_no (l d : List Str) (h : ¬ d <+: l) : l.length < d.length ∨ (d.length ≤ l.length ∧ ∃ (j : Nat) (x y : Str), l[j]? = some x ∧ d[j]? = some y ∧ y ≠ x) := by
  induction d generalizing l with
  | nil => exact absurd (List.nil_prefix) h
  | cons a d ih =>
    cases l with
    | nil => left; simp
    | cons b l =>
      by_cases e : a = b
      · subst e
        rcases ih l (fun k => h (List.cons_prefix_cons.2 ⟨rfl, k⟩)) with k | ⟨k, j, x, y, h1, h2, h3⟩
        · left; simp; omega
        · right; exact ⟨by simp; omega, j + 1, x, y, by simpa using h1, by simpa using h2, h3⟩
      · by_cases hl : l.length < d.length
        · left; simp; omega
        · right; exact ⟨by simp; omega, 0, b, a, rfl, rfl, e⟩

theorem cb_ends (a b : Str) (h : a = [] ∨ b = []) : decide (Lib.compareBytes a b < 0) = decide (a.length < b.length) := by
  rcases h with rfl | rfl
  · cases b with
    | nil => rfl
    | cons y ys => simp [Lib.compareBytes]
  · cases a with
    | nil => rfl
    | cons x xs => simp [Lib.compareBytes]

theorem fin_less {m n k : Nat} {R : Bool} (he : decide (m - k < n - k) = R) (hk : k ≤ m ∧ k ≤ n) : Ending.returned (.bool (decide (m < n))) = .returned (.bool R) := by
  refine ret_bool ?_
  rw [← he]
  exact decide_eq_decide.2 (by omega)

theorem byte_lt (x y : UInt8) : x < y ↔ (x.toNat : Int) < (y.toNat : Int) := by
  rw [UInt8.lt_iff_toNat_lt]; omega

set_option maxRecDepth 100000 in
set_option maxHeartbeats 2000000 in
theorem rless_any (a b : ByteArray) (ha : a.size ≤ 2000000) (w : World) :
    Calls Tryd.prog 79 #[.string a, .string b] w fun e w' => e = .returned (.bool (decide (Lib.compareBytes a.data.toList b.data.toList < 0))) ∧ Below w.heap.size w w' := by
  obtain ⟨R, hR⟩ : ∃ R, decide (Lib.compareBytes a.data.toList b.data.toList < 0) = R := ⟨_, rfl⟩
  rw [hR]
  have HR := Lib.hid hR
  have HA := Lib.hid (show a.data.toList.length = a.size from rfl)
  have HB := Lib.hid (show b.data.toList.length = b.size from rfl)
  clear hR
  go_enter Tryd.func79, Tryd.ntmps79
  go_wp2
  go_loopw [5] (fun i wr => ∃ k : Nat, k ≤ a.size ∧ k ≤ b.size ∧ i = .int .i64 k ∧ Hid (decide (Lib.compareBytes (a.data.toList.drop k) (b.data.toList.drop k) < 0) = R) ∧ Hid (Below w.heap.size w wr)) (fun i _ => a.size - (intOf i).toNat)
  case atStart => exact ⟨0, Nat.zero_le _, Nat.zero_le _, rfl, HR, Below.refl _ _⟩
  case round =>
    obtain ⟨k, hka, hkb, rfl, HR1, HW⟩ := hrel
    clear HR
    by_cases h1 : k < a.size
    · by_cases h2 : k < b.size
      · have ea : a.data.toList.drop k = a[k] :: a.data.toList.drop (k + 1) := (List.getElem_cons_drop (by rw [HA.out]; exact h1)).symm
        have eb : b.data.toList.drop k = b[k] :: b.data.toList.drop (k + 1) := (List.getElem_cons_drop (by rw [HB.out]; exact h2)).symm
        have HE := Lib.hid HR1.out
        have he := HR1.out
        rw [ea, eb, cb_cons] at he
        clear ea eb
        rcases byte_tri a[k] b[k] with hlt | heq | hgt
        · rw [if_pos hlt] at he
          have HLT := Lib.hid (UInt8.lt_iff_toNat_lt.1 hlt)
          have hlt := (byte_lt _ _).1 hlt
          have q1 : ((a[k].toNat : Int) == (b[k].toNat : Int)) = false := by rw [beq_eq_false_iff_ne]; omega
          have q2 : ((a[k].toNat : Int) != (b[k].toNat : Int)) = true := by rw [bne, q1]; rfl
          have q3 : decide ((a[k].toNat : Int) < (b[k].toNat : Int)) = true := decide_eq_true hlt
          clear hlt
          go_wp2
          go_region
          go_wp2
          go_region
          go_wp2
          go_ret
          exact ⟨ret_bool ((decide_eq_true HLT.out).trans (by rw [← he]; rfl)), below_drewN HW.out 2⟩
        · have q1 : ((a[k].toNat : Int) == (b[k].toNat : Int)) = true := by rw [heq, beq_self_eq_true]
          have q2 : ((a[k].toNat : Int) != (b[k].toNat : Int)) = false := by rw [bne, q1]; rfl
          rw [heq, if_neg (byte_irr _), if_neg (byte_irr _)] at he
          have HE2 := Lib.hid he
          clear heq he
          go_wp2
          go_region
          go_wp2
          go_roundw
          case rel => exact ⟨k + 1, h1, h2, by go_num, HE2, below_drewN HW.out 1⟩
          case measure => simp [intOf]; omega
        · rw [if_neg (byte_asymm _ _ hgt), if_pos hgt] at he
          have HLT := Lib.hid (UInt8.lt_iff_toNat_lt.1 hgt)
          have hgt := (byte_lt _ _).1 hgt
          have q1 : ((a[k].toNat : Int) == (b[k].toNat : Int)) = false := by rw [beq_eq_false_iff_ne]; omega
          have q2 : ((a[k].toNat : Int) != (b[k].toNat : Int)) = true := by rw [bne, q1]; rfl
          have q3 : decide ((a[k].toNat : Int) < (b[k].toNat : Int)) = false := decide_eq_false (by omega)
          clear hgt
          go_wp2
          go_region
          go_wp2
          go_region
          go_wp2
          go_ret
          exact ⟨ret_bool ((decide_eq_false (Nat.lt_asymm HLT.out)).trans (by rw [← he]; rfl)), below_drewN HW.out 2⟩
      · have he := HR1.out
        rw [cb_ends _ _ (.inr (List.drop_of_length_le (by rw [HB.out]; omega))), List.length_drop, List.length_drop, HA.out, HB.out] at he
        go_wp2
        go_ret
        exact ⟨fin_less he (by omega), HW.out⟩
    · have he := HR1.out
      rw [cb_ends _ _ (.inl (List.drop_of_length_le (by rw [HA.out]; omega))), List.length_drop, List.length_drop, HA.out, HB.out] at he
      go_wp2
      go_ret
      exact ⟨fin_less he (by omega), HW.out⟩
end Go.Proofs.YtiakedoebecgpaaDoor

namespace Go.Proofs.YtiakedoebecgpaaDoor
open Go.RowKit Go.Shelf

theorem chn {w w1 w2 : World} (h : Below w.heap.size w w1) (k : Below w1.heap.size w1 w2) : Below w.heap.size w w2 := h.trans (k.mono h.size)

set_option maxHeartbeats 2000000 in
theorem rcmp_vn (a b : ByteArray) (ha : a.size ≤ 2000000) (hb : b.size ≤ 2000000) (v1 : validB a.data.toList = true) (v2 : validB b.data.toList = false) (w : World) :
    Calls Tryd.prog 43 #[.string a, .string b] w fun e w' => e = .returned (.int .i64 1) ∧ Below w.heap.size w w' := by
  have H1 := Lib.hid v1
  have H2 := Lib.hid v2
  clear v1 v2
  go_enter Tryd.func43, Tryd.ntmps43
  go_wp2_with fail
  refine (rnames_is a ha _ H1.out _).mono ?_
  rintro e w1 ⟨a1, n1, c1, rfl, hb1⟩
  go_wp2_with fail
  refine ((rnames_any b hb _).2 H2.out).mono ?_
  rintro e w2 ⟨rfl, hb2⟩
  have hb3 := chn hb1 hb2
  have HB3 := Lib.hid hb3
  clear hb1 hb2 hb3
  go_wp2
  go_ret
  exact ⟨rfl, (HB3.out.alloc HB3.out.size _).alloc (by have := HB3.out.size; simp; omega) _⟩

set_option maxHeartbeats 2000000 in
theorem rcmp_nv (a b : ByteArray) (ha : a.size ≤ 2000000) (hb : b.size ≤ 2000000) (v1 : validB a.data.toList = false) (v2 : validB b.data.toList = true) (w : World) :
    Calls Tryd.prog 43 #[.string a, .string b] w fun e w' => e = .returned (.int .i64 (-1)) ∧ Below w.heap.size w w' := by
  have H1 := Lib.hid v1
  have H2 := Lib.hid v2
  clear v1 v2
  go_enter Tryd.func43, Tryd.ntmps43
  go_wp2_with fail
  refine ((rnames_any a ha _).2 H1.out).mono ?_
  rintro e w1 ⟨rfl, hb1⟩
  go_wp2_with fail
  refine (rnames_is b hb _ H2.out _).mono ?_
  rintro e w2 ⟨a2, n2, c2, rfl, hb2⟩
  have hb3 := chn hb1 hb2
  have HB3 := Lib.hid hb3
  clear hb1 hb2 hb3
  go_wp2
  go_ret
  exact ⟨rfl, (HB3.out.alloc HB3.out.size _).alloc (by have := HB3.out.size; simp; omega) _⟩

theorem rless_at (x y : Str) (hx : x.length ≤ 2000000) (b : Bool) (hb : decide (Lib.compareBytes x y < 0) = b) (w : World) :
    Calls Tryd.prog 79 #[.string ⟨x.toArray⟩, .string ⟨y.toArray⟩] w fun e w' => e = .returned (.bool b) ∧ Below w.heap.size w w' := by
  rw [← hb]; exact rless_any ⟨x.toArray⟩ ⟨y.toArray⟩ hx w
theorem drop_get {l : List Str} {k : Nat} {x : Str} (h : l[k]? = some x) : l.drop k = x :: l.drop (k + 1) := by
  obtain ⟨hl, rfl⟩ := List.getElem?_eq_some_iff.1 h
  exact (List.getElem_cons_drop hl).symm

set_option maxRecDepth 100000 in
set_option maxHeartbeats 4000000 in
theorem rcmp_vv (a b : ByteArray) (ha : a.size ≤ 2000000) (hb : b.size ≤ 2000000) (v1 : validB a.data.toList = true) (v2 : validB b.data.toList = true) (R : Int) (hR : cmpN (namesL a.data.toList) (namesL b.data.toList) = R) (w : World) :
    Calls Tryd.prog 43 #[.string a, .string b] w fun e w' => e = .returned (.int .i64 R) ∧ Below w.heap.size w w' := by
  obtain ⟨L, hL⟩ : ∃ L, namesL a.data.toList = L := ⟨_, rfl⟩
  obtain ⟨M, hM⟩ : ∃ M, namesL b.data.toList = M := ⟨_, rfl⟩
  rw [hL, hM] at hR
  have HC1 : Hid (∀ W, Calls Tryd.prog 78 #[.string a] W (RYes L W)) := fun W => by rw [← hL]; exact (rnames_any a ha W).1 v1
  have HC2 : Hid (∀ W, Calls Tryd.prog 78 #[.string b] W (RYes M W)) := fun W => by rw [← hM]; exact (rnames_any b hb W).1 v2
  have HZ1 : Hid (∀ x ∈ L, x.length ≤ 2000000) := fun x hx => by
    rw [← hL] at hx
    have := (name_ne x ((valid_names _ v1).2 x hx)).2.2.2
    omega
  obtain ⟨n, hn⟩ : ∃ n, L.length = n := ⟨_, rfl⟩
  obtain ⟨m, hm⟩ : ∃ m, M.length = m := ⟨_, rfl⟩
  have hn40 : n ≤ 40 := by rw [← hn, ← hL]; exact (valid_names _ v1).1
  have hm40 : m ≤ 40 := by rw [← hm, ← hM]; exact (valid_names _ v2).1
  have HN := Lib.hid hn
  have HM := Lib.hid hm
  have HR : Hid (cmpN (L.drop 0) (M.drop 0) = R) := hR
  clear hn hm hL hM hR v1 v2
  go_enter Tryd.func43, Tryd.ntmps43
  go_wp2_with fail
  refine (HC1.out _).mono ?_
  rintro e w1 ⟨v1, rfl, hr1, hb1⟩
  obtain ⟨a1, c1, rfl, _⟩ := hr1.slice
  rw [HN.out] at hr1 ⊢
  go_wp2_with fail
  refine (HC2.out _).mono ?_
  rintro e w2 ⟨v2, rfl, hr2, hb2⟩
  obtain ⟨a2, c2, rfl, _⟩ := hr2.slice
  rw [HM.out] at hr2 ⊢
  have HB3 := Lib.hid (chn hb1 hb2)
  have HR1 := Lib.hid (hr1.below hb2)
  have HR2 := Lib.hid hr2
  clear hr1 hr2 hb1 hb2
  go_wp2
  go_loopw [9] (fun i wr => ∃ k : Nat, k ≤ n ∧ k ≤ m ∧ i = .int .i64 k ∧ Hid (RdS wr (.slice a1 n c1) L) ∧ Hid (RdS wr (.slice a2 m c2) M) ∧ Hid (cmpN (L.drop k) (M.drop k) = R) ∧ Hid (Below w.heap.size w wr)) (fun i _ => n - (intOf i).toNat)
  case atStart => exact ⟨0, Nat.zero_le _, Nat.zero_le _, rfl, HR1, HR2, HR, HB3⟩
  case round =>
    clear HB3 HR1 HR2 HR
    obtain ⟨k, hk1, hk2, rfl, HR1, HR2, HR, HB3⟩ := hrel
    by_cases h1 : k < n
    · by_cases h2 : k < m
      · obtain ⟨x, hx⟩ : ∃ x, L[k]? = some x := ⟨_, List.getElem?_eq_getElem (by have := HN.out; omega)⟩
        obtain ⟨y, hy⟩ : ∃ y, M[k]? = some y := ⟨_, List.getElem?_eq_getElem (by have := HM.out; omega)⟩
        obtain ⟨g1, o1, rfl, _, k1⟩ := HR1.out.cells (by have := HN.out; omega)
        obtain ⟨g2, o2, rfl, _, k2⟩ := HR2.out.cells (by have := HM.out; omega)
        have hc1 := k1 k x hx
        have hc2 := k2 k y hy
        have hxz := HZ1.out x (List.mem_of_getElem? hx)
        unfold encS at hc1 hc2
        have he := HR.out
        rw [drop_get hx, drop_get hy, cmpN] at he
        have HE := Lib.hid he
        clear hx hy k1 k2 he
        by_cases hq : x = y
        · have he := HE.out
          rw [if_pos hq] at he
          have HE2 := Lib.hid he
          have q1 : (x == y) = true := by simp [hq]
          have q2 : (x != y) = false := by simp [hq]
          clear hq he
          go_wp2
          go_region
          go_wp2
          go_roundw
          case rel => exact ⟨k + 1, h1, h2, by go_num, HR1.out.drewN 1, HR2.out.drewN 1, HE2, below_drewN HB3.out 1⟩
          case measure => simp [intOf]; omega
        · have he := HE.out
          rw [if_neg hq] at he
          have HE2 := Lib.hid he
          have q1 : (x == y) = false := by simp [hq]
          have q2 : (x != y) = true := by simp [hq]
          have HQ := Lib.hid hq
          clear hq he
          by_cases hl : Lib.compareBytes x y < 0
          · have HD := Lib.hid (decide_eq_true hl)
            have hr : (-1 : Int) = R := by have h := HE2.out; have := cb_range x y; omega
            have HL := Lib.hid hr
            clear hl hr
            go_wp2
            go_region
            go_wp2
            obtain ⟨wd, hwd⟩ : ∃ wd, wr.drew = wd := ⟨_, rfl⟩
            have hc3 : wd.cell? ⟨g1, o1 + k, none⟩ = some (.string ⟨x.toArray⟩) := by rw [← hwd]; exact hc1
            have hc4 : wd.cell? ⟨g2, o2 + k, none⟩ = some (.string ⟨y.toArray⟩) := by rw [← hwd]; exact hc2
            have HBd : Hid (Below w.heap.size w wd) := by rw [← hwd]; exact below_drewN HB3.out 1
            rw [hwd]
            clear hc1 hc2 hwd
            go_still_tail 8, (by kernel_rfl)
            go_wp2_with fail
            refine (rless_at x y hxz true HD.out _).mono ?_
            rintro e w3 ⟨rfl, hb⟩
            go_wp2
            go_ret
            exact ⟨ret_int HL.out, chn (below_drewN HBd.out 1) hb⟩
          · have HD := Lib.hid (decide_eq_false hl)
            have hr : (1 : Int) = R := by
              have h : Lib.compareBytes x y = R := HE2.out
              have h0 : ¬ Lib.compareBytes x y = 0 := fun k => HQ.out ((cb_zero x y).1 k)
              have hg := cb_range x y
              rw [← h]
              omega
            have HL := Lib.hid hr
            clear hl hr
            go_wp2
            go_region
            go_wp2
            obtain ⟨wd, hwd⟩ : ∃ wd, wr.drew = wd := ⟨_, rfl⟩
            have hc3 : wd.cell? ⟨g1, o1 + k, none⟩ = some (.string ⟨x.toArray⟩) := by rw [← hwd]; exact hc1
            have hc4 : wd.cell? ⟨g2, o2 + k, none⟩ = some (.string ⟨y.toArray⟩) := by rw [← hwd]; exact hc2
            have HBd : Hid (Below w.heap.size w wd) := by rw [← hwd]; exact below_drewN HB3.out 1
            rw [hwd]
            clear hc1 hc2 hwd
            go_still_tail 8, (by kernel_rfl)
            go_wp2_with fail
            refine (rless_at x y hxz false HD.out _).mono ?_
            rintro e w3 ⟨rfl, hb⟩
            go_wp2
            go_ret
            exact ⟨ret_int HL.out, chn (below_drewN HBd.out 1) hb⟩
      · have he := HR.out
        rw [List.drop_of_length_le (show M.length ≤ k by have := HM.out; omega), drop_get (List.getElem?_eq_getElem (show k < L.length by have := HN.out; omega)), cmpN] at he
        have HL := Lib.hid he
        have t1 : ¬ n < m := by omega
        have t2 : m < n := by omega
        clear he
        go_wp2
        go_ret
        exact ⟨ret_int HL.out, HB3.out⟩
    · have he := HR.out
      rw [List.drop_of_length_le (show L.length ≤ k by have := HN.out; omega)] at he
      by_cases h2 : k < m
      · rw [drop_get (List.getElem?_eq_getElem (show k < M.length by have := HM.out; omega)), cmpN] at he
        have HL := Lib.hid he
        have t1 : n < m := by omega
        clear he
        go_wp2
        go_ret
        exact ⟨ret_int HL.out, HB3.out⟩
      · rw [List.drop_of_length_le (show M.length ≤ k by have := HM.out; omega), cmpN] at he
        have HL := Lib.hid he
        have t1 : ¬ n < m := by omega
        have t2 : ¬ m < n := by omega
        clear he
        go_wp2
        go_ret
        exact ⟨ret_int HL.out, HB3.out⟩

theorem new_row (w : World) (a : ByteArray) : RdS (w.alloc (.cells #[.string a] 9)) (.slice (some ⟨w.heap.size, 0, none⟩) 1 1) [a.data.toList] := by
  refine ⟨_, 1, rfl, Nat.le_refl _, by unfold maxLen; omega, fun _ => ⟨w.heap.size, 0, rfl, by simp, fun j x hx => ?_⟩⟩
  have hj : j = 0 := by have := (List.getElem?_eq_some_iff.1 hx).1; simp at this; exact this
  subst hj
  simp at hx
  subst hx
  rw [Nat.add_zero]
  exact cell_one_new w (.string a) 9 0 _ rfl

set_option maxRecDepth 100000 in
set_option maxHeartbeats 4000000 in
theorem rcmp_nn (a b : ByteArray) (ha : a.size ≤ 2000000) (hb : b.size ≤ 2000000) (v1 : validB a.data.toList = false) (v2 : validB b.data.toList = false) (R : Int) (hR : cmpN [a.data.toList] [b.data.toList] = R) (w : World) :
    Calls Tryd.prog 43 #[.string a, .string b] w fun e w' => e = .returned (.int .i64 R) ∧ Below w.heap.size w w' := by
  obtain ⟨L, hL⟩ : ∃ L, [a.data.toList] = L := ⟨_, rfl⟩
  obtain ⟨M, hM⟩ : ∃ M, [b.data.toList] = M := ⟨_, rfl⟩
  rw [hL, hM] at hR
  have H1 := Lib.hid v1
  have H2 := Lib.hid v2
  have HLL := Lib.hid hL
  have HMM := Lib.hid hM
  have HZ1 : Hid (∀ x ∈ L, x.length ≤ 2000000) := fun x hx => by
    rw [← hL] at hx
    simp at hx
    subst hx
    exact ha
  obtain ⟨n, hn⟩ : ∃ n, L.length = n := ⟨_, rfl⟩
  obtain ⟨m, hm⟩ : ∃ m, M.length = m := ⟨_, rfl⟩
  have hn1 : n = 1 := by rw [← hn, ← hL]; rfl
  have hm1 : m = 1 := by rw [← hm, ← hM]; rfl
  have HN := Lib.hid hn
  have HM := Lib.hid hm
  have HR : Hid (cmpN (L.drop 0) (M.drop 0) = R) := hR
  clear hn hm hL hM hR v1 v2
  go_enter Tryd.func43, Tryd.ntmps43
  go_wp2_with fail
  refine ((rnames_any a ha _).2 H1.out).mono ?_
  rintro e w1 ⟨rfl, hb1⟩
  go_wp2_with fail
  refine ((rnames_any b hb _).2 H2.out).mono ?_
  rintro e w2 ⟨rfl, hb2⟩
  have HB2 := Lib.hid (chn hb1 hb2)
  clear hb1 hb2
  go_wp2
  have hr1 := new_row w2 a
  have hr2 := new_row (w2.alloc (.cells #[.string a] 9)) b
  have hb3 : Below w.heap.size w ((w2.alloc (.cells #[.string a] 9)).alloc (.cells #[.string b] 9)) := (HB2.out.alloc HB2.out.size _).alloc (by have := HB2.out.size; simp; omega) _
  have hr1 := hr1.below ((Below.refl _ _).alloc (Nat.le_refl _) (.cells #[.string b] 9))
  rw [HLL.out] at hr1
  rw [HMM.out] at hr2
  rw [show (w2.alloc (.cells #[.string a] 9)).heap.size = w2.heap.size + 1 by simp] at hr2
  have HB3 := Lib.hid hb3
  have HR1 := Lib.hid hr1
  have HR2 := Lib.hid hr2
  clear hr1 hr2 hb3
  obtain ⟨wz, hwz⟩ : ∃ wz, (w2.alloc (.cells #[.string a] 9)).alloc (.cells #[.string b] 9) = wz := ⟨_, rfl⟩
  rw [hwz] at HR1 HR2 HB3 ⊢
  obtain ⟨a1, ha1⟩ : ∃ a1 : Option Addr, some ⟨w2.heap.size, 0, none⟩ = a1 := ⟨_, rfl⟩
  obtain ⟨a2, ha2⟩ : ∃ a2 : Option Addr, some ⟨w2.heap.size + 1, 0, none⟩ = a2 := ⟨_, rfl⟩
  rw [ha1] at HR1 ⊢
  rw [ha2] at HR2 ⊢
  obtain ⟨c1, hc1⟩ : ∃ c1 : Nat, c1 = 1 := ⟨_, rfl⟩
  obtain ⟨c2, hc2⟩ : ∃ c2 : Nat, c2 = 1 := ⟨_, rfl⟩
  rw [show Value.slice a1 1 1 = Value.slice a1 n c1 from by rw [hn1, hc1]] at HR1 ⊢
  rw [show Value.slice a2 1 1 = Value.slice a2 m c2 from by rw [hm1, hc2]] at HR2 ⊢
  have hn40 : n ≤ 40 := by omega
  have hm40 : m ≤ 40 := by omega
  clear hwz ha1 ha2 hn1 hm1 hc1 hc2
  go_loopw [9] (fun i wr => ∃ k : Nat, k ≤ n ∧ k ≤ m ∧ i = .int .i64 k ∧ Hid (RdS wr (.slice a1 n c1) L) ∧ Hid (RdS wr (.slice a2 m c2) M) ∧ Hid (cmpN (L.drop k) (M.drop k) = R) ∧ Hid (Below w.heap.size w wr)) (fun i _ => n - (intOf i).toNat)
  case atStart => exact ⟨0, Nat.zero_le _, Nat.zero_le _, rfl, HR1, HR2, HR, HB3⟩
  case round =>
    clear HB3 HR1 HR2 HR
    obtain ⟨k, hk1, hk2, rfl, HR1, HR2, HR, HB3⟩ := hrel
    by_cases h1 : k < n
    · by_cases h2 : k < m
      · obtain ⟨x, hx⟩ : ∃ x, L[k]? = some x := ⟨_, List.getElem?_eq_getElem (by have := HN.out; omega)⟩
        obtain ⟨y, hy⟩ : ∃ y, M[k]? = some y := ⟨_, List.getElem?_eq_getElem (by have := HM.out; omega)⟩
        obtain ⟨g1, o1, rfl, _, k1⟩ := HR1.out.cells (by have := HN.out; omega)
        obtain ⟨g2, o2, rfl, _, k2⟩ := HR2.out.cells (by have := HM.out; omega)
        have hc1 := k1 k x hx
        have hc2 := k2 k y hy
        have hxz := HZ1.out x (List.mem_of_getElem? hx)
        unfold encS at hc1 hc2
        have he := HR.out
        rw [drop_get hx, drop_get hy, cmpN] at he
        have HE := Lib.hid he
        clear hx hy k1 k2 he
        by_cases hq : x = y
        · have he := HE.out
          rw [if_pos hq] at he
          have HE2 := Lib.hid he
          have q1 : (x == y) = true := by simp [hq]
          have q2 : (x != y) = false := by simp [hq]
          clear hq he
          go_wp2
          go_region
          go_wp2
          go_roundw
          case rel => exact ⟨k + 1, h1, h2, by go_num, HR1.out.drewN 1, HR2.out.drewN 1, HE2, below_drewN HB3.out 1⟩
          case measure => simp [intOf]; omega
        · have he := HE.out
          rw [if_neg hq] at he
          have HE2 := Lib.hid he
          have q1 : (x == y) = false := by simp [hq]
          have q2 : (x != y) = true := by simp [hq]
          have HQ := Lib.hid hq
          clear hq he
          by_cases hl : Lib.compareBytes x y < 0
          · have HD := Lib.hid (decide_eq_true hl)
            have hr : (-1 : Int) = R := by have h := HE2.out; have := cb_range x y; omega
            have HL := Lib.hid hr
            clear hl hr
            go_wp2
            go_region
            go_wp2
            obtain ⟨wd, hwd⟩ : ∃ wd, wr.drew = wd := ⟨_, rfl⟩
            have hc3 : wd.cell? ⟨g1, o1 + k, none⟩ = some (.string ⟨x.toArray⟩) := by rw [← hwd]; exact hc1
            have hc4 : wd.cell? ⟨g2, o2 + k, none⟩ = some (.string ⟨y.toArray⟩) := by rw [← hwd]; exact hc2
            have HBd : Hid (Below w.heap.size w wd) := by rw [← hwd]; exact below_drewN HB3.out 1
            rw [hwd]
            clear hc1 hc2 hwd
            go_still_tail 8, (by kernel_rfl)
            go_wp2_with fail
            refine (rless_at x y hxz true HD.out _).mono ?_
            rintro e w3 ⟨rfl, hb⟩
            go_wp2
            go_ret
            exact ⟨ret_int HL.out, chn (below_drewN HBd.out 1) hb⟩
          · have HD := Lib.hid (decide_eq_false hl)
            have hr : (1 : Int) = R := by
              have h : Lib.compareBytes x y = R := HE2.out
              have h0 : ¬ Lib.compareBytes x y = 0 := fun k => HQ.out ((cb_zero x y).1 k)
              have hg := cb_range x y
              rw [← h]
              omega
            have HL := Lib.hid hr
            clear hl hr
            go_wp2
            go_region
            go_wp2
            obtain ⟨wd, hwd⟩ : ∃ wd, wr.drew = wd := ⟨_, rfl⟩
            have hc3 : wd.cell? ⟨g1, o1 + k, none⟩ = some (.string ⟨x.toArray⟩) := by rw [← hwd]; exact hc1
            have hc4 : wd.cell? ⟨g2, o2 + k, none⟩ = some (.string ⟨y.toArray⟩) := by rw [← hwd]; exact hc2
            have HBd : Hid (Below w.heap.size w wd) := by rw [← hwd]; exact below_drewN HB3.out 1
            rw [hwd]
            clear hc1 hc2 hwd
            go_still_tail 8, (by kernel_rfl)
            go_wp2_with fail
            refine (rless_at x y hxz false HD.out _).mono ?_
            rintro e w3 ⟨rfl, hb⟩
            go_wp2
            go_ret
            exact ⟨ret_int HL.out, chn (below_drewN HBd.out 1) hb⟩
      · have he := HR.out
        rw [List.drop_of_length_le (show M.length ≤ k by have := HM.out; omega), drop_get (List.getElem?_eq_getElem (show k < L.length by have := HN.out; omega)), cmpN] at he
        have HL := Lib.hid he
        have t1 : ¬ n < m := by omega
        have t2 : m < n := by omega
        clear he
        go_wp2
        go_ret
        exact ⟨ret_int HL.out, HB3.out⟩
    · have he := HR.out
      rw [List.drop_of_length_le (show L.length ≤ k by have := HN.out; omega)] at he
      by_cases h2 : k < m
      · rw [drop_get (List.getElem?_eq_getElem (show k < M.length by have := HM.out; omega)), cmpN] at he
        have HL := Lib.hid he
        have t1 : n < m := by omega
        clear he
        go_wp2
        go_ret
        exact ⟨ret_int HL.out, HB3.out⟩
      · rw [List.drop_of_length_le (show M.length ≤ k by have := HM.out; omega), cmpN] at he
        have HL := Lib.hid he
        have t1 : ¬ n < m := by omega
        have t2 : ¬ m < n := by omega
        clear he
        go_wp2
        go_ret
        exact ⟨ret_int HL.out, HB3.out⟩

theorem rcmp_any (a b : ByteArray) (ha : a.size ≤ 2000000) (hb : b.size ≤ 2000000) (w : World) :
    Calls Tryd.prog 43 #[.string a, .string b] w fun e w' => e = .returned (.int .i64 (cmpL a.data.toList b.data.toList)) ∧ Below w.heap.size w w' := by
  by_cases v1 : validB a.data.toList = true
  · by_cases v2 : validB b.data.toList = true
    · rw [cmpL, if_pos v1, if_pos v2]; exact rcmp_vv a b ha hb v1 v2 _ rfl w
    · rw [cmpL, if_pos v1, if_neg v2]; exact rcmp_vn a b ha hb v1 (Bool.eq_false_iff.2 v2) w
  · by_cases v2 : validB b.data.toList = true
    · rw [cmpL, if_neg v1, if_pos v2]; exact rcmp_nv a b ha hb (Bool.eq_false_iff.2 v1) v2 w
    · rw [cmpL, if_neg v1, if_neg v2]
      refine rcmp_nn a b ha hb (Bool.eq_false_iff.2 v1) (Bool.eq_false_iff.2 v2) _ ?_ w
      rw [cmpN]
      by_cases e : a.data.toList = b.data.toList
      · rw [if_pos e, (cb_zero _ _).2 e]; rfl
      · rw [if_neg e]
end Go.Proofs.YtiakedoebecgpaaDoor

namespace Go.Proofs.YtiakedoebecgpaaDoor
open Go.RowKit Go.Shelf

def refG (l : List It) (p : Str) : It × Bool := if p = [47] then (⟨[47], 1, []⟩, true) else match l.find? (fun x => x.path == p) with
  | some x => (x, true)
  | none => (.nil, false)
set_option maxRecDepth 100000 in
set_option maxHeartbeats 4000000 in
theorem rget_any (l : List It) (v : Value) (p : ByteArray) (w : World) (hv : RdI w v l) (hl : l.length ≤ 1000000) : Calls Tryd.prog 47 #[.agg #[v], .string p] w fun e w' => e = .returned (.tuple #[.agg (refG l p.data.toList).1.arr, .bool (refG l p.data.toList).2]) ∧ Below w.heap.size w w' := by
  obtain ⟨w1, hw1⟩ : ∃ z, z = (w.alloc (.cells #[v] 24)).alloc (.cells #[.string ⟨#[]⟩, .int .i64 0, .string ⟨#[]⟩] 35) := ⟨_, rfl⟩
  have X : Box w1 w.heap.size 24 #[v] := by rw [hw1]; exact box_new.alloc _
  have X1 : Hid (Box w1 (w.heap.size + 1) 35 It.nil.arr) := Lib.hid (by rw [hw1, show w.heap.size + 1 = (w.alloc (.cells #[v] 24)).heap.size from by simp]; exact box_new)
  have HB1 : Hid (Below w.heap.size w w1) := Lib.hid (by rw [hw1]; exact bch (below_new _ _) (below_new _ _))
  have HV := Lib.hid (hv.on HB1.out)
  obtain ⟨b4, hb4⟩ : ∃ z, z = w.heap.size + 1 := ⟨_, rfl⟩
  rw [← hb4] at X1
  have H4 : Hid (w.heap.size ≤ b4) := Lib.hid (by rw [hb4]; exact Nat.le_succ _)
  have c0 := X.cell (k := 0) rfl
  obtain ⟨a, c, rfl, hlc, hcm, _⟩ := hv.open
  obtain ⟨n, hn⟩ : ∃ n, n = l.length := ⟨_, rfl⟩
  rw [← hn] at HV c0 hl hlc hw1 ⊢
  have HN := Lib.hid hn
  have hlI : (n : Int) ≤ 1000000 := by omega
  clear hv X hn
  by_cases hp : p.toList = [47]
  · have HR : Hid (refG l p.data.toList = (⟨[47], 1, []⟩, true)) := Lib.hid (by unfold refG; rw [Lib.toList_data] at hp; rw [if_pos hp])
    have t1 : (p.toList == [47]) = true := by simp [hp]
    have hpb : p = ⟨[47].toArray⟩ := by rw [Lib.toList_data] at hp; rw [← hp]
    subst hpb
    clear hp
    go_enter Tryd.func47, Tryd.ntmps47
    go_upto_region 1 with fail
    rw [← hw1, ← hb4]
    clear hw1 hb4
    go_wp2_with (refine wpList_store_row rfl 35 (.tmp 4) (.tmp 11) rfl b4 (It.arr ⟨[47], 1, []⟩) rfl rfl 35 _ X1.out (info35 _) rfl (iarr_one _) ?_)
    exact bodyPost_ret (end_item rfl _ (X1.out.row _) rfl rfl) rfl ⟨by rw [HR.out]; rfl, below_row HB1.out H4.out _⟩
  · have HR : Hid (refG l p.data.toList = match l.find? (fun x => x.path == p.data.toList) with | some x => (x, true) | none => (.nil, false)) := Lib.hid (by unfold refG; rw [Lib.toList_data] at hp; rw [if_neg hp])
    have t1 : (p.toList == [47]) = false := by simp [hp]
    have HP := Lib.hid hp
    go_enter Tryd.func47, Tryd.ntmps47
    go_upto_region 1 with fail
    rw [← hw1, ← hb4]
    clear hw1 hb4
    go_wp2_with fail
    clear t1 hp
    go_loopw [15] (fun i W => ∃ k : Nat, k ≤ n ∧ i = .int .i64 k ∧ Hid (∀ (j : Nat) (x : It), l[j]? = some x → j < k → x.path ≠ p.data.toList) ∧ Hid (Below w1.heap.size w1 W)) (fun i _ => n - (Lib.intOf i).toNat)
    case atStart => exact ⟨0, Nat.zero_le _, rfl, Lib.hid (fun j x _ h => absurd h (Nat.not_lt_zero _)), Lib.hid (Below.refl _ _)⟩
    case round =>
      obtain ⟨k, hk, rfl, HLo, HBk⟩ := hrel
      obtain ⟨wq, hwq⟩ : ∃ q, q = wr := ⟨_, rfl⟩
      rw [← hwq] at HBk ⊢
      clear hwq
      by_cases hlt : k < n
      · obtain ⟨x, hx⟩ : ∃ x, l[k]? = some x := ⟨_, List.getElem?_eq_getElem (by rw [← HN.out]; exact hlt)⟩
        obtain ⟨a', c', e, _, _, hc⟩ := (HV.out.on HBk.out).open
        rw [← HN.out] at e
        cases e
        obtain ⟨g, o, rfl, hg, hc⟩ := hc (by rw [← HN.out]; omega)
        obtain ⟨q0, q1, q2⟩ := hc k x hx
        have k1 : (k : Int) < (n : Int) := by omega
        have k2 : (0 : Int) ≤ (k : Int) := by omega
        have k4 : IntKind.i64.wrap ((k : Int) + 1) = (k : Int) + 1 := IntWalk.i64_in _ (by omega)
        obtain ⟨w5, hw5⟩ : ∃ q, q = wq.alloc (.cells #[.string ⟨x.path.toArray⟩, .int .i64 x.kind, .string ⟨x.data.toArray⟩] 35) := ⟨_, rfl⟩
        have X5 : Box w5 wq.heap.size 35 x.arr := by rw [hw5]; exact box_new
        have HB5 : Hid (Below w1.heap.size w1 w5) := Lib.hid (by rw [hw5]; exact bch HBk.out (below_new _ _))
        obtain ⟨d0, d1, d2⟩ := X5.it
        have HX := Lib.hid hx
        clear hc hx X5
        go_upto_region 6 with fail
        obtain ⟨b7, hb7⟩ : ∃ q, q = wq.heap.size := ⟨_, rfl⟩
        rw [← hb7] at d0 d1 d2 ⊢
        rw [← hw5]
        clear hw5 hb7 q0 q1 q2
        by_cases he : x.path = p.data.toList
        · have t2 : x.path = p.toList := by rw [Lib.toList_data]; exact he
          have t3 : (x.path == p.toList) = true := by simp [t2]
          have HF : Hid (l.find? (fun x => x.path == p.data.toList) = some x) := Lib.hid (by
            rw [List.find?_eq_some_iff_getElem]
            refine ⟨by simp [he], k, (List.getElem?_eq_some_iff.1 HX.out).1, (List.getElem?_eq_some_iff.1 HX.out).2, fun j hj => ?_⟩
            have hjl : j < l.length := Nat.lt_trans hj (List.getElem?_eq_some_iff.1 HX.out).1
            have := HLo.out j (l[j]'hjl) (List.getElem?_eq_getElem hjl) hj
            simpa using this)
          have X7 := Lib.hid (X1.out.on HB5.out)
          have HB7 := Lib.hid (bch HB1.out HB5.out)
          have HXE : Hid (x.arr = It.arr ⟨p.toList, x.kind, x.data⟩) := Lib.hid (by rw [← t2])
          clear he
          go_wp2_with (refine wpList_store_row rfl 35 (.tmp 4) (.tmp 23) rfl b4 (It.arr ⟨p.toList, x.kind, x.data⟩) rfl rfl 35 _ X7.out (info35 _) rfl (iarr_one _) ?_)
          exact bodyPost_ret (end_item rfl _ (X7.out.row _) rfl rfl) rfl ⟨by rw [HR.out, HF.out]; show _ = Ending.returned (.tuple #[.agg x.arr, .bool true]); rw [HXE.out]; rfl, below_row HB7.out H4.out _⟩
        · have t2 : ¬ x.path = p.toList := by rw [Lib.toList_data]; exact he
          have t3 : (x.path == p.toList) = false := by simp [t2]
          have HLo2 : Hid (∀ (j : Nat) (y : It), l[j]? = some y → j < k + 1 → y.path ≠ p.data.toList) := Lib.hid (fun j y hj hlt => by
            rcases Nat.lt_or_ge j k with h | h
            · exact HLo.out j y hj h
            · obtain rfl : j = k := by omega
              rw [HX.out] at hj; cases hj; exact he)
          clear he
          go_wp2_with fail
          go_roundw
          case rel => exact ⟨k + 1, hlt, by go_num, HLo2, HB5⟩
          case measure => simp [Lib.intOf]; omega
      · have k1 : ¬ ((k : Int) < (n : Int)) := by omega
        have HF : Hid (l.find? (fun x => x.path == p.data.toList) = none) := Lib.hid (by
          rw [List.find?_eq_none]
          intro x hx
          obtain ⟨j, hj⟩ := List.mem_iff_getElem?.1 hx
          have := HLo.out j x hj (by have := (List.getElem?_eq_some_iff.1 hj).1; rw [← HN.out] at this; omega)
          simpa using this)
        have X7 := Lib.hid (X1.out.on HBk.out)
        have HB7 := Lib.hid (bch HB1.out HBk.out)
        go_wp2_with (first
          | (with_reducible refine wpList_zero rfl 35 rfl It.nil.arr zero35 ?_)
          | (refine wpList_store_row rfl 35 (.tmp 4) (.tmp 25) rfl b4 It.nil.arr rfl rfl 35 _ X7.out (info35 _) rfl (iarr_one _) ?_))
        exact bodyPost_ret (end_item rfl _ (X7.out.row _) rfl rfl) rfl ⟨by rw [HR.out, HF.out]; rfl, below_row HB7.out H4.out _⟩
end Go.Proofs.YtiakedoebecgpaaDoor

namespace Go.Proofs.YtiakedoebecgpaaDoor
open Go.RowKit Go.Shelf

def rightI (x : It) : Bool := validB x.path && (!decide (x.path = [47]) && x.dataB)
set_option maxRecDepth 100000 in
set_option maxHeartbeats 4000000 in
theorem rightitem_at (x : It) (hx : x.path.length ≤ 2000000) (R : Bool) (hR : rightI x = R) (w : World) : Calls Tryd.prog 42 #[.agg #[.string ⟨x.path.toArray⟩, .int .i64 x.kind, .string ⟨x.data.toArray⟩]] w fun e w' => e = .returned (.bool R) ∧ Below w.heap.size w w' := by
  obtain ⟨w1, hw1⟩ : ∃ z, z = w.alloc (.cells #[.string ⟨x.path.toArray⟩, .int .i64 x.kind, .string ⟨x.data.toArray⟩] 35) := ⟨_, rfl⟩
  have X : Box w1 w.heap.size 35 x.arr := by rw [hw1]; exact box_new
  have HB1 : Hid (Below w.heap.size w w1) := Lib.hid (by rw [hw1]; exact below_new _ _)
  have HX := Lib.hid X
  obtain ⟨d0, d1, d2⟩ := X.it
  obtain ⟨b, hb⟩ : ∃ b, b = validB x.path := ⟨_, rfl⟩
  have HC : Hid (Calls Tryd.prog 48 #[.string ⟨x.path.toArray⟩] w1 fun e w' => e = .returned (.bool b) ∧ Below w1.heap.size w1 w') := Lib.hid (by
    have := rright_any ⟨x.path.toArray⟩ hx w1
    rw [hb]; simpa using this)
  have hsz : (⟨x.data.toArray⟩ : ByteArray).size = x.data.length := by show x.data.toArray.size = _; rw [List.size_toArray]
  unfold rightI at hR
  rw [← hb] at hR
  clear hb X
  have HRR := Lib.hid hR
  clear hR
  go_enter Tryd.func42, Tryd.ntmps42
  go_upto_region 1 with fail
  rw [← hw1]
  clear hw1
  go_wp2_with fail
  refine HC.out.mono ?_
  rintro e w2 ⟨rfl, hb⟩
  have HB2 := Lib.hid (bch HB1.out hb)
  obtain ⟨e0, e1, e2⟩ := (HX.out.on hb).it
  clear hb HC d0 d1 d2
  have hR := HRR.out
  clear HRR
  cases b with
  | false =>
    have HR : Hid (R = false) := Lib.hid (by rw [← hR]; rfl)
    clear hR hsz
    go_wp2_with fail
    go_ret
    exact ⟨by rw [HR.out]; rfl, HB2.out⟩
  | true =>
    simp only [Bool.true_and] at hR
    by_cases h47 : x.path = [47]
    · have HR : Hid (R = false) := Lib.hid (by rw [← hR]; simp [h47])
      rw [h47] at e0
      clear hR hsz h47
      go_wp2_with fail
      go_ret
      exact ⟨by rw [HR.out]; rfl, HB2.out⟩
    · have t1 : (x.path == [47]) = false := by simp [h47]
      have hR2 : x.dataB = R := by rw [← hR]; simp [h47]
      clear hR
      unfold It.dataB at hR2
      by_cases k1 : x.kind = 1
      · rw [if_pos k1] at hR2
        have HR : Hid (x.data.isEmpty = R) := Lib.hid (by rw [← hR2]; cases x.data <;> simp)
        rw [k1] at e1
        clear hR2 hsz k1
        go_wp2_with fail
        go_ret
        exact ⟨by rw [← HR.out]; rfl, HB2.out⟩
      · rw [if_neg k1] at hR2
        have s1 : (x.kind == 1) = false := by simp [k1]
        by_cases k2 : x.kind = 2
        · rw [if_pos k2] at hR2
          rw [k2] at e1
          have HR : Hid (decide ((x.data.length : Int) ≤ 524288) = R) := Lib.hid (by rw [← hR2]; exact decide_eq_decide.2 (by omega))
          clear hR2 k2 s1 k1
          go_wp2_with fail
          go_ret
          exact ⟨by rw [← HR.out]; rfl, HB2.out⟩
        · rw [if_neg k2] at hR2
          have s2 : (x.kind == 2) = false := by simp [k2]
          by_cases k3 : x.kind = 3
          · rw [if_pos k3] at hR2
            rw [k3] at e1
            by_cases h0 : x.data = []
            · have HR : Hid (R = false) := Lib.hid (by rw [← hR2]; simp [h0])
              rw [h0] at e2
              clear hR2 k3 s1 s2 k1 k2 h0 hsz
              go_wp2_with fail
              go_ret
              exact ⟨by rw [HR.out]; rfl, HB2.out⟩
            · have s3 : (x.data == []) = false := by simp [h0]
              have s4 : (x.data != []) = true := by simp [h0]
              have HR : Hid (decide ((x.data.length : Int) ≤ 2000) = R) := Lib.hid (by
                rw [← hR2]
                have : 1 ≤ x.data.length := List.length_pos_iff.2 h0
                exact decide_eq_decide.2 (by omega))
              clear hR2 k3 s1 s2 k1 k2 h0
              go_wp2_with fail
              go_ret
              exact ⟨by rw [← HR.out]; rfl, HB2.out⟩
          · rw [if_neg k3] at hR2
            have s3 : (x.kind == 3) = false := by simp [k3]
            have HR : Hid (R = false) := Lib.hid hR2.symm
            clear hR2 k1 k2 k3 hsz
            go_wp2_with fail
            go_ret
            exact ⟨by rw [HR.out]; rfl, HB2.out⟩
end Go.Proofs.YtiakedoebecgpaaDoor

namespace Go.Proofs.YtiakedoebecgpaaDoor

def popR (T : List Str) (up : Str) : List Str := T.dropWhile (· != up)
def step2 (T : List Str) (x : It) : Option (List Str) :=
  if upL x.path ≠ [47] ∧ popR T (upL x.path) = [] then none else some (if x.kind = 1 then x.path :: popR T (upL x.path) else popR T (upL x.path))
def run2 (l : List It) : Option (List Str) := l.foldl (fun o x => o.bind (step2 · x)) (some [])
theorem run2_snoc (l : List It) (x : It) : run2 (l ++ [x]) = (run2 l).bind (step2 · x) := by simp [run2]
theorem drop_app (T : List Str) (r up : Str) : (T ++ [r]).dropWhile (· != up) = if up ∈ T then popR T up ++ [r] else [r].dropWhile (· != up) := by
  induction T with
  | nil => simp
  | cons a T ih =>
    rw [List.cons_append, List.dropWhile_cons]
    by_cases ha : a = up
    · subst ha; simp [popR]
    · have h1 : (a != up) = true := by simp [ha]
      have h2 : up ∈ a :: T ↔ up ∈ T := by simp [Ne.symm ha]
      rw [if_pos h1, ih]
      by_cases hu : up ∈ T
      · rw [if_pos hu, if_pos (h2.2 hu), popR, popR, List.dropWhile_cons, if_pos h1]
      · rw [if_neg hu, if_neg (fun h => hu (h2.1 h))]
theorem pop_none {T : List Str} {up : Str} (h : up ∉ T) : popR T up = [] := by
  unfold popR
  induction T with
  | nil => rfl
  | cons a T ih =>
    rw [List.dropWhile_cons, if_pos (by simp; rintro rfl; exact h (by simp))]
    exact ih (fun hm => h (by simp [hm]))
theorem pop_some {T : List Str} {up : Str} (h : up ∈ T) : popR T up ≠ [] := by
  unfold popR
  induction T with
  | nil => cases h
  | cons a T ih =>
    rw [List.dropWhile_cons]
    split
    · rename_i ha
      rcases List.mem_cons.1 h with rfl | h
      · simp at ha
      · exact ih h
    · simp
theorem map_leave (st : List Lv) (d : Str) : (leaveL st d).map (·.1) = (st.map (·.1)).dropWhile (· != d) := by
  unfold leaveL
  induction st with
  | nil => rfl
  | cons a st ih =>
    rw [List.dropWhile_cons, List.map_cons, List.dropWhile_cons]
    split
    · exact ih
    · rfl
theorem run2_of (l : List It) : ∀ st, runV l = some st → ∃ T, st.map (·.1) = T ++ [[47]] ∧ [47] ∉ T ∧ run2 l = some T := by
  induction l using snoc_ind with
  | nil => intro st h; cases h; exact ⟨[], rfl, by simp, rfl⟩
  | snoc l x ih =>
    intro st' h
    have hk := (good_run _ _ h).kid x (by simp)
    rw [runV_snoc] at h
    cases e : runV l with
    | none => rw [e] at h; cases h
    | some st =>
      rw [e] at h
      obtain ⟨T, h1, h2, h3⟩ := ih st e
      obtain ⟨d, lst, r, e1, rfl, _, _, rfl⟩ := stepV_some (show stepV st x = some st' from h)
      have hm := map_leave st (upL x.path)
      rw [e1, h1, drop_app] at hm
      rw [run2_snoc, h3]
      show ∃ T', _ ∧ _ ∧ step2 T x = some T'
      have hpath : x.path ≠ [47] := hk.1.2.1
      by_cases hu : upL x.path ∈ T
      · rw [if_pos hu] at hm
        have hne := pop_some hu
        have hsub : [47] ∉ popR T (upL x.path) := fun hc => h2 ((List.dropWhile_sublist _).subset hc)
        have hst : step2 T x = some (if x.kind = 1 then x.path :: popR T (upL x.path) else popR T (upL x.path)) := by
          unfold step2
          rw [if_neg (show ¬ (upL x.path ≠ [47] ∧ popR T (upL x.path) = []) from fun hc => hne hc.2)]
        rw [hst]
        by_cases hk1 : x.kind = 1
        · simp only [if_pos hk1]
          refine ⟨_, ?_, ?_, rfl⟩
          · simp only [List.map_cons] at hm ⊢
            rw [hm]; rfl
          · simp only [List.mem_cons, not_or]
            exact ⟨fun e => hpath e.symm, hsub⟩
        · simp only [if_neg hk1]
          exact ⟨_, by simp only [List.map_cons] at hm ⊢; rw [hm], hsub, rfl⟩
      · rw [if_neg hu] at hm
        have hroot : upL x.path = [47] := by
          simp only [List.map_cons] at hm
          by_cases h47 : [47] = upL x.path
          · exact h47.symm
          · rw [List.dropWhile_cons, if_pos (by simpa using h47)] at hm; cases hm
        have hnil := pop_none hu
        have hr : r = [] := by
          rw [List.dropWhile_cons, if_neg (by simp [hroot])] at hm
          simp only [List.map_cons, List.cons.injEq, List.map_eq_nil_iff] at hm
          exact hm.2
        have hst : step2 T x = some (if x.kind = 1 then [x.path] else []) := by
          unfold step2
          rw [if_neg (show ¬ (upL x.path ≠ [47] ∧ popR T (upL x.path) = []) from fun hc => hc.1 hroot), hnil]
        rw [hst, hr]
        by_cases hk1 : x.kind = 1
        · simp only [if_pos hk1]
          exact ⟨[x.path], by simp [hroot], by simpa using fun e => hpath e.symm, rfl⟩
        · simp only [if_neg hk1]
          exact ⟨[], by simp [hroot], by simp, rfl⟩
theorem run2_up (l : List It) : ∀ T, run2 l = some T → (∀ d ∈ T, ∃ y ∈ l, y.path = d ∧ y.kind = 1) ∧ ∀ x ∈ l, upL x.path = [47] ∨ ∃ y ∈ l, y.path = upL x.path ∧ y.kind = 1 := by
  induction l using snoc_ind with
  | nil => intro T h; cases h; exact ⟨(fun d hd => by cases hd), (fun x hx => by cases hx)⟩
  | snoc l x ih =>
    intro T' h
    rw [run2_snoc] at h
    cases e : run2 l with
    | none => rw [e] at h; cases h
    | some T =>
      rw [e] at h
      obtain ⟨h1, h2⟩ := ih T e
      have h' : step2 T x = some T' := h
      unfold step2 at h'
      split at h'
      · cases h'
      · rename_i hc
        have lift : ∀ {d : Str}, (∃ y ∈ l, y.path = d ∧ y.kind = 1) → ∃ y ∈ l ++ [x], y.path = d ∧ y.kind = 1 := fun ⟨y, hy, r⟩ => ⟨y, List.mem_append_left _ hy, r⟩
        have hpop : ∀ d ∈ popR T (upL x.path), ∃ y ∈ l ++ [x], y.path = d ∧ y.kind = 1 := fun d hd => lift (h1 d ((List.dropWhile_sublist _).subset hd))
        refine ⟨?_, fun z hz => ?_⟩
        · intro d hd
          have e5 := Option.some.inj h'
          rw [← e5] at hd
          split at hd
          · rename_i hk1
            rcases List.mem_cons.1 hd with rfl | hd
            · exact ⟨x, by simp, rfl, hk1⟩
            · exact hpop d hd
          · exact hpop d hd
        · rcases List.mem_append.1 hz with hz | hz
          · rcases h2 z hz with h | h
            · exact .inl h
            · exact .inr (lift h)
          · rw [List.mem_singleton] at hz
            subst hz
            by_cases h47 : upL z.path = [47]
            · exact .inl h47
            · right
              have hne : popR T (upL z.path) ≠ [] := fun hn => hc ⟨h47, hn⟩
              have hin : upL z.path ∈ T := by
                by_cases hu : upL z.path ∈ T
                · exact hu
                · exact absurd (pop_none hu) hne
              exact lift (h1 _ hin)
def chainR : List It → Bool
  | a :: b :: r => decide (cmpL a.path b.path < 0) && chainR (b :: r)
  | _ => true
theorem chain_pair : ∀ {l : List It}, chainR l = true ↔ l.Pairwise fun a b => cmpL a.path b.path < 0
  | [] => by simp [chainR]
  | [a] => by simp [chainR]
  | a :: b :: r => by
    rw [chainR, Bool.and_eq_true, decide_eq_true_iff, chain_pair]
    constructor
    · rintro ⟨h1, h2⟩
      refine List.pairwise_cons.2 ⟨fun y hy => ?_, h2⟩
      rcases List.mem_cons.1 hy with rfl | hy
      · exact h1
      · exact cl_lt_trans h1 ((List.pairwise_cons.1 h2).1 y hy)
    · intro h
      exact ⟨(List.pairwise_cons.1 h).1 b (by simp), (List.pairwise_cons.1 h).2⟩
def rightR (l : List It) : Bool := decide (l.length ≤ 2000) && (l.all rightI && chainR l && (run2 l).isSome)
theorem right_is (l : List It) : rightR l = validT l := by
  rw [Bool.eq_iff_iff, valid_tree]
  unfold rightR
  rw [Bool.and_eq_true, Bool.and_eq_true, Bool.and_eq_true, decide_eq_true_iff, List.all_eq_true, chain_pair]
  constructor
  · rintro ⟨h1, ⟨h2, h3⟩, h4⟩
    obtain ⟨T, hT⟩ := Option.isSome_iff_exists.1 h4
    refine ⟨h1, fun x hx => ?_, h3, (run2_up l T hT).2⟩
    have := h2 x hx
    unfold rightI at this
    rw [Bool.and_eq_true, Bool.and_eq_true] at this
    exact ⟨⟨this.1, by simpa using this.2.1, rfl⟩, this.2.2⟩
  · intro h
    obtain ⟨st, hst⟩ : ∃ st, runV l = some st := by
      have := (valid_tree l).2 h
      unfold validT at this
      rw [Bool.and_eq_true] at this
      exact Option.isSome_iff_exists.1 this.2
    obtain ⟨T, _, _, hT⟩ := run2_of l st hst
    refine ⟨h.many, ⟨fun x hx => ?_, h.sorted⟩, by rw [hT]; rfl⟩
    have hk := h.kid x hx
    unfold rightI
    rw [hk.1.1, hk.2]
    simpa using hk.1.2.1
end Go.Proofs.YtiakedoebecgpaaDoor

namespace Go.Proofs.YtiakedoebecgpaaDoor
open Go.RowKit Go.Shelf

set_option maxRecDepth 100000 in
set_option maxHeartbeats 1000000 in
theorem begins_at (a s R : ByteArray) (hR : (if s.data.toList.head? = some 47 then (⟨#[47]⟩ : ByteArray) else a) = R) (w : World) : Calls Tryd.prog 49 #[.string a, .string s] w fun e w' => e = .returned (.string R) ∧ w = w' := by
  have hlen : s.data.toList.length = s.size := by rw [Array.length_toList]; rfl
  by_cases h0 : 0 < s.size
  · obtain ⟨c, r, hcr⟩ : ∃ c r, s.data.toList = c :: r := by
      cases e : s.data.toList with
      | nil => rw [e] at hlen; simp at hlen; omega
      | cons c r => exact ⟨c, r, rfl⟩
    have d1 : decide ((s.size : Int) > 0) = true := decide_eq_true (by omega)
    have k1 : (0 : Int) < (s.size : Int) := by omega
    have hget : s[0]'h0 = c := by
      have : s.data.toList[0]'(by rw [hlen]; exact h0) = c := by simp [hcr]
      rw [← this]; rfl
    rw [hcr] at hR
    clear hcr hlen
    by_cases hc : c = 47
    · subst hc
      have HR : Hid (R = ⟨#[47]⟩) := Lib.hid (by rw [← hR]; rfl)
      clear hR
      go_enter Tryd.func49, Tryd.ntmps49
      go_wp2_with fail
      go_ret
      exact ⟨by rw [HR.out]; rfl, rfl⟩
    · have HR : Hid (R = a) := Lib.hid (by rw [← hR]; simp [hc])
      have t1 : (c == 47) = false := by simp [hc]
      have t2 : (Int.ofNat c.toNat == 47) = false := by
        simp only [beq_eq_false_iff_ne, ne_eq]
        intro e
        apply hc
        apply UInt8.toNat_inj.1
        show c.toNat = 47
        have : ((c.toNat : Nat) : Int) = 47 := e
        omega
      have t3 : ¬ ((c.toNat : Int) = 47) := fun e => hc (UInt8.toNat_inj.1 (by show c.toNat = 47; omega))
      have t4 : ¬ c.toNat = 47 := fun e => hc (UInt8.toNat_inj.1 e)
      clear hR hc
      go_enter Tryd.func49, Tryd.ntmps49
      go_wp2_with fail
      go_ret
      exact ⟨by rw [HR.out]; rfl, rfl⟩
  · have hs0 : s.size = 0 := by omega
    have HR : Hid (R = a) := Lib.hid (by
      rw [← hR]
      have : s.data.toList = [] := List.eq_nil_of_length_eq_zero (by rw [hlen]; exact hs0)
      rw [this]; rfl)
    have d1 : decide ((s.size : Int) > 0) = false := decide_eq_false (by omega)
    have k1 : ¬ ((0 : Int) < (s.size : Int)) := by omega
    clear hR hlen
    go_enter Tryd.func49, Tryd.ntmps49
    go_wp2_with fail
    go_ret
    exact ⟨by rw [HR.out]; rfl, rfl⟩
theorem begins_any (a s : ByteArray) (w : World) : Calls Tryd.prog 49 #[.string a, .string s] w fun e w' => e = .returned (.string (if s.data.toList.head? = some 47 then ⟨#[47]⟩ else a)) ∧ w = w' := begins_at a s _ rfl w
end Go.Proofs.YtiakedoebecgpaaDoor

namespace Go.Proofs.YtiakedoebecgpaaDoor
open Go.RowKit Go.Shelf

/-- The names stand in a block of the call's own, from its second cell on, or nowhere. -/
def NamO (B : Nat) (w : World) (v : Value) (t : List Str) : Prop :=
  (t = [] ∧ v = .slice none 0 0) ∨ ∃ g c, v = .slice (some ⟨g, 1, none⟩) t.length c ∧ B ≤ g ∧ g < w.heap.size ∧ t.length ≤ c ∧ c ≤ maxLen ∧ (∀ j x, t[j]? = some x → w.cell? ⟨g, 1 + j, none⟩ = some (encS x)) ∧ ∀ j, j < c - t.length → (w.cell? ⟨g, 1 + t.length + j, none⟩).isSome = true ∧ w.frozen? ⟨g, 1 + t.length + j, none⟩ = false
def RYesO (l : List Str) (w : World) (e : Ending) (w' : World) : Prop := ∃ v, e = .returned (.tuple #[v, .bool true]) ∧ RdS w' v l ∧ Below w.heap.size w w' ∧ NamO w.heap.size w' v l

set_option maxRecDepth 100000 in
set_option maxHeartbeats 2000000 in
theorem rnames_goodO (p : ByteArray) (hp : p.size ≤ 2000000) (hr : p.data.toList ≠ [47]) (t : List Str) (e : cutP p.data.toList = [] :: t) (hall : ∀ x ∈ t, nameB x = true) (h1 : 1 ≤ t.length) (h2 : t.length ≤ 40) (w : World) : Calls Tryd.prog 78 #[.string p] w (RYesO t w) := by
  obtain ⟨h, hh⟩ : ∃ h : Str, h = [] := ⟨_, rfl⟩
  rw [← hh] at e
  have f1 : (p.toList == [47]) = false := by rw [Lib.toList_data]; simp [hr]
  have HE := Lib.hid e
  have HALL := Lib.hid hall
  have HH := Lib.hid hh
  have hps : p.data.toList.length = p.size := rfl
  have hlen : (cutP p.data.toList).length ≤ 2000001 := by have := cutP_len p.data.toList; omega
  obtain ⟨tn, htn⟩ : ∃ tn, t.length = tn := ⟨_, rfl⟩
  have HTN := Lib.hid htn
  have hn : (cutP p.data.toList).length = tn + 1 := by rw [e, ← htn]; rfl
  have HPL := Lib.hid (part_len p.data.toList)
  have htb : tn ≤ 2000000 := by omega
  clear hr e hps htn hh hall
  go_enter Tryd.func78, Tryd.ntmps78
  go_wp2_with fail
  refine (rcut_any p hp _).mono ?_
  rintro e w1 ⟨v, rfl, hrow, hb⟩
  obtain ⟨g, cap, rfl, hgB, hglt⟩ := hrow.form (by omega)
  have hcap : tn + 1 ≤ cap ∧ cap ≤ maxLen := by
    rcases hrow.2 with ⟨k, _⟩ | ⟨g', cap', cur, hv, _, _, hnc, hcm, _⟩
    · cases k
    · injection hv with _ _ h3; subst h3; exact ⟨by omega, hcm⟩
  have HCM := Lib.hid hcap
  have hcells : ∀ k x, t[k]? = some x → w1.cell? ⟨g, 1 + k, none⟩ = some (.string ⟨x.toArray⟩) := fun k x hx => by
    have := own_cell hrow (1 + k) (encS x) (by rw [HE.out, List.getElem?_map, Nat.add_comm, List.getElem?_cons_succ, hx]; rfl)
    exact this
  have hcell0 := own_cell hrow 0 (encS h) (by rw [HE.out]; rfl)
  have HC := Lib.hid hcells
  have HC0 := Lib.hid hcell0
  rw [hn]
  have hb1 : w.heap.size ≤ w1.heap.size := hb.size
  have ht1 : 1 ≤ tn := by have := HTN.out; omega
  have ht2 : tn ≤ 40 := by have := HTN.out; omega
  have hc1 : ¬ cap = 1 := by omega
  have c1 : (1 : Int) ≤ (tn : Int) + 1 := by omega
  have c2 : (tn : Int) + 1 ≤ (cap : Int) := by omega
  have c3 : ¬ (tn : Int) + 1 < 2 := by omega
  have c4 : ¬ (41 : Int) < (tn : Int) + 1 := by omega
  have d3 : decide ((tn : Int) + 1 < 2) = false := decide_eq_false c3
  have d4 : decide ((41 : Int) < (tn : Int) + 1) = false := decide_eq_false c4
  have hsp : ∀ j, j < cap - 1 - tn → (w1.cell? ⟨g, 1 + tn + j, none⟩).isSome = true ∧ w1.frozen? ⟨g, 1 + tn + j, none⟩ = false := fun j hj => by
    rcases hrow.2 with ⟨k, _⟩ | ⟨g', cap', cur, hv, _, hh, _, _, hcs, _⟩
    · cases k
    · injection hv with e1 e2 e3
      injection e1 with e1
      injection e1 with e1
      subst e1; subst e3
      refine ⟨?_, frozen_of_row w1 g (1 + tn + j) cur 9 hh⟩
      rw [cell_of_row w1 g (1 + tn + j) cur 9 (0, 0) hh]
      have hl : 1 + tn + j < cur.size := by omega
      rw [Array.getElem?_eq_getElem hl]
      rfl
  have HSP := Lib.hid hsp
  have HGB := Lib.hid hgB
  clear hrow hn hlen hcells hcell0 hcap h1 h2 hsp hgB
  go_wp2
  go_loop [14] (fun i => ∃ k : Nat, k ≤ tn ∧ i = .int .i64 k) (fun i => tn - (intOf i).toNat)
  case atStart => exact ⟨0, Nat.zero_le _, rfl⟩
  case round =>
    obtain ⟨k, hk, rfl⟩ := hrel
    by_cases hlt : k < tn
    · obtain ⟨x, hx⟩ : ∃ x, t[k]? = some x := ⟨_, List.getElem?_eq_getElem (by have := HTN.out; omega)⟩
      have hcx := HC.out k x hx
      have hxs : x.length ≤ 2000000 := Nat.le_trans (HPL.out x (by rw [HE.out]; exact List.mem_cons_of_mem _ (List.mem_of_getElem? hx))) hp
      have HNX := Lib.hid (HALL.out x (List.mem_of_getElem? hx))
      clear hx
      go_wp2_with (go_at_call 81; refine (rname_any ⟨x.toArray⟩ (show x.length ≤ _ by omega) _).mono ?_; rintro e w' ⟨rfl, rfl⟩; rw [show nameB (⟨x.toArray⟩ : ByteArray).data.toList = true from HNX.out])
      go_round
      case rel => exact ⟨k + 1, hlt, by go_num⟩
      case measure => simp [intOf]; omega
    · have hcx := HC0.out
      unfold encS at hcx
      rw [HH.out] at hcx
      go_wp2
      go_ret2
      exact ⟨_, rfl, ⟨some ⟨g, 1, none⟩, cap - 1, by rw [HTN.out]; rfl, by have := HTN.out; omega, by have := HCM.out.2; omega, fun _ => ⟨g, 1, rfl, hglt, fun j x hx => HC.out j x hx⟩⟩, hb, .inr ⟨g, cap - 1, by rw [HTN.out]; rfl, HGB.out, hglt, by have := HTN.out; omega, by have := HCM.out.2; omega, fun j x hx => HC.out j x hx, fun j hj => by rw [HTN.out] at hj ⊢; exact HSP.out j hj⟩⟩

theorem rnames_rootO (w : World) : Calls Tryd.prog 78 #[.string ⟨#[47]⟩] w (RYesO [] w) := by
  have f1 : ((⟨#[47]⟩ : ByteArray).toList == [47]) = true := by rw [Lib.toList_data]; rfl
  go_enter Tryd.func78, Tryd.ntmps78
  go_wp2
  go_ret2
  exact ⟨_, rfl, RdS.nil _, Below.refl _ _, .inl ⟨rfl, rfl⟩⟩
theorem rnames_own (p : ByteArray) (hp : p.size ≤ 2000000) (hv : validB p.data.toList = true) (w : World) : Calls Tryd.prog 78 #[.string p] w (RYesO (namesL p.data.toList) w) := by
  by_cases hr : p.data.toList = [47]
  · have e : p = ⟨#[47]⟩ := ba_eq p [47] hr
    subst e
    exact rnames_rootO w
  · obtain ⟨h, t, e⟩ : ∃ h t, cutP p.data.toList = h :: t := by
      cases k : cutP p.data.toList with
      | nil => exact absurd k (cutP_ne _)
      | cons h t => exact ⟨h, t, rfl⟩
    have hc := vcut _ h t e hr
    rw [hc.1, Bool.and_eq_true, Bool.and_eq_true, decide_eq_true_iff, decide_eq_true_iff] at hv
    obtain ⟨⟨rfl, hl⟩, hall⟩ := hv
    have hn : namesL p.data.toList = t := by
      rcases hc.2 rfl with k | k
      · exact k
      · subst k; simp at hl
    rw [hn]
    exact rnames_goodO p hp hr t e (List.all_eq_true.1 hall) hl.1 hl.2 w

theorem info9n : (Tryd.prog.info? 9).map (fun i => (i.zero, i.size, i.bytes)) = some (some (.string ⟨#[]⟩), 1, 16) := by kernel_rfl
/-- 'append(names, part)'. -/
theorem wpList_append_name {w : World} {ops : Array Oper} {rest : List Oper} {o : Oper} {a : Act} {Q : Exit → Act → World → Prop} (hgd : o.guard = none) (s x : Operand)
    (ho : o.op = .call { callee := .builtin .append, args := #[s, x], argTypes := #[46, 46] }) (B : Nat) (v : Value) (t : List Str) (part : Str) (hs : a.eval s = v) (hN : NamO B w v t) (ht : t.length ≤ 40)
    (gx : Nat) (hx : a.eval x = .slice (some ⟨gx, 0, none⟩) 1 1) (hcx : w.cell? ⟨gx, 0, none⟩ = some (encS part)) (hB : B ≤ w.heap.size)
    (h : ∀ v' w', RdS w' v' (t ++ [part]) → Below B w w' → wpList Tryd.prog ops Q rest (a.put o.dst v') w') : wpList Tryd.prog ops Q (o :: rest) a w := by
  obtain ⟨i, hi, hzz⟩ := Option.map_eq_some_iff.1 info9n
  simp only [Prod.mk.injEq] at hzz
  obtain ⟨hz, hs1, hb1⟩ := hzz
  have hlen : (t ++ [part]).length = t.length + 1 := by simp
  have hnew : ∀ (j : Nat) (u : Value), [encS part][j]? = some u → w.cell? ((⟨gx, 0, none⟩ : Addr).add j) = some u := fun j u hu => by
    have hj := (List.getElem?_eq_some_iff.1 hu).1
    simp at hj
    subst hj
    simp at hu
    subst hu
    simpa [Addr.add] using hcx
  have hone : ∀ u ∈ [encS part], u.oneCell' = true := by intro u hu; rw [List.mem_singleton] at hu; subst hu; rfl
  rcases hN with ⟨rfl, rfl⟩ | ⟨g, c, rfl, hg, hgl, hnc, hcm, hcells, hsp⟩
  · refine wpList_append_own w hgd s x 46 ho B 9 i (.string ⟨#[]⟩) 1 16 Tryd.underlying46 hi hz hs1 hb1 rfl (by decide) _ 0 [] hs (World.ownsRow_nil _ _ _ _) ⟨gx, 0, none⟩ 1 1 [encS part] hx rfl hnew hone (by unfold maxLen; omega) (by omega) hB ?_
    intro v' w' hown hgr _
    exact h v' w' (RdS.of_own hown) ((Below.refl B w).grown hgr hB (fun q e => by simp [Value.ownBlock] at e))
  · by_cases hroom : t.length + 1 ≤ c
    · refine wpList_append_room_src w hgd s x 46 46 ho 9 i Tryd.underlying46 hi g 1 t.length c hs _ hx 1 [encS part] (Src.ofSlice w Tryd.underlying46 ⟨gx, 0, none⟩ 1 1 [encS part] (by rw [hs1]; rfl) hnew hone) hroom (fun j hj => ?_) (fun j hj => ?_) (h _ _ ?_ ?_)
      · rw [hs1, Nat.mul_one]
        have : j = 0 := by simpa using hj
        subst this
        exact (hsp 0 (by omega)).1
      · rw [hs1, Nat.mul_one]
        have : j = 0 := by simpa using hj
        subst this
        exact (hsp 0 (by omega)).2
      · rw [hs1, Nat.mul_one]
        refine ⟨some ⟨g, 1, none⟩, c, by rw [hlen], by rw [hlen]; exact hroom, hcm, fun _ => ⟨g, 1, rfl, by simpa [World.setCells] using hgl, fun j y hj => ?_⟩⟩
        simp only [World.setCells]
        by_cases hjt : j < t.length
        · rw [List.getElem?_append_left hjt] at hj
          rw [World.cell?_setCell_other _ _ _ _ (by simp; first | done | omega)]
          exact hcells j y hj
        · have hjl := (List.getElem?_eq_some_iff.1 hj).1
          rw [hlen] at hjl
          obtain rfl : j = t.length := by omega
          rw [List.getElem?_append_right (Nat.le_refl _), Nat.sub_self] at hj
          cases hj
          obtain ⟨u, hu⟩ := Option.isSome_iff_exists.1 (hsp 0 (by omega)).1
          rw [Nat.add_zero] at hu
          exact World.cell?_setCell_same _ _ _ hu
      · rw [hs1, Nat.mul_one]
        simp only [World.setCells]
        exact (Below.refl B w).setCell (by simpa using hg) _
    · have hbytes : (t.length + 1) * 16 ≤ 140737488355328 := by omega
      have hrun := run_append_grow (P := Tryd.prog) w 46 o.type 9 i (.string ⟨#[]⟩) Tryd.underlying46 hi hz ⟨g, 1, none⟩ t.length c (t.map encS) (by rw [List.length_map, hs1, Nat.mul_one]) (fun j u hu => by
        rw [List.getElem?_map] at hu
        obtain ⟨y, hy, rfl⟩ := Option.map_eq_some_iff.1 hu
        have := hcells j y hy
        by_cases hj : j = 0
        · subst hj; simpa [Addr.add] using this
        · simpa [Addr.add, hj] using this) ⟨gx, 0, none⟩ 1 1 [encS part] (by rw [hs1]; rfl) hnew (by omega) (by omega) (by rw [hb1]; exact growslice_fits (by omega) hbytes)
      refine wpList_plain hgd fun K hK => ?_
      unfold Oper.wp execOp
      simp only [ho, resolve, invoke, builtin, Sem.run_bind, Sem.run_pure, Result.andThen_ok, List.map_toArray, List.map_cons, List.map_nil, hs, hx, hrun]
      refine hK _ _ (h _ _ ?_ ?_)
      · have hge := grownCap_ge w (t.length + 1) c 9
        refine ⟨some ⟨w.heap.size, 0, none⟩, _, by rw [hlen], by rw [hlen]; exact hge, grownCap_le_maxLen w (t.length + 1) c 9 (by unfold maxLen; omega), fun _ => ⟨w.heap.size, 0, rfl, by simp, fun j y hj => ?_⟩⟩
        have hc := heap_alloc_new w.drew (.cells ((t.map encS).toArray ++ [encS part].toArray ++ Builtin.zeroCells (Value.string ⟨#[]⟩).cells (grownCap w (t.length + 1) c 9 - (t.length + 1))) 9)
        rw [Nat.zero_add]
        refine (cell_of_row _ w.heap.size j _ 9 (0, 0) hc).trans ?_
        have hjl := (List.getElem?_eq_some_iff.1 hj).1
        rw [hlen] at hjl
        rw [Array.getElem?_append_left (by simp; omega), show (t.map encS).toArray ++ #[encS part] = ((t ++ [part]).map encS).toArray by simp, List.getElem?_toArray, List.getElem?_map, hj]
        rfl
      · exact ((Below.refl B w).drew).alloc (by simpa using hB) _
end Go.Proofs.YtiakedoebecgpaaDoor

namespace Go.Proofs.YtiakedoebecgpaaDoor
open Go.RowKit Go.Shelf

/-- A stack of texts in memory of the call's own; the topmost stands last. -/
def OwnS (w : World) (B : Nat) (v : Value) (T : List Str) : Prop := w.ownsRow B 9 1 v T.length (T.reverse.map encS)
theorem OwnS.pop {w : World} {B : Nat} {a : Option Addr} {n c : Nat} {t : Str} {r : List Str} (h : OwnS w B (.slice a n c) (t :: r)) : OwnS w B (.slice a r.length c) r := by
  obtain ⟨h1, h2⟩ := h
  refine ⟨by simp, ?_⟩
  rcases h2 with ⟨_, h3⟩ | ⟨g, cap, cur, hv, hg, hh, hn, hcap, hcs, htake⟩
  · cases h3
  · right
    injection hv with e1 e2 e3
    subst e1 e3
    refine ⟨g, c, cur, rfl, hg, hh, by rw [List.length_cons] at hn; omega, hcap, hcs, ?_⟩
    have : cur.toList.take (r.length * 1) = (cur.toList.take ((t :: r).length * 1)).take (r.length * 1) := by
      rw [List.take_take, Nat.min_eq_left (by rw [List.length_cons]; omega)]
    rw [this, htake, List.reverse_cons, List.map_append, List.take_append_of_le_length (by simp), List.take_of_length_le (by simp)]
theorem OwnS.on {w w' : World} {B : Nat} {v : Value} {T : List Str} (h : OwnS w B v T) (hw : Below w.heap.size w w') : OwnS w' B v T := by
  refine h.kept (row := none) ⟨hw.os, hw.tape, hw.output, hw.size, fun k hk _ => hw.block k hk⟩ ?_
  cases e : v.ownBlock <;> simp
theorem OwnS.form {w : World} {B : Nat} {v : Value} {t : Str} {r : List Str} (h : OwnS w B v (t :: r)) : ∃ g c, v = .slice (some ⟨g, 0, none⟩) (r.length + 1) c ∧ B ≤ g ∧ g < w.heap.size ∧ r.length + 1 ≤ c ∧ c ≤ maxLen ∧
    w.cell? ⟨g, r.length, none⟩ = some (.string ⟨t.toArray⟩) := by
  have h' := h
  rcases h.2 with ⟨_, h3⟩ | ⟨g, cap, cur, rfl, hg, hh, hn, hcap, hcs, htake⟩
  · cases h3
  · refine ⟨g, cap, rfl, hg, (h'.lt g rfl).2, hn, hcap, ?_⟩
    have k := World.ownsRow.cellAt (g := g) (cap := cap) h' r.length (by rw [List.length_cons]; omega)
    rw [k, List.reverse_cons, List.map_append, List.getElem?_append_right (by simp)]
    simp [encS]
theorem OwnS.slice {w : World} {B : Nat} {v : Value} {T : List Str} (h : OwnS w B v T) : ∃ a c, v = .slice a T.length c ∧ T.length ≤ c ∧ c ≤ maxLen := by
  rcases h.2 with ⟨h2, h3⟩ | ⟨g, cap, cur, rfl, hg, hh, hn, hcap, hcs, htake⟩
  · exact ⟨none, 0, by rw [h2, h3], by omega, Nat.zero_le _⟩
  · exact ⟨_, cap, rfl, hn, hcap⟩
theorem OwnS.blk {w : World} {B : Nat} {v : Value} {T : List Str} (h : OwnS w B v T) : ∀ q, v.ownBlock = some q → B ≤ q := by
  intro q hq
  rcases h.2 with ⟨rfl, _⟩ | ⟨g, cap, cur, rfl, hg, _⟩
  · simp [Value.ownBlock] at hq
  · simp [Value.ownBlock] at hq; omega
theorem OwnS.push {w : World} {B : Nat} {v : Value} {T : List Str} {p : Str} (h : w.ownsRow B 9 1 v (T.length + 1) (T.reverse.map encS ++ [.string ⟨p.toArray⟩])) : OwnS w B v (p :: T) := by
  unfold OwnS
  rw [List.length_cons, List.reverse_cons, List.map_append]
  exact h
theorem chain_snoc (A : List It) (y x : It) : chainR (A ++ [y, x]) = (chainR (A ++ [y]) && decide (cmpL y.path x.path < 0)) := by
  induction A with
  | nil => simp [chainR]
  | cons a A ih =>
    cases A with
    | nil => simp [chainR]
    | cons b A =>
      simp only [List.cons_append, chainR] at ih ⊢
      rw [ih, Bool.and_assoc]
theorem take_one {l : List It} {k : Nat} {x : It} (h : l[k]? = some x) : l.take (k + 1) = l.take k ++ [x] := by
  rw [List.take_add_one, h]; rfl
theorem chain_take {l : List It} {k : Nat} {y x : It} (hy : l[k]? = some y) (hx : l[k + 1]? = some x) : chainR (l.take (k + 2)) = (chainR (l.take (k + 1)) && decide (cmpL y.path x.path < 0)) := by
  rw [take_one hx, take_one hy, List.append_assoc]
  exact chain_snoc _ _ _
theorem chain_not {l : List It} {k : Nat} {y x : It} (hy : l[k]? = some y) (hx : l[k + 1]? = some x) (h : ¬ cmpL y.path x.path < 0) : rightR l = false := by
  cases e : rightR l with
  | false => rfl
  | true =>
    unfold rightR at e
    rw [Bool.and_eq_true, Bool.and_eq_true, Bool.and_eq_true, chain_pair] at e
    obtain ⟨h1, rfl⟩ := List.getElem?_eq_some_iff.1 hy
    obtain ⟨h2, rfl⟩ := List.getElem?_eq_some_iff.1 hx
    exact absurd (List.pairwise_iff_getElem.1 e.2.1.2 k (k + 1) h1 h2 (Nat.lt_succ_self k)) h
theorem item_not {l : List It} {k : Nat} {x : It} (hx : l[k]? = some x) (h : rightI x = false) : rightR l = false := by
  cases e : rightR l with
  | false => rfl
  | true =>
    unfold rightR at e
    rw [Bool.and_eq_true, Bool.and_eq_true, Bool.and_eq_true, List.all_eq_true] at e
    rw [e.2.1.1 x (List.mem_of_getElem? hx)] at h
    cases h
theorem run2_dead (l m : List It) (h : run2 l = none) : run2 (l ++ m) = none := by
  unfold run2 at *
  rw [List.foldl_append, h]
  induction m with
  | nil => rfl
  | cons a m ih => simpa using ih
theorem run2_not {l : List It} {k : Nat} (h : run2 (l.take k) = none) : rightR l = false := by
  have := run2_dead _ (l.drop k) h
  rw [List.take_append_drop] at this
  unfold rightR
  rw [this]
  simp
theorem run2_take {l : List It} {k : Nat} {x : It} {T : List Str} (hx : l[k]? = some x) (h : run2 (l.take k) = some T) : run2 (l.take (k + 1)) = step2 T x := by
  rw [take_one hx, run2_snoc, h]; rfl
theorem pop_cons_ne {t u : Str} {r : List Str} (h : t ≠ u) : popR (t :: r) u = popR r u := by
  unfold popR
  rw [List.dropWhile_cons, if_pos (by simp [h])]
theorem pop_cons_eq {t u : Str} {r : List Str} (h : t = u) : popR (t :: r) u = t :: r := by
  unfold popR
  rw [List.dropWhile_cons, if_neg (by simp [h])]

set_option maxRecDepth 100000 in
set_option maxHeartbeats 8000000 in
theorem rtree_any (l : List It) (v : Value) (w : World) (hv : RdI w v l) (hsz : ∀ x ∈ l, x.path.length ≤ 2000000) : Calls Tryd.prog 21 #[.agg #[v]] w fun e w' => e = .returned (.bool (validT l)) ∧ Below w.heap.size w w' := by
  rw [← right_is]
  obtain ⟨w1, hw1⟩ : ∃ z, z = w.alloc (.cells #[v] 24) := ⟨_, rfl⟩
  have X : Hid (Box w1 w.heap.size 24 #[v]) := Lib.hid (by rw [hw1]; exact box_new)
  have HB1 : Hid (Below w.heap.size w w1) := Lib.hid (by rw [hw1]; exact below_new _ _)
  have HV := Lib.hid (hv.on HB1.out)
  obtain ⟨a, c, rfl, hlc, hcm, _⟩ := hv.open
  obtain ⟨n, hn⟩ : ∃ n, n = l.length := ⟨_, rfl⟩
  rw [← hn] at HV X hlc hw1 ⊢
  have HN := Lib.hid hn
  have HSZ := Lib.hid hsz
  have c0 := X.out.cell (k := 0) rfl
  clear hv hn hsz
  go_enter Tryd.func21, Tryd.ntmps21
  go_upto_region 1 with fail
  rw [← hw1]
  clear hw1
  by_cases h2 : n ≤ 2000
  · have e4 : decide ((n : Int) > 2000) = false := decide_eq_false (by omega)
    unfold maxLen at hcm
    go_wp2_with fail
    clear c0 e4
    go_loopw [16] (fun i W => ∃ k : Nat, k ≤ n ∧ i = .int .i64 k ∧ Hid ((l.take k).all rightI = true ∧ chainR (l.take k) = true) ∧ Hid (Below w1.heap.size w1 W)) (fun i _ => n - (Lib.intOf i).toNat)
    case atStart => exact ⟨0, Nat.zero_le _, rfl, Lib.hid ⟨rfl, rfl⟩, Lib.hid (Below.refl _ _)⟩
    case round =>
      obtain ⟨k, hk, rfl, HP, HBk⟩ := hrel
      obtain ⟨wq, hwq⟩ : ∃ q, q = wr := ⟨_, rfl⟩
      rw [← hwq] at HBk ⊢
      clear hwq
      by_cases hlt : k < n
      · obtain ⟨x, hx⟩ : ∃ x, l[k]? = some x := ⟨_, List.getElem?_eq_getElem (by rw [← HN.out]; exact hlt)⟩
        obtain ⟨a', c', e, _, _, hc⟩ := (HV.out.on HBk.out).open
        rw [← HN.out] at e
        cases e
        obtain ⟨g, o, rfl, hg, hc⟩ := hc (by rw [← HN.out]; omega)
        obtain ⟨q0, q1, q2⟩ := hc k x hx
        have k1 : (k : Int) < (n : Int) := by omega
        have k2 : (0 : Int) ≤ (k : Int) := by omega
        have k4 : IntKind.i64.wrap ((k : Int) + 1) = (k : Int) + 1 := IntWalk.i64_in _ (by omega)
        obtain ⟨w5, hw5⟩ : ∃ q, q = wq.alloc (.cells #[.string ⟨x.path.toArray⟩, .int .i64 x.kind, .string ⟨x.data.toArray⟩] 35) := ⟨_, rfl⟩
        have hb5 : Below wq.heap.size wq w5 := by rw [hw5]; exact below_new _ _
        have HX5 : Hid (Box w5 wq.heap.size 35 x.arr) := Lib.hid (by rw [hw5]; exact box_new)
        have HB5 : Hid (Below w1.heap.size w1 w5) := Lib.hid (bch HBk.out hb5)
        have HIA : Hid (∀ (j : Nat) (y : It), l[j]? = some y → IAt w5 g (o + j * 3) y) := Lib.hid (fun j y hj => (hc j y hj).on hg hb5)
        have HG5 : Hid (g < w5.heap.size) := Lib.hid (Nat.lt_of_lt_of_le hg hb5.size)
        have X15 : Hid (Box w5 w.heap.size 24 #[.slice (some ⟨g, o, none⟩) n c]) := Lib.hid (X.out.on HB5.out)
        obtain ⟨ri, hri⟩ : ∃ b, b = rightI x := ⟨_, rfl⟩
        have HRI : Hid (∀ W, Calls Tryd.prog 42 #[.agg #[.string ⟨x.path.toArray⟩, .int .i64 x.kind, .string ⟨x.data.toArray⟩]] W fun e w' => e = .returned (.bool ri) ∧ Below W.heap.size W w') := Lib.hid (fun W => by rw [hri]; exact rightitem_at x (HSZ.out x (List.mem_of_getElem? hx)) _ rfl W)
        have HRX := Lib.hid hri
        have HX := Lib.hid hx
        clear hc hx hri hb5 hg
        go_upto_region 6 with fail
        obtain ⟨b7, hb7⟩ : ∃ q, q = wq.heap.size := ⟨_, rfl⟩
        rw [← hb7] at HX5 ⊢
        rw [← hw5]
        clear hw5 hb7 q0 q1 q2 HBk
        obtain ⟨v0, hv0⟩ : ∃ z, z = World.drew w5 := ⟨_, rfl⟩
        refine wp_region_held_drew (S := fun w' => Below w5.heap.size w5 w') (by kernel_rfl) (Below.refl _ _).drew (fun hHeld => ?_)
        rw [← hv0] at hHeld ⊢
        clear hv0
        cases ri with
        | false =>
          have HR : Hid (rightR l = false) := Lib.hid (item_not HX.out HRX.out.symm)
          refine wpAnyH_take (i := 0) (oi := { dst := some 21, op := Op.load 35 (Operand.tmp 4), type := 35, pos := "ref.go:56", after := #[], guard := none }) (v := ?_) rfl (by kernel_rfl) (by kernel_rfl) (by kernel_rfl) (fun _ _ _ h => h) (Or.inl ⟨by rfl, ?_⟩) hHeld ?_
          rotate_left
          · (intro w hSw; obtain ⟨d0, d1, d2⟩ := (HX5.out.on hSw).it; go_simp; try with_reducible rfl)
          (try simp only [Act.put, List.setIfInBounds_toArray, List.set_cons_zero, List.set_cons_succ])
          refine wpAnyH_ready (rs := [1]) (by kernel_rfl) (by simp) (AllReadyH.cons (o := { dst := some 22, op := Op.call { callee := Callee.value (Operand.func 42), args := #[Operand.tmp 21], argTypes := #[35] }, type := 4, pos := "ref.go:56", after := #[{ on := 0, ground := Ground.data }], guard := none }) rfl (fun K hK => ?_) AllReadyH.nil)
          · go_simp
            refine (HRI.out _).mono ?_
            rintro e v101 ⟨rfl, hba⟩
            refine hK.out _ _ (bch hHeld hba) (fun hHeld => ?_)
            clear hba
            (try simp only [Act.put, List.setIfInBounds_toArray, List.set_cons_zero, List.set_cons_succ])
            refine wpAnyH_take (i := 2) (oi := { dst := some 23, op := Op.unOp UnOp.not 4 (Operand.tmp 22), type := 4, pos := "ref.go:56", after := #[{ on := 1, ground := Ground.data }], guard := none }) (v := ?_) rfl (by kernel_rfl) (by kernel_rfl) (by kernel_rfl) (fun _ _ _ h => h) (Or.inl ⟨by rfl, ?_⟩) hHeld ?_
            rotate_left
            · (intro w hSw; go_simp; try with_reducible rfl)
            (try simp only [Act.put, List.setIfInBounds_toArray, List.set_cons_zero, List.set_cons_succ])
            refine wpAnyH_take (i := 3) (oi := { dst := some 24, op := Op.move (Operand.tmp 23), type := 4, pos := "ref.go:56", after := #[{ on := 2, ground := Ground.data }, { on := 1, ground := Ground.chain }], guard := none }) (v := ?_) rfl (by kernel_rfl) (by kernel_rfl) (by kernel_rfl) (fun _ _ _ h => h) (Or.inl ⟨by rfl, ?_⟩) hHeld ?_
            rotate_left
            · (intro w hSw; go_simp; try with_reducible rfl)
            (try simp only [Act.put, List.setIfInBounds_toArray, List.set_cons_zero, List.set_cons_succ])
            refine wpAnyH_take (i := 4) (oi := { dst := some 25, op := Op.move (Operand.tmp 3), type := 3, pos := "ref.go:56", after := #[{ on := 3, ground := Ground.guard }], guard := some (3, false) }) (v := undef) rfl (by kernel_rfl) (by kernel_rfl) (by kernel_rfl) (fun _ _ _ h => h) (Or.inr ⟨by rfl, rfl⟩) hHeld ?_
            (try simp only [Act.put, List.setIfInBounds_toArray, List.set_cons_zero, List.set_cons_succ])
            refine wpAnyH_take (i := 5) (oi := { dst := some 26, op := Op.binOp BinOp.gtr 3 (Operand.tmp 25) (Operand.const (Value.int IntKind.i64 0)) 3, type := 4, pos := "ref.go:56", after := #[{ on := 4, ground := Ground.data }, { on := 3, ground := Ground.guard }], guard := some (3, false) }) (v := undef) rfl (by kernel_rfl) (by kernel_rfl) (by kernel_rfl) (fun _ _ _ h => h) (Or.inr ⟨by rfl, rfl⟩) hHeld ?_
            (try simp only [Act.put, List.setIfInBounds_toArray, List.set_cons_zero, List.set_cons_succ])
            refine wpAnyH_take (i := 6) (oi := { dst := some 27, op := Op.move (Operand.tmp 26), type := 4, pos := "ref.go:56", after := #[{ on := 5, ground := Ground.data }, { on := 3, ground := Ground.chain }, { on := 3, ground := Ground.guard }], guard := some (3, false) }) (v := undef) rfl (by kernel_rfl) (by kernel_rfl) (by kernel_rfl) (fun _ _ _ h => h) (Or.inr ⟨by rfl, rfl⟩) hHeld ?_
            (try simp only [Act.put, List.setIfInBounds_toArray, List.set_cons_zero, List.set_cons_succ])
            refine wpAnyH_take (i := 7) (oi := { dst := some 28, op := Op.fieldAddr 24 (Operand.tmp 1) 0, type := 0, pos := "ref.go:56", after := #[{ on := 6, ground := Ground.guard }], guard := some (6, true) }) (v := undef) rfl (by kernel_rfl) (by kernel_rfl) (by kernel_rfl) (fun _ _ _ h => h) (Or.inr ⟨by rfl, rfl⟩) hHeld ?_
            (try simp only [Act.put, List.setIfInBounds_toArray, List.set_cons_zero, List.set_cons_succ])
            refine wpAnyH_take (i := 8) (oi := { dst := some 29, op := Op.load 22 (Operand.tmp 28), type := 22, pos := "ref.go:56", after := #[{ on := 7, ground := Ground.data }, { on := 6, ground := Ground.guard }], guard := some (6, true) }) (v := undef) rfl (by kernel_rfl) (by kernel_rfl) (by kernel_rfl) (fun _ _ _ h => h) (Or.inr ⟨by rfl, rfl⟩) hHeld ?_
            (try simp only [Act.put, List.setIfInBounds_toArray, List.set_cons_zero, List.set_cons_succ])
            refine wpAnyH_take (i := 9) (oi := { dst := some 30, op := Op.move (Operand.tmp 3), type := 3, pos := "ref.go:56", after := #[{ on := 6, ground := Ground.guard }], guard := some (6, true) }) (v := undef) rfl (by kernel_rfl) (by kernel_rfl) (by kernel_rfl) (fun _ _ _ h => h) (Or.inr ⟨by rfl, rfl⟩) hHeld ?_
            (try simp only [Act.put, List.setIfInBounds_toArray, List.set_cons_zero, List.set_cons_succ])
            refine wpAnyH_take (i := 10) (oi := { dst := some 31, op := Op.binOp BinOp.sub 3 (Operand.tmp 30) (Operand.const (Value.int IntKind.i64 1)) 3, type := 3, pos := "ref.go:56", after := #[{ on := 9, ground := Ground.data }, { on := 6, ground := Ground.guard }], guard := some (6, true) }) (v := undef) rfl (by kernel_rfl) (by kernel_rfl) (by kernel_rfl) (fun _ _ _ h => h) (Or.inr ⟨by rfl, rfl⟩) hHeld ?_
            (try simp only [Act.put, List.setIfInBounds_toArray, List.set_cons_zero, List.set_cons_succ])
            refine wpAnyH_take (i := 11) (oi := { dst := some 32, op := Op.indexAddr 22 (Operand.tmp 29) (Operand.tmp 31), type := 0, pos := "ref.go:56", after := #[{ on := 8, ground := Ground.data }, { on := 10, ground := Ground.data }, { on := 6, ground := Ground.guard }], guard := some (6, true) }) (v := undef) rfl (by kernel_rfl) (by kernel_rfl) (by kernel_rfl) (fun _ _ _ h => h) (Or.inr ⟨by rfl, rfl⟩) hHeld ?_
            (try simp only [Act.put, List.setIfInBounds_toArray, List.set_cons_zero, List.set_cons_succ])
            refine wpAnyH_take (i := 12) (oi := { dst := some 33, op := Op.fieldAddr 35 (Operand.tmp 32) 0, type := 0, pos := "ref.go:56", after := #[{ on := 11, ground := Ground.data }, { on := 6, ground := Ground.guard }], guard := some (6, true) }) (v := undef) rfl (by kernel_rfl) (by kernel_rfl) (by kernel_rfl) (fun _ _ _ h => h) (Or.inr ⟨by rfl, rfl⟩) hHeld ?_
            (try simp only [Act.put, List.setIfInBounds_toArray, List.set_cons_zero, List.set_cons_succ])
            refine wpAnyH_take (i := 13) (oi := { dst := some 34, op := Op.load 9 (Operand.tmp 33), type := 9, pos := "ref.go:56", after := #[{ on := 12, ground := Ground.data }, { on := 6, ground := Ground.guard }], guard := some (6, true) }) (v := undef) rfl (by kernel_rfl) (by kernel_rfl) (by kernel_rfl) (fun _ _ _ h => h) (Or.inr ⟨by rfl, rfl⟩) hHeld ?_
            (try simp only [Act.put, List.setIfInBounds_toArray, List.set_cons_zero, List.set_cons_succ])
            refine wpAnyH_take (i := 14) (oi := { dst := some 35, op := Op.fieldAddr 35 (Operand.tmp 4) 0, type := 0, pos := "ref.go:56", after := #[{ on := 6, ground := Ground.guard }], guard := some (6, true) }) (v := undef) rfl (by kernel_rfl) (by kernel_rfl) (by kernel_rfl) (fun _ _ _ h => h) (Or.inr ⟨by rfl, rfl⟩) hHeld ?_
            (try simp only [Act.put, List.setIfInBounds_toArray, List.set_cons_zero, List.set_cons_succ])
            refine wpAnyH_take (i := 15) (oi := { dst := some 36, op := Op.load 9 (Operand.tmp 35), type := 9, pos := "ref.go:56", after := #[{ on := 14, ground := Ground.data }, { on := 6, ground := Ground.guard }], guard := some (6, true) }) (v := undef) rfl (by kernel_rfl) (by kernel_rfl) (by kernel_rfl) (fun _ _ _ h => h) (Or.inr ⟨by rfl, rfl⟩) hHeld ?_
            (try simp only [Act.put, List.setIfInBounds_toArray, List.set_cons_zero, List.set_cons_succ])
            refine wpAnyH_take (i := 16) (oi := { dst := some 37, op := Op.call { callee := Callee.value (Operand.func 43), args := #[Operand.tmp 34, Operand.tmp 36], argTypes := #[9, 9] }, type := 3, pos := "ref.go:56", after := #[{ on := 13, ground := Ground.data }, { on := 15, ground := Ground.data }, { on := 6, ground := Ground.chain }, { on := 6, ground := Ground.guard }], guard := some (6, true) }) (v := undef) rfl (by kernel_rfl) (by kernel_rfl) (by kernel_rfl) (fun _ _ _ h => h) (Or.inr ⟨by rfl, rfl⟩) hHeld ?_
            (try simp only [Act.put, List.setIfInBounds_toArray, List.set_cons_zero, List.set_cons_succ])
            refine wpAnyH_take (i := 17) (oi := { dst := some 38, op := Op.binOp BinOp.geq 3 (Operand.tmp 37) (Operand.const (Value.int IntKind.i64 0)) 3, type := 4, pos := "ref.go:56", after := #[{ on := 16, ground := Ground.data }, { on := 6, ground := Ground.guard }], guard := some (6, true) }) (v := undef) rfl (by kernel_rfl) (by kernel_rfl) (by kernel_rfl) (fun _ _ _ h => h) (Or.inr ⟨by rfl, rfl⟩) hHeld ?_
            (try simp only [Act.put, List.setIfInBounds_toArray, List.set_cons_zero, List.set_cons_succ])
            refine wpAnyH_take (i := 18) (oi := { dst := some 39, op := Op.pick (Operand.tmp 27) (Operand.tmp 38) (Operand.const (Value.bool false)), type := 4, pos := "ref.go:56", after := #[{ on := 6, ground := Ground.data }, { on := 17, ground := Ground.data }, { on := 3, ground := Ground.guard }], guard := some (3, false) }) (v := undef) rfl (by kernel_rfl) (by kernel_rfl) (by kernel_rfl) (fun _ _ _ h => h) (Or.inr ⟨by rfl, rfl⟩) hHeld ?_
            (try simp only [Act.put, List.setIfInBounds_toArray, List.set_cons_zero, List.set_cons_succ])
            refine wpAnyH_take (i := 19) (oi := { dst := some 40, op := Op.pick (Operand.tmp 24) (Operand.const (Value.bool true)) (Operand.tmp 39), type := 4, pos := "ref.go:56", after := #[{ on := 3, ground := Ground.data }, { on := 18, ground := Ground.data }], guard := none }) (v := ?_) rfl (by kernel_rfl) (by kernel_rfl) (by kernel_rfl) (fun _ _ _ h => h) (Or.inl ⟨by rfl, ?_⟩) hHeld ?_
            rotate_left
            · (intro w hSw; go_simp; try with_reducible rfl)
            (try simp only [Act.put, List.setIfInBounds_toArray, List.set_cons_zero, List.set_cons_succ])
            refine wpAnyH_done (by kernel_rfl) ?_ _
            have HD := Lib.hid hHeld
            clear hHeld
            go_wp2_with fail
            go_ret
            exact ⟨retb HR.out.symm, bch HB1.out (bch HB5.out HD.out)⟩
        | true =>
          obtain hk0 | ⟨j, hkj⟩ : k = 0 ∨ ∃ j, k = j + 1 := by cases k with | zero => exact .inl rfl | succ j => exact .inr ⟨j, rfl⟩
          · have kp : decide ((k : Int) > 0) = false := decide_eq_false (by omega)
            have kz : ¬ 0 < k := by omega
            have HP2 : Hid ((l.take (k + 1)).all rightI = true ∧ chainR (l.take (k + 1)) = true) := Lib.hid (by
              rw [take_one HX.out, hk0]
              exact ⟨by simp [← HRX.out], rfl⟩)
            clear hk0
            refine wpAnyH_take (i := 0) (oi := { dst := some 21, op := Op.load 35 (Operand.tmp 4), type := 35, pos := "ref.go:56", after := #[], guard := none }) (v := ?_) rfl (by kernel_rfl) (by kernel_rfl) (by kernel_rfl) (fun _ _ _ h => h) (Or.inl ⟨by rfl, ?_⟩) hHeld ?_
            rotate_left
            · (intro w hSw; obtain ⟨d0, d1, d2⟩ := (HX5.out.on hSw).it; go_simp; try with_reducible rfl)
            (try simp only [Act.put, List.setIfInBounds_toArray, List.set_cons_zero, List.set_cons_succ])
            refine wpAnyH_ready (rs := [1]) (by kernel_rfl) (by simp) (AllReadyH.cons (o := { dst := some 22, op := Op.call { callee := Callee.value (Operand.func 42), args := #[Operand.tmp 21], argTypes := #[35] }, type := 4, pos := "ref.go:56", after := #[{ on := 0, ground := Ground.data }], guard := none }) rfl (fun K hK => ?_) AllReadyH.nil)
            · go_simp
              refine (HRI.out _).mono ?_
              rintro e v101 ⟨rfl, hba⟩
              refine hK.out _ _ (bch hHeld hba) (fun hHeld => ?_)
              clear hba
              (try simp only [Act.put, List.setIfInBounds_toArray, List.set_cons_zero, List.set_cons_succ])
              refine wpAnyH_take (i := 2) (oi := { dst := some 23, op := Op.unOp UnOp.not 4 (Operand.tmp 22), type := 4, pos := "ref.go:56", after := #[{ on := 1, ground := Ground.data }], guard := none }) (v := ?_) rfl (by kernel_rfl) (by kernel_rfl) (by kernel_rfl) (fun _ _ _ h => h) (Or.inl ⟨by rfl, ?_⟩) hHeld ?_
              rotate_left
              · (intro w hSw; go_simp; try with_reducible rfl)
              (try simp only [Act.put, List.setIfInBounds_toArray, List.set_cons_zero, List.set_cons_succ])
              refine wpAnyH_take (i := 3) (oi := { dst := some 24, op := Op.move (Operand.tmp 23), type := 4, pos := "ref.go:56", after := #[{ on := 2, ground := Ground.data }, { on := 1, ground := Ground.chain }], guard := none }) (v := ?_) rfl (by kernel_rfl) (by kernel_rfl) (by kernel_rfl) (fun _ _ _ h => h) (Or.inl ⟨by rfl, ?_⟩) hHeld ?_
              rotate_left
              · (intro w hSw; go_simp; try with_reducible rfl)
              (try simp only [Act.put, List.setIfInBounds_toArray, List.set_cons_zero, List.set_cons_succ])
              refine wpAnyH_take (i := 4) (oi := { dst := some 25, op := Op.move (Operand.tmp 3), type := 3, pos := "ref.go:56", after := #[{ on := 3, ground := Ground.guard }], guard := some (3, false) }) (v := ?_) rfl (by kernel_rfl) (by kernel_rfl) (by kernel_rfl) (fun _ _ _ h => h) (Or.inl ⟨by rfl, ?_⟩) hHeld ?_
              rotate_left
              · (intro w hSw; go_simp; try with_reducible rfl)
              (try simp only [Act.put, List.setIfInBounds_toArray, List.set_cons_zero, List.set_cons_succ])
              refine wpAnyH_take (i := 5) (oi := { dst := some 26, op := Op.binOp BinOp.gtr 3 (Operand.tmp 25) (Operand.const (Value.int IntKind.i64 0)) 3, type := 4, pos := "ref.go:56", after := #[{ on := 4, ground := Ground.data }, { on := 3, ground := Ground.guard }], guard := some (3, false) }) (v := ?_) rfl (by kernel_rfl) (by kernel_rfl) (by kernel_rfl) (fun _ _ _ h => h) (Or.inl ⟨by rfl, ?_⟩) hHeld ?_
              rotate_left
              · (intro w hSw; go_simp; try with_reducible rfl)
              (try simp only [Act.put, List.setIfInBounds_toArray, List.set_cons_zero, List.set_cons_succ])
              refine wpAnyH_take (i := 6) (oi := { dst := some 27, op := Op.move (Operand.tmp 26), type := 4, pos := "ref.go:56", after := #[{ on := 5, ground := Ground.data }, { on := 3, ground := Ground.chain }, { on := 3, ground := Ground.guard }], guard := some (3, false) }) (v := ?_) rfl (by kernel_rfl) (by kernel_rfl) (by kernel_rfl) (fun _ _ _ h => h) (Or.inl ⟨by rfl, ?_⟩) hHeld ?_
              rotate_left
              · (intro w hSw; go_simp; try with_reducible rfl)
              (try simp only [Act.put, List.setIfInBounds_toArray, List.set_cons_zero, List.set_cons_succ])
              refine wpAnyH_take (i := 7) (oi := { dst := some 28, op := Op.fieldAddr 24 (Operand.tmp 1) 0, type := 0, pos := "ref.go:56", after := #[{ on := 6, ground := Ground.guard }], guard := some (6, true) }) (v := undef) rfl (by kernel_rfl) (by kernel_rfl) (by kernel_rfl) (fun _ _ _ h => h) (Or.inr ⟨by rfl, rfl⟩) hHeld ?_
              (try simp only [Act.put, List.setIfInBounds_toArray, List.set_cons_zero, List.set_cons_succ])
              refine wpAnyH_take (i := 8) (oi := { dst := some 29, op := Op.load 22 (Operand.tmp 28), type := 22, pos := "ref.go:56", after := #[{ on := 7, ground := Ground.data }, { on := 6, ground := Ground.guard }], guard := some (6, true) }) (v := undef) rfl (by kernel_rfl) (by kernel_rfl) (by kernel_rfl) (fun _ _ _ h => h) (Or.inr ⟨by rfl, rfl⟩) hHeld ?_
              (try simp only [Act.put, List.setIfInBounds_toArray, List.set_cons_zero, List.set_cons_succ])
              refine wpAnyH_take (i := 9) (oi := { dst := some 30, op := Op.move (Operand.tmp 3), type := 3, pos := "ref.go:56", after := #[{ on := 6, ground := Ground.guard }], guard := some (6, true) }) (v := undef) rfl (by kernel_rfl) (by kernel_rfl) (by kernel_rfl) (fun _ _ _ h => h) (Or.inr ⟨by rfl, rfl⟩) hHeld ?_
              (try simp only [Act.put, List.setIfInBounds_toArray, List.set_cons_zero, List.set_cons_succ])
              refine wpAnyH_take (i := 10) (oi := { dst := some 31, op := Op.binOp BinOp.sub 3 (Operand.tmp 30) (Operand.const (Value.int IntKind.i64 1)) 3, type := 3, pos := "ref.go:56", after := #[{ on := 9, ground := Ground.data }, { on := 6, ground := Ground.guard }], guard := some (6, true) }) (v := undef) rfl (by kernel_rfl) (by kernel_rfl) (by kernel_rfl) (fun _ _ _ h => h) (Or.inr ⟨by rfl, rfl⟩) hHeld ?_
              (try simp only [Act.put, List.setIfInBounds_toArray, List.set_cons_zero, List.set_cons_succ])
              refine wpAnyH_take (i := 11) (oi := { dst := some 32, op := Op.indexAddr 22 (Operand.tmp 29) (Operand.tmp 31), type := 0, pos := "ref.go:56", after := #[{ on := 8, ground := Ground.data }, { on := 10, ground := Ground.data }, { on := 6, ground := Ground.guard }], guard := some (6, true) }) (v := undef) rfl (by kernel_rfl) (by kernel_rfl) (by kernel_rfl) (fun _ _ _ h => h) (Or.inr ⟨by rfl, rfl⟩) hHeld ?_
              (try simp only [Act.put, List.setIfInBounds_toArray, List.set_cons_zero, List.set_cons_succ])
              refine wpAnyH_take (i := 12) (oi := { dst := some 33, op := Op.fieldAddr 35 (Operand.tmp 32) 0, type := 0, pos := "ref.go:56", after := #[{ on := 11, ground := Ground.data }, { on := 6, ground := Ground.guard }], guard := some (6, true) }) (v := undef) rfl (by kernel_rfl) (by kernel_rfl) (by kernel_rfl) (fun _ _ _ h => h) (Or.inr ⟨by rfl, rfl⟩) hHeld ?_
              (try simp only [Act.put, List.setIfInBounds_toArray, List.set_cons_zero, List.set_cons_succ])
              refine wpAnyH_take (i := 13) (oi := { dst := some 34, op := Op.load 9 (Operand.tmp 33), type := 9, pos := "ref.go:56", after := #[{ on := 12, ground := Ground.data }, { on := 6, ground := Ground.guard }], guard := some (6, true) }) (v := undef) rfl (by kernel_rfl) (by kernel_rfl) (by kernel_rfl) (fun _ _ _ h => h) (Or.inr ⟨by rfl, rfl⟩) hHeld ?_
              (try simp only [Act.put, List.setIfInBounds_toArray, List.set_cons_zero, List.set_cons_succ])
              refine wpAnyH_take (i := 14) (oi := { dst := some 35, op := Op.fieldAddr 35 (Operand.tmp 4) 0, type := 0, pos := "ref.go:56", after := #[{ on := 6, ground := Ground.guard }], guard := some (6, true) }) (v := undef) rfl (by kernel_rfl) (by kernel_rfl) (by kernel_rfl) (fun _ _ _ h => h) (Or.inr ⟨by rfl, rfl⟩) hHeld ?_
              (try simp only [Act.put, List.setIfInBounds_toArray, List.set_cons_zero, List.set_cons_succ])
              refine wpAnyH_take (i := 15) (oi := { dst := some 36, op := Op.load 9 (Operand.tmp 35), type := 9, pos := "ref.go:56", after := #[{ on := 14, ground := Ground.data }, { on := 6, ground := Ground.guard }], guard := some (6, true) }) (v := undef) rfl (by kernel_rfl) (by kernel_rfl) (by kernel_rfl) (fun _ _ _ h => h) (Or.inr ⟨by rfl, rfl⟩) hHeld ?_
              (try simp only [Act.put, List.setIfInBounds_toArray, List.set_cons_zero, List.set_cons_succ])
              refine wpAnyH_take (i := 16) (oi := { dst := some 37, op := Op.call { callee := Callee.value (Operand.func 43), args := #[Operand.tmp 34, Operand.tmp 36], argTypes := #[9, 9] }, type := 3, pos := "ref.go:56", after := #[{ on := 13, ground := Ground.data }, { on := 15, ground := Ground.data }, { on := 6, ground := Ground.chain }, { on := 6, ground := Ground.guard }], guard := some (6, true) }) (v := undef) rfl (by kernel_rfl) (by kernel_rfl) (by kernel_rfl) (fun _ _ _ h => h) (Or.inr ⟨by rfl, rfl⟩) hHeld ?_
              (try simp only [Act.put, List.setIfInBounds_toArray, List.set_cons_zero, List.set_cons_succ])
              refine wpAnyH_take (i := 17) (oi := { dst := some 38, op := Op.binOp BinOp.geq 3 (Operand.tmp 37) (Operand.const (Value.int IntKind.i64 0)) 3, type := 4, pos := "ref.go:56", after := #[{ on := 16, ground := Ground.data }, { on := 6, ground := Ground.guard }], guard := some (6, true) }) (v := undef) rfl (by kernel_rfl) (by kernel_rfl) (by kernel_rfl) (fun _ _ _ h => h) (Or.inr ⟨by rfl, rfl⟩) hHeld ?_
              (try simp only [Act.put, List.setIfInBounds_toArray, List.set_cons_zero, List.set_cons_succ])
              refine wpAnyH_take (i := 18) (oi := { dst := some 39, op := Op.pick (Operand.tmp 27) (Operand.tmp 38) (Operand.const (Value.bool false)), type := 4, pos := "ref.go:56", after := #[{ on := 6, ground := Ground.data }, { on := 17, ground := Ground.data }, { on := 3, ground := Ground.guard }], guard := some (3, false) }) (v := ?_) rfl (by kernel_rfl) (by kernel_rfl) (by kernel_rfl) (fun _ _ _ h => h) (Or.inl ⟨by rfl, ?_⟩) hHeld ?_
              rotate_left
              · (intro w hSw; go_simp; try with_reducible rfl)
              (try simp only [Act.put, List.setIfInBounds_toArray, List.set_cons_zero, List.set_cons_succ])
              refine wpAnyH_take (i := 19) (oi := { dst := some 40, op := Op.pick (Operand.tmp 24) (Operand.const (Value.bool true)) (Operand.tmp 39), type := 4, pos := "ref.go:56", after := #[{ on := 3, ground := Ground.data }, { on := 18, ground := Ground.data }], guard := none }) (v := ?_) rfl (by kernel_rfl) (by kernel_rfl) (by kernel_rfl) (fun _ _ _ h => h) (Or.inl ⟨by rfl, ?_⟩) hHeld ?_
              rotate_left
              · (intro w hSw; go_simp; try with_reducible rfl)
              (try simp only [Act.put, List.setIfInBounds_toArray, List.set_cons_zero, List.set_cons_succ])
              refine wpAnyH_done (by kernel_rfl) ?_ _
              have HD := Lib.hid hHeld
              clear hHeld
              go_wp2_with fail
              go_roundw
              case rel => exact ⟨k + 1, hlt, by go_num, HP2, Lib.hid (bch HB5.out HD.out)⟩
              case measure => simp [Lib.intOf]; omega
          · obtain ⟨y, hy⟩ : ∃ y, l[j]? = some y := ⟨_, List.getElem?_eq_getElem (by rw [← HN.out]; omega)⟩
            have kp : decide ((k : Int) > 0) = true := decide_eq_true (by omega)
            have kz : 0 < k := by omega
            have ks : IntKind.i64.wrap ((k : Int) - 1) = (j : Int) := by rw [show (k : Int) - 1 = (j : Int) by omega]; exact IntWalk.i64_in _ (by omega)
            have j1 : (j : Int) < (n : Int) := by omega
            have j2 : (0 : Int) ≤ (j : Int) := by omega
            have HY := Lib.hid hy
            have HKJ := Lib.hid hkj
            obtain ⟨cm, hcm2⟩ : ∃ z, z = cmpL y.path x.path := ⟨_, rfl⟩
            have HCM : Hid (∀ W, Calls Tryd.prog 43 #[.string ⟨y.path.toArray⟩, .string ⟨x.path.toArray⟩] W fun e w' => e = .returned (.int .i64 cm) ∧ Below W.heap.size W w') := Lib.hid (fun W => by rw [hcm2]; exact rcmp_any ⟨y.path.toArray⟩ ⟨x.path.toArray⟩ (HSZ.out y (List.mem_of_getElem? hy)) (HSZ.out x (List.mem_of_getElem? HX.out)) W)
            have HCX := Lib.hid hcm2
            clear hy hkj hcm2
            obtain ⟨bd, hbd⟩ : ∃ b : Bool, decide (cm ≥ 0) = b := ⟨_, rfl⟩
            cases bd with
            | true =>
              have HR : Hid (rightR l = false) := Lib.hid (chain_not HY.out (by rw [← HKJ.out]; exact HX.out) (by have := of_decide_eq_true hbd; rw [← HCX.out]; omega))
              refine wpAnyH_take (i := 0) (oi := { dst := some 21, op := Op.load 35 (Operand.tmp 4), type := 35, pos := "ref.go:56", after := #[], guard := none }) (v := ?_) rfl (by kernel_rfl) (by kernel_rfl) (by kernel_rfl) (fun _ _ _ h => h) (Or.inl ⟨by rfl, ?_⟩) hHeld ?_
              rotate_left
              · (intro w hSw; obtain ⟨d0, d1, d2⟩ := (HX5.out.on hSw).it; go_simp; try with_reducible rfl)
              (try simp only [Act.put, List.setIfInBounds_toArray, List.set_cons_zero, List.set_cons_succ])
              refine wpAnyH_ready (rs := [1]) (by kernel_rfl) (by simp) (AllReadyH.cons (o := { dst := some 22, op := Op.call { callee := Callee.value (Operand.func 42), args := #[Operand.tmp 21], argTypes := #[35] }, type := 4, pos := "ref.go:56", after := #[{ on := 0, ground := Ground.data }], guard := none }) rfl (fun K hK => ?_) AllReadyH.nil)
              · go_simp
                refine (HRI.out _).mono ?_
                rintro e v101 ⟨rfl, hba⟩
                refine hK.out _ _ (bch hHeld hba) (fun hHeld => ?_)
                clear hba
                (try simp only [Act.put, List.setIfInBounds_toArray, List.set_cons_zero, List.set_cons_succ])
                refine wpAnyH_take (i := 2) (oi := { dst := some 23, op := Op.unOp UnOp.not 4 (Operand.tmp 22), type := 4, pos := "ref.go:56", after := #[{ on := 1, ground := Ground.data }], guard := none }) (v := ?_) rfl (by kernel_rfl) (by kernel_rfl) (by kernel_rfl) (fun _ _ _ h => h) (Or.inl ⟨by rfl, ?_⟩) hHeld ?_
                rotate_left
                · (intro w hSw; go_simp; try with_reducible rfl)
                (try simp only [Act.put, List.setIfInBounds_toArray, List.set_cons_zero, List.set_cons_succ])
                refine wpAnyH_take (i := 3) (oi := { dst := some 24, op := Op.move (Operand.tmp 23), type := 4, pos := "ref.go:56", after := #[{ on := 2, ground := Ground.data }, { on := 1, ground := Ground.chain }], guard := none }) (v := ?_) rfl (by kernel_rfl) (by kernel_rfl) (by kernel_rfl) (fun _ _ _ h => h) (Or.inl ⟨by rfl, ?_⟩) hHeld ?_
                rotate_left
                · (intro w hSw; go_simp; try with_reducible rfl)
                (try simp only [Act.put, List.setIfInBounds_toArray, List.set_cons_zero, List.set_cons_succ])
                refine wpAnyH_take (i := 4) (oi := { dst := some 25, op := Op.move (Operand.tmp 3), type := 3, pos := "ref.go:56", after := #[{ on := 3, ground := Ground.guard }], guard := some (3, false) }) (v := ?_) rfl (by kernel_rfl) (by kernel_rfl) (by kernel_rfl) (fun _ _ _ h => h) (Or.inl ⟨by rfl, ?_⟩) hHeld ?_
                rotate_left
                · (intro w hSw; go_simp; try with_reducible rfl)
                (try simp only [Act.put, List.setIfInBounds_toArray, List.set_cons_zero, List.set_cons_succ])
                refine wpAnyH_take (i := 5) (oi := { dst := some 26, op := Op.binOp BinOp.gtr 3 (Operand.tmp 25) (Operand.const (Value.int IntKind.i64 0)) 3, type := 4, pos := "ref.go:56", after := #[{ on := 4, ground := Ground.data }, { on := 3, ground := Ground.guard }], guard := some (3, false) }) (v := ?_) rfl (by kernel_rfl) (by kernel_rfl) (by kernel_rfl) (fun _ _ _ h => h) (Or.inl ⟨by rfl, ?_⟩) hHeld ?_
                rotate_left
                · (intro w hSw; go_simp; try with_reducible rfl)
                (try simp only [Act.put, List.setIfInBounds_toArray, List.set_cons_zero, List.set_cons_succ])
                refine wpAnyH_take (i := 6) (oi := { dst := some 27, op := Op.move (Operand.tmp 26), type := 4, pos := "ref.go:56", after := #[{ on := 5, ground := Ground.data }, { on := 3, ground := Ground.chain }, { on := 3, ground := Ground.guard }], guard := some (3, false) }) (v := ?_) rfl (by kernel_rfl) (by kernel_rfl) (by kernel_rfl) (fun _ _ _ h => h) (Or.inl ⟨by rfl, ?_⟩) hHeld ?_
                rotate_left
                · (intro w hSw; go_simp; try with_reducible rfl)
                (try simp only [Act.put, List.setIfInBounds_toArray, List.set_cons_zero, List.set_cons_succ])
                refine wpAnyH_take (i := 7) (oi := { dst := some 28, op := Op.fieldAddr 24 (Operand.tmp 1) 0, type := 0, pos := "ref.go:56", after := #[{ on := 6, ground := Ground.guard }], guard := some (6, true) }) (v := ?_) rfl (by kernel_rfl) (by kernel_rfl) (by kernel_rfl) (fun _ _ _ h => h) (Or.inl ⟨by rfl, ?_⟩) hHeld ?_
                rotate_left
                · (intro w hSw; go_simp; try with_reducible rfl)
                (try simp only [Act.put, List.setIfInBounds_toArray, List.set_cons_zero, List.set_cons_succ])
                refine wpAnyH_take (i := 8) (oi := { dst := some 29, op := Op.load 22 (Operand.tmp 28), type := 22, pos := "ref.go:56", after := #[{ on := 7, ground := Ground.data }, { on := 6, ground := Ground.guard }], guard := some (6, true) }) (v := ?_) rfl (by kernel_rfl) (by kernel_rfl) (by kernel_rfl) (fun _ _ _ h => h) (Or.inl ⟨by rfl, ?_⟩) hHeld ?_
                rotate_left
                · (intro w hSw; have p0 := (X15.out.on hSw).cell (k := 0) rfl; go_simp; try with_reducible rfl)
                (try simp only [Act.put, List.setIfInBounds_toArray, List.set_cons_zero, List.set_cons_succ])
                refine wpAnyH_take (i := 9) (oi := { dst := some 30, op := Op.move (Operand.tmp 3), type := 3, pos := "ref.go:56", after := #[{ on := 6, ground := Ground.guard }], guard := some (6, true) }) (v := ?_) rfl (by kernel_rfl) (by kernel_rfl) (by kernel_rfl) (fun _ _ _ h => h) (Or.inl ⟨by rfl, ?_⟩) hHeld ?_
                rotate_left
                · (intro w hSw; go_simp; try with_reducible rfl)
                (try simp only [Act.put, List.setIfInBounds_toArray, List.set_cons_zero, List.set_cons_succ])
                refine wpAnyH_take (i := 10) (oi := { dst := some 31, op := Op.binOp BinOp.sub 3 (Operand.tmp 30) (Operand.const (Value.int IntKind.i64 1)) 3, type := 3, pos := "ref.go:56", after := #[{ on := 9, ground := Ground.data }, { on := 6, ground := Ground.guard }], guard := some (6, true) }) (v := ?_) rfl (by kernel_rfl) (by kernel_rfl) (by kernel_rfl) (fun _ _ _ h => h) (Or.inl ⟨by rfl, ?_⟩) hHeld ?_
                rotate_left
                · (intro w hSw; go_simp; try with_reducible rfl)
                (try simp only [Act.put, List.setIfInBounds_toArray, List.set_cons_zero, List.set_cons_succ])
                refine wpAnyH_take (i := 11) (oi := { dst := some 32, op := Op.indexAddr 22 (Operand.tmp 29) (Operand.tmp 31), type := 0, pos := "ref.go:56", after := #[{ on := 8, ground := Ground.data }, { on := 10, ground := Ground.data }, { on := 6, ground := Ground.guard }], guard := some (6, true) }) (v := ?_) rfl (by kernel_rfl) (by kernel_rfl) (by kernel_rfl) (fun _ _ _ h => h) (Or.inl ⟨by rfl, ?_⟩) hHeld ?_
                rotate_left
                · (intro w hSw; go_simp; try with_reducible rfl)
                (try simp only [Act.put, List.setIfInBounds_toArray, List.set_cons_zero, List.set_cons_succ])
                refine wpAnyH_take (i := 12) (oi := { dst := some 33, op := Op.fieldAddr 35 (Operand.tmp 32) 0, type := 0, pos := "ref.go:56", after := #[{ on := 11, ground := Ground.data }, { on := 6, ground := Ground.guard }], guard := some (6, true) }) (v := ?_) rfl (by kernel_rfl) (by kernel_rfl) (by kernel_rfl) (fun _ _ _ h => h) (Or.inl ⟨by rfl, ?_⟩) hHeld ?_
                rotate_left
                · (intro w hSw; go_simp; try with_reducible rfl)
                (try simp only [Act.put, List.setIfInBounds_toArray, List.set_cons_zero, List.set_cons_succ])
                refine wpAnyH_take (i := 13) (oi := { dst := some 34, op := Op.load 9 (Operand.tmp 33), type := 9, pos := "ref.go:56", after := #[{ on := 12, ground := Ground.data }, { on := 6, ground := Ground.guard }], guard := some (6, true) }) (v := ?_) rfl (by kernel_rfl) (by kernel_rfl) (by kernel_rfl) (fun _ _ _ h => h) (Or.inl ⟨by rfl, ?_⟩) hHeld ?_
                rotate_left
                · (intro w hSw; obtain ⟨d0, _, _⟩ := (HIA.out j y HY.out).on HG5.out hSw; go_simp; try with_reducible rfl)
                (try simp only [Act.put, List.setIfInBounds_toArray, List.set_cons_zero, List.set_cons_succ])
                refine wpAnyH_take (i := 14) (oi := { dst := some 35, op := Op.fieldAddr 35 (Operand.tmp 4) 0, type := 0, pos := "ref.go:56", after := #[{ on := 6, ground := Ground.guard }], guard := some (6, true) }) (v := ?_) rfl (by kernel_rfl) (by kernel_rfl) (by kernel_rfl) (fun _ _ _ h => h) (Or.inl ⟨by rfl, ?_⟩) hHeld ?_
                rotate_left
                · (intro w hSw; go_simp; try with_reducible rfl)
                (try simp only [Act.put, List.setIfInBounds_toArray, List.set_cons_zero, List.set_cons_succ])
                refine wpAnyH_take (i := 15) (oi := { dst := some 36, op := Op.load 9 (Operand.tmp 35), type := 9, pos := "ref.go:56", after := #[{ on := 14, ground := Ground.data }, { on := 6, ground := Ground.guard }], guard := some (6, true) }) (v := ?_) rfl (by kernel_rfl) (by kernel_rfl) (by kernel_rfl) (fun _ _ _ h => h) (Or.inl ⟨by rfl, ?_⟩) hHeld ?_
                rotate_left
                · (intro w hSw; obtain ⟨d0, d1, d2⟩ := (HX5.out.on hSw).it; go_simp; try with_reducible rfl)
                (try simp only [Act.put, List.setIfInBounds_toArray, List.set_cons_zero, List.set_cons_succ])
                refine wpAnyH_ready (rs := [16]) (by kernel_rfl) (by simp) (AllReadyH.cons (o := { dst := some 37, op := Op.call { callee := Callee.value (Operand.func 43), args := #[Operand.tmp 34, Operand.tmp 36], argTypes := #[9, 9] }, type := 3, pos := "ref.go:56", after := #[{ on := 13, ground := Ground.data }, { on := 15, ground := Ground.data }, { on := 6, ground := Ground.chain }, { on := 6, ground := Ground.guard }], guard := some (6, true) }) rfl (fun K hK => ?_) AllReadyH.nil)
                · go_simp
                  refine (HCM.out _).mono ?_
                  rintro e v102 ⟨rfl, hba⟩
                  refine hK.out _ _ (bch hHeld hba) (fun hHeld => ?_)
                  clear hba
                  (try simp only [Act.put, List.setIfInBounds_toArray, List.set_cons_zero, List.set_cons_succ])
                  refine wpAnyH_take (i := 17) (oi := { dst := some 38, op := Op.binOp BinOp.geq 3 (Operand.tmp 37) (Operand.const (Value.int IntKind.i64 0)) 3, type := 4, pos := "ref.go:56", after := #[{ on := 16, ground := Ground.data }, { on := 6, ground := Ground.guard }], guard := some (6, true) }) (v := ?_) rfl (by kernel_rfl) (by kernel_rfl) (by kernel_rfl) (fun _ _ _ h => h) (Or.inl ⟨by rfl, ?_⟩) hHeld ?_
                  rotate_left
                  · (intro w hSw; go_simp; try with_reducible rfl)
                  (try simp only [Act.put, List.setIfInBounds_toArray, List.set_cons_zero, List.set_cons_succ])
                  refine wpAnyH_take (i := 18) (oi := { dst := some 39, op := Op.pick (Operand.tmp 27) (Operand.tmp 38) (Operand.const (Value.bool false)), type := 4, pos := "ref.go:56", after := #[{ on := 6, ground := Ground.data }, { on := 17, ground := Ground.data }, { on := 3, ground := Ground.guard }], guard := some (3, false) }) (v := ?_) rfl (by kernel_rfl) (by kernel_rfl) (by kernel_rfl) (fun _ _ _ h => h) (Or.inl ⟨by rfl, ?_⟩) hHeld ?_
                  rotate_left
                  · (intro w hSw; go_simp; try with_reducible rfl)
                  (try simp only [Act.put, List.setIfInBounds_toArray, List.set_cons_zero, List.set_cons_succ])
                  refine wpAnyH_take (i := 19) (oi := { dst := some 40, op := Op.pick (Operand.tmp 24) (Operand.const (Value.bool true)) (Operand.tmp 39), type := 4, pos := "ref.go:56", after := #[{ on := 3, ground := Ground.data }, { on := 18, ground := Ground.data }], guard := none }) (v := ?_) rfl (by kernel_rfl) (by kernel_rfl) (by kernel_rfl) (fun _ _ _ h => h) (Or.inl ⟨by rfl, ?_⟩) hHeld ?_
                  rotate_left
                  · (intro w hSw; go_simp; try with_reducible rfl)
                  (try simp only [Act.put, List.setIfInBounds_toArray, List.set_cons_zero, List.set_cons_succ])
                  refine wpAnyH_done (by kernel_rfl) ?_ _
                  have HD := Lib.hid hHeld
                  clear hHeld
                  go_wp2_with fail
                  go_ret
                  exact ⟨retb HR.out.symm, bch HB1.out (bch HB5.out HD.out)⟩
            | false =>
              have HP2 : Hid ((l.take (k + 1)).all rightI = true ∧ chainR (l.take (k + 1)) = true) := Lib.hid (by
                have h9 := HX.out
                have h8 := HP.out
                have h7 := of_decide_eq_false hbd
                refine ⟨by rw [take_one h9, List.all_append, h8.1]; simp [← HRX.out], ?_⟩
                rw [HKJ.out] at h9 h8 ⊢
                rw [chain_take HY.out h9, h8.2, decide_eq_true (by rw [← HCX.out]; omega)]; rfl)
              refine wpAnyH_take (i := 0) (oi := { dst := some 21, op := Op.load 35 (Operand.tmp 4), type := 35, pos := "ref.go:56", after := #[], guard := none }) (v := ?_) rfl (by kernel_rfl) (by kernel_rfl) (by kernel_rfl) (fun _ _ _ h => h) (Or.inl ⟨by rfl, ?_⟩) hHeld ?_
              rotate_left
              · (intro w hSw; obtain ⟨d0, d1, d2⟩ := (HX5.out.on hSw).it; go_simp; try with_reducible rfl)
              (try simp only [Act.put, List.setIfInBounds_toArray, List.set_cons_zero, List.set_cons_succ])
              refine wpAnyH_ready (rs := [1]) (by kernel_rfl) (by simp) (AllReadyH.cons (o := { dst := some 22, op := Op.call { callee := Callee.value (Operand.func 42), args := #[Operand.tmp 21], argTypes := #[35] }, type := 4, pos := "ref.go:56", after := #[{ on := 0, ground := Ground.data }], guard := none }) rfl (fun K hK => ?_) AllReadyH.nil)
              · go_simp
                refine (HRI.out _).mono ?_
                rintro e v101 ⟨rfl, hba⟩
                refine hK.out _ _ (bch hHeld hba) (fun hHeld => ?_)
                clear hba
                (try simp only [Act.put, List.setIfInBounds_toArray, List.set_cons_zero, List.set_cons_succ])
                refine wpAnyH_take (i := 2) (oi := { dst := some 23, op := Op.unOp UnOp.not 4 (Operand.tmp 22), type := 4, pos := "ref.go:56", after := #[{ on := 1, ground := Ground.data }], guard := none }) (v := ?_) rfl (by kernel_rfl) (by kernel_rfl) (by kernel_rfl) (fun _ _ _ h => h) (Or.inl ⟨by rfl, ?_⟩) hHeld ?_
                rotate_left
                · (intro w hSw; go_simp; try with_reducible rfl)
                (try simp only [Act.put, List.setIfInBounds_toArray, List.set_cons_zero, List.set_cons_succ])
                refine wpAnyH_take (i := 3) (oi := { dst := some 24, op := Op.move (Operand.tmp 23), type := 4, pos := "ref.go:56", after := #[{ on := 2, ground := Ground.data }, { on := 1, ground := Ground.chain }], guard := none }) (v := ?_) rfl (by kernel_rfl) (by kernel_rfl) (by kernel_rfl) (fun _ _ _ h => h) (Or.inl ⟨by rfl, ?_⟩) hHeld ?_
                rotate_left
                · (intro w hSw; go_simp; try with_reducible rfl)
                (try simp only [Act.put, List.setIfInBounds_toArray, List.set_cons_zero, List.set_cons_succ])
                refine wpAnyH_take (i := 4) (oi := { dst := some 25, op := Op.move (Operand.tmp 3), type := 3, pos := "ref.go:56", after := #[{ on := 3, ground := Ground.guard }], guard := some (3, false) }) (v := ?_) rfl (by kernel_rfl) (by kernel_rfl) (by kernel_rfl) (fun _ _ _ h => h) (Or.inl ⟨by rfl, ?_⟩) hHeld ?_
                rotate_left
                · (intro w hSw; go_simp; try with_reducible rfl)
                (try simp only [Act.put, List.setIfInBounds_toArray, List.set_cons_zero, List.set_cons_succ])
                refine wpAnyH_take (i := 5) (oi := { dst := some 26, op := Op.binOp BinOp.gtr 3 (Operand.tmp 25) (Operand.const (Value.int IntKind.i64 0)) 3, type := 4, pos := "ref.go:56", after := #[{ on := 4, ground := Ground.data }, { on := 3, ground := Ground.guard }], guard := some (3, false) }) (v := ?_) rfl (by kernel_rfl) (by kernel_rfl) (by kernel_rfl) (fun _ _ _ h => h) (Or.inl ⟨by rfl, ?_⟩) hHeld ?_
                rotate_left
                · (intro w hSw; go_simp; try with_reducible rfl)
                (try simp only [Act.put, List.setIfInBounds_toArray, List.set_cons_zero, List.set_cons_succ])
                refine wpAnyH_take (i := 6) (oi := { dst := some 27, op := Op.move (Operand.tmp 26), type := 4, pos := "ref.go:56", after := #[{ on := 5, ground := Ground.data }, { on := 3, ground := Ground.chain }, { on := 3, ground := Ground.guard }], guard := some (3, false) }) (v := ?_) rfl (by kernel_rfl) (by kernel_rfl) (by kernel_rfl) (fun _ _ _ h => h) (Or.inl ⟨by rfl, ?_⟩) hHeld ?_
                rotate_left
                · (intro w hSw; go_simp; try with_reducible rfl)
                (try simp only [Act.put, List.setIfInBounds_toArray, List.set_cons_zero, List.set_cons_succ])
                refine wpAnyH_take (i := 7) (oi := { dst := some 28, op := Op.fieldAddr 24 (Operand.tmp 1) 0, type := 0, pos := "ref.go:56", after := #[{ on := 6, ground := Ground.guard }], guard := some (6, true) }) (v := ?_) rfl (by kernel_rfl) (by kernel_rfl) (by kernel_rfl) (fun _ _ _ h => h) (Or.inl ⟨by rfl, ?_⟩) hHeld ?_
                rotate_left
                · (intro w hSw; go_simp; try with_reducible rfl)
                (try simp only [Act.put, List.setIfInBounds_toArray, List.set_cons_zero, List.set_cons_succ])
                refine wpAnyH_take (i := 8) (oi := { dst := some 29, op := Op.load 22 (Operand.tmp 28), type := 22, pos := "ref.go:56", after := #[{ on := 7, ground := Ground.data }, { on := 6, ground := Ground.guard }], guard := some (6, true) }) (v := ?_) rfl (by kernel_rfl) (by kernel_rfl) (by kernel_rfl) (fun _ _ _ h => h) (Or.inl ⟨by rfl, ?_⟩) hHeld ?_
                rotate_left
                · (intro w hSw; have p0 := (X15.out.on hSw).cell (k := 0) rfl; go_simp; try with_reducible rfl)
                (try simp only [Act.put, List.setIfInBounds_toArray, List.set_cons_zero, List.set_cons_succ])
                refine wpAnyH_take (i := 9) (oi := { dst := some 30, op := Op.move (Operand.tmp 3), type := 3, pos := "ref.go:56", after := #[{ on := 6, ground := Ground.guard }], guard := some (6, true) }) (v := ?_) rfl (by kernel_rfl) (by kernel_rfl) (by kernel_rfl) (fun _ _ _ h => h) (Or.inl ⟨by rfl, ?_⟩) hHeld ?_
                rotate_left
                · (intro w hSw; go_simp; try with_reducible rfl)
                (try simp only [Act.put, List.setIfInBounds_toArray, List.set_cons_zero, List.set_cons_succ])
                refine wpAnyH_take (i := 10) (oi := { dst := some 31, op := Op.binOp BinOp.sub 3 (Operand.tmp 30) (Operand.const (Value.int IntKind.i64 1)) 3, type := 3, pos := "ref.go:56", after := #[{ on := 9, ground := Ground.data }, { on := 6, ground := Ground.guard }], guard := some (6, true) }) (v := ?_) rfl (by kernel_rfl) (by kernel_rfl) (by kernel_rfl) (fun _ _ _ h => h) (Or.inl ⟨by rfl, ?_⟩) hHeld ?_
                rotate_left
                · (intro w hSw; go_simp; try with_reducible rfl)
                (try simp only [Act.put, List.setIfInBounds_toArray, List.set_cons_zero, List.set_cons_succ])
                refine wpAnyH_take (i := 11) (oi := { dst := some 32, op := Op.indexAddr 22 (Operand.tmp 29) (Operand.tmp 31), type := 0, pos := "ref.go:56", after := #[{ on := 8, ground := Ground.data }, { on := 10, ground := Ground.data }, { on := 6, ground := Ground.guard }], guard := some (6, true) }) (v := ?_) rfl (by kernel_rfl) (by kernel_rfl) (by kernel_rfl) (fun _ _ _ h => h) (Or.inl ⟨by rfl, ?_⟩) hHeld ?_
                rotate_left
                · (intro w hSw; go_simp; try with_reducible rfl)
                (try simp only [Act.put, List.setIfInBounds_toArray, List.set_cons_zero, List.set_cons_succ])
                refine wpAnyH_take (i := 12) (oi := { dst := some 33, op := Op.fieldAddr 35 (Operand.tmp 32) 0, type := 0, pos := "ref.go:56", after := #[{ on := 11, ground := Ground.data }, { on := 6, ground := Ground.guard }], guard := some (6, true) }) (v := ?_) rfl (by kernel_rfl) (by kernel_rfl) (by kernel_rfl) (fun _ _ _ h => h) (Or.inl ⟨by rfl, ?_⟩) hHeld ?_
                rotate_left
                · (intro w hSw; go_simp; try with_reducible rfl)
                (try simp only [Act.put, List.setIfInBounds_toArray, List.set_cons_zero, List.set_cons_succ])
                refine wpAnyH_take (i := 13) (oi := { dst := some 34, op := Op.load 9 (Operand.tmp 33), type := 9, pos := "ref.go:56", after := #[{ on := 12, ground := Ground.data }, { on := 6, ground := Ground.guard }], guard := some (6, true) }) (v := ?_) rfl (by kernel_rfl) (by kernel_rfl) (by kernel_rfl) (fun _ _ _ h => h) (Or.inl ⟨by rfl, ?_⟩) hHeld ?_
                rotate_left
                · (intro w hSw; obtain ⟨d0, _, _⟩ := (HIA.out j y HY.out).on HG5.out hSw; go_simp; try with_reducible rfl)
                (try simp only [Act.put, List.setIfInBounds_toArray, List.set_cons_zero, List.set_cons_succ])
                refine wpAnyH_take (i := 14) (oi := { dst := some 35, op := Op.fieldAddr 35 (Operand.tmp 4) 0, type := 0, pos := "ref.go:56", after := #[{ on := 6, ground := Ground.guard }], guard := some (6, true) }) (v := ?_) rfl (by kernel_rfl) (by kernel_rfl) (by kernel_rfl) (fun _ _ _ h => h) (Or.inl ⟨by rfl, ?_⟩) hHeld ?_
                rotate_left
                · (intro w hSw; go_simp; try with_reducible rfl)
                (try simp only [Act.put, List.setIfInBounds_toArray, List.set_cons_zero, List.set_cons_succ])
                refine wpAnyH_take (i := 15) (oi := { dst := some 36, op := Op.load 9 (Operand.tmp 35), type := 9, pos := "ref.go:56", after := #[{ on := 14, ground := Ground.data }, { on := 6, ground := Ground.guard }], guard := some (6, true) }) (v := ?_) rfl (by kernel_rfl) (by kernel_rfl) (by kernel_rfl) (fun _ _ _ h => h) (Or.inl ⟨by rfl, ?_⟩) hHeld ?_
                rotate_left
                · (intro w hSw; obtain ⟨d0, d1, d2⟩ := (HX5.out.on hSw).it; go_simp; try with_reducible rfl)
                (try simp only [Act.put, List.setIfInBounds_toArray, List.set_cons_zero, List.set_cons_succ])
                refine wpAnyH_ready (rs := [16]) (by kernel_rfl) (by simp) (AllReadyH.cons (o := { dst := some 37, op := Op.call { callee := Callee.value (Operand.func 43), args := #[Operand.tmp 34, Operand.tmp 36], argTypes := #[9, 9] }, type := 3, pos := "ref.go:56", after := #[{ on := 13, ground := Ground.data }, { on := 15, ground := Ground.data }, { on := 6, ground := Ground.chain }, { on := 6, ground := Ground.guard }], guard := some (6, true) }) rfl (fun K hK => ?_) AllReadyH.nil)
                · go_simp
                  refine (HCM.out _).mono ?_
                  rintro e v102 ⟨rfl, hba⟩
                  refine hK.out _ _ (bch hHeld hba) (fun hHeld => ?_)
                  clear hba
                  (try simp only [Act.put, List.setIfInBounds_toArray, List.set_cons_zero, List.set_cons_succ])
                  refine wpAnyH_take (i := 17) (oi := { dst := some 38, op := Op.binOp BinOp.geq 3 (Operand.tmp 37) (Operand.const (Value.int IntKind.i64 0)) 3, type := 4, pos := "ref.go:56", after := #[{ on := 16, ground := Ground.data }, { on := 6, ground := Ground.guard }], guard := some (6, true) }) (v := ?_) rfl (by kernel_rfl) (by kernel_rfl) (by kernel_rfl) (fun _ _ _ h => h) (Or.inl ⟨by rfl, ?_⟩) hHeld ?_
                  rotate_left
                  · (intro w hSw; go_simp; try with_reducible rfl)
                  (try simp only [Act.put, List.setIfInBounds_toArray, List.set_cons_zero, List.set_cons_succ])
                  refine wpAnyH_take (i := 18) (oi := { dst := some 39, op := Op.pick (Operand.tmp 27) (Operand.tmp 38) (Operand.const (Value.bool false)), type := 4, pos := "ref.go:56", after := #[{ on := 6, ground := Ground.data }, { on := 17, ground := Ground.data }, { on := 3, ground := Ground.guard }], guard := some (3, false) }) (v := ?_) rfl (by kernel_rfl) (by kernel_rfl) (by kernel_rfl) (fun _ _ _ h => h) (Or.inl ⟨by rfl, ?_⟩) hHeld ?_
                  rotate_left
                  · (intro w hSw; go_simp; try with_reducible rfl)
                  (try simp only [Act.put, List.setIfInBounds_toArray, List.set_cons_zero, List.set_cons_succ])
                  refine wpAnyH_take (i := 19) (oi := { dst := some 40, op := Op.pick (Operand.tmp 24) (Operand.const (Value.bool true)) (Operand.tmp 39), type := 4, pos := "ref.go:56", after := #[{ on := 3, ground := Ground.data }, { on := 18, ground := Ground.data }], guard := none }) (v := ?_) rfl (by kernel_rfl) (by kernel_rfl) (by kernel_rfl) (fun _ _ _ h => h) (Or.inl ⟨by rfl, ?_⟩) hHeld ?_
                  rotate_left
                  · (intro w hSw; go_simp; try with_reducible rfl)
                  (try simp only [Act.put, List.setIfInBounds_toArray, List.set_cons_zero, List.set_cons_succ])
                  refine wpAnyH_done (by kernel_rfl) ?_ _
                  have HD := Lib.hid hHeld
                  clear hHeld
                  go_wp2_with fail
                  go_roundw
                  case rel => exact ⟨k + 1, hlt, by go_num, HP2, Lib.hid (bch HB5.out HD.out)⟩
                  case measure => simp [Lib.intOf]; omega
      · have hkn : k = n := by omega
        have k1 : ¬ ((k : Int) < (n : Int)) := by omega
        have HALL : Hid (l.all rightI = true ∧ chainR l = true) := Lib.hid (by
          have := HP.out
          rw [List.take_of_length_le (by have := HN.out; omega)] at this
          exact this)
        have p0 := (X.out.on HBk.out).cell (k := 0) rfl
        have OS0 : Hid (OwnS wq w1.heap.size (.slice none 0 0) []) := Lib.hid (World.ownsRow_nil _ _ _ _)
        clear HP hkn
        go_wp2_with fail
        clear p0 k1
        obtain ⟨i0, hi, hz0, hz1, hz2⟩ := info_parts info9
        go_loopw [5, 45] (fun s i W => ∃ (k : Nat) (T : List Str), k ≤ n ∧ i = .int .i64 k ∧ Hid (T.length ≤ k) ∧ Hid (run2 (l.take k) = some T) ∧ Hid (OwnS W w1.heap.size s T) ∧ Hid (Below w1.heap.size w1 W)) (fun s i _ => n - (Lib.intOf i).toNat)
        case atStart => exact ⟨0, [], Nat.zero_le _, rfl, Lib.hid (Nat.le_refl 0), Lib.hid rfl, OS0, HBk⟩
        case round =>
          clear OS0 HBk
          obtain ⟨k, T, hk, rfl, HTK, HRN, HO, HBk⟩ := hrel
          obtain ⟨wq, hwq⟩ : ∃ q, q = wr := ⟨_, rfl⟩
          rw [← hwq] at HBk HO ⊢
          clear hwq
          obtain ⟨a3, c3, rfl, _, _⟩ := HO.out.slice
          by_cases hlt : k < n
          · obtain ⟨x, hx⟩ : ∃ x, l[k]? = some x := ⟨_, List.getElem?_eq_getElem (by rw [← HN.out]; exact hlt)⟩
            obtain ⟨a', c', e, _, _, hc⟩ := (HV.out.on HBk.out).open
            rw [← HN.out] at e
            cases e
            obtain ⟨g, o, rfl, hg, hc⟩ := hc (by rw [← HN.out]; omega)
            obtain ⟨q0, q1, q2⟩ := hc k x hx
            have k1 : (k : Int) < (n : Int) := by omega
            have k2 : (0 : Int) ≤ (k : Int) := by omega
            have k4 : IntKind.i64.wrap ((k : Int) + 1) = (k : Int) + 1 := IntWalk.i64_in _ (by omega)
            obtain ⟨w5, hw5⟩ : ∃ q, q = wq.alloc (.cells #[.string ⟨x.path.toArray⟩, .int .i64 x.kind, .string ⟨x.data.toArray⟩] 35) := ⟨_, rfl⟩
            have hb5 : Below wq.heap.size wq w5 := by rw [hw5]; exact below_new _ _
            have HX5 : Hid (Box w5 wq.heap.size 35 x.arr) := Lib.hid (by rw [hw5]; exact box_new)
            have HB5 : Hid (Below w1.heap.size w1 w5) := Lib.hid (bch HBk.out hb5)
            have HO5 : Hid (OwnS w5 w1.heap.size (.slice a3 T.length c3) T) := Lib.hid (HO.out.on hb5)
            obtain ⟨u, hu⟩ : ∃ u, u = upL x.path := ⟨_, rfl⟩
            have HU := Lib.hid hu
            have HUP : Hid (Calls Tryd.prog 44 #[.string ⟨x.path.toArray⟩] w5 fun e w' => e = .returned (.string ⟨u.toArray⟩) ∧ Below w5.heap.size w5 w') := Lib.hid (by
              rw [hu]; exact rup_any ⟨x.path.toArray⟩ (HSZ.out x (List.mem_of_getElem? hx)) w5)
            have HX := Lib.hid hx
            obtain ⟨tl, htl⟩ : ∃ z, z = T.length := ⟨_, rfl⟩
            rw [← htl] at HO5 ⊢
            clear hc hx hu hb5 hg htl HO
            go_upto_region 13 with fail
            obtain ⟨b7, hb7⟩ : ∃ q, q = wq.heap.size := ⟨_, rfl⟩
            rw [← hb7] at HX5 ⊢
            rw [← hw5]
            clear hw5 hb7 q0 q1 q2 HBk
            have d0 := HX5.out.it.c0
            go_wp2_with fail
            refine HUP.out.mono ?_
            rintro e w6 ⟨rfl, hb⟩
            have HX6 := Lib.hid (HX5.out.on hb)
            have HO6 := Lib.hid (HO5.out.on hb)
            have HB6 := Lib.hid (bch HB5.out hb)
            clear hb HX5 HO5 HB5 HUP d0
            go_wp2_with fail
            go_loopw [5] (fun s W => ∃ T' : List Str, Hid (T'.length ≤ k) ∧ Hid (popR T u = popR T' u) ∧ Hid (OwnS W w1.heap.size s T') ∧ W = w6) (fun s _ => match s with | .slice _ n _ => n | _ => 0)
            case atStart => exact ⟨T, HTK, Lib.hid rfl, HO6, rfl⟩
            case round =>
              clear HO6
              obtain ⟨T', HTL, HPO, HO6, hwr⟩ := hrel
              rw [hwr] at HO6 ⊢
              clear hwr
              obtain ⟨d0, d1, d2⟩ := HX6.out.it
              cases T' with
              | nil =>
                obtain ⟨a4, c4, rfl, _, hc4⟩ := HO6.out.slice
                have HPE : Hid (popR T u = []) := Lib.hid HPO.out
                have HOF : Hid (w6.ownsRow w1.heap.size 9 1 (.slice a4 0 c4) 0 (([] : List Str).reverse.map encS)) := Lib.hid HO6.out
                have HBQ := Lib.hid HO6.out.blk
                rw [List.length_nil] at HBQ ⊢
                by_cases h47 : u = [47]
                · have t7 : (u == [47]) = true := by simp [h47]
                  have HST : Hid (run2 (l.take (k + 1)) = some (if x.kind = 1 then [x.path] else [])) := Lib.hid (by
                    rw [run2_take HX.out HRN.out]; unfold step2
                    rw [← HU.out, HPE.out, if_neg (by simp [h47])])
                  clear h47
                  by_cases hk1 : x.kind = 1
                  · have t1 : (x.kind == 1) = true := by simp [hk1]
                    have HRY : Hid (run2 (l.take (k + 1)) = some (x.path :: [])) := Lib.hid (by rw [HST.out, if_pos hk1])
                    have hws : w1.heap.size ≤ w6.heap.size := HB6.out.size
                    have HLN : Hid ([x.path].length ≤ k + 1) := Lib.hid (by simp)
                    clear hk1
                    go_wp2_with (at_builtin; refine wpList_append_own _ rfl _ _ 46 rfl w1.heap.size 9 i0 (.string ⟨#[]⟩) 1 16 Tryd.underlying46 hi hz0 hz1 hz2 rfl (by decide) _ _ _ rfl (HOF.out.alloc _) ⟨w6.heap.size, 0, none⟩ 1 1 [.string ⟨x.path.toArray⟩] rfl rfl (cell_one_new _ _ _) (by simp [Value.oneCell']) (by unfold maxLen; omega) (by omega) (by simp; omega) ?_)
                    intro v9 w9 hown9 hgrow9 _
                    have HO9 : Hid (OwnS w9 w1.heap.size v9 (x.path :: [])) := Lib.hid (OwnS.push (T := []) (by  simpa using hown9))
                    have HB9 : Hid (Below w1.heap.size w1 w9) := Lib.hid ((HB6.out.alloc hws _).grown hgrow9 (by simp; omega) HBQ.out)
                    clear hown9 hgrow9
                    go_wp2_with fail
                    go_roundw
                    case rel => exact ⟨k + 1, _, hlt, by go_num, HLN, HRY, HO9, HB9⟩
                    case measure => simp [Lib.intOf]; omega
                  · have t1 : (x.kind == 1) = false := by simp [hk1]
                    have HRY : Hid (run2 (l.take (k + 1)) = some ([])) := Lib.hid (by rw [HST.out, if_neg hk1])
                    have HLN : Hid (([] : List Str).length ≤ k + 1) := Lib.hid (Nat.zero_le _)
                    clear hk1
                    go_wp2_with fail
                    go_roundw
                    case rel => exact ⟨k + 1, _, hlt, by go_num, HLN, HRY, HO6, HB6⟩
                    case measure => simp [Lib.intOf]; omega
                · have t7 : (u == [47]) = false := by simp [h47]
                  have HR : Hid (rightR l = false) := Lib.hid (run2_not (k := k + 1) (by
                    rw [run2_take HX.out HRN.out]; unfold step2
                    rw [← HU.out, HPE.out, if_pos ⟨h47, rfl⟩]))
                  clear h47
                  go_wp2_with fail
                  go_ret
                  exact ⟨retb HR.out.symm, bch HB1.out HB6.out⟩
              | cons t r =>
                obtain ⟨g4, c4, rfl, hgB, hg4, hrc, hcm4, f0⟩ := HO6.out.form
                obtain ⟨m, hm⟩ : ∃ m, m = r.length := ⟨_, rfl⟩
                have HM := Lib.hid hm
                rw [← hm] at HO6 hrc f0 ⊢
                unfold maxLen at hcm4
                have m1 : IntKind.i64.wrap ((m : Int) + 1 - 1) = (m : Int) := by rw [show (m : Int) + 1 - 1 = (m : Int) by omega]; exact IntWalk.i64_in _ (by omega)
                have m2 : decide ((m : Int) + 1 > 0) = true := decide_eq_true (by omega)
                have m3 : (0 : Int) < (m : Int) + 1 := by omega
                have m4 : (0 : Int) ≤ (m : Int) := by omega
                have m9 : m + 1 ≤ 2000 := by have := HTL.out; rw [List.length_cons, ← HM.out] at this; omega
                clear hm
                by_cases ht : t = u
                · have t6 : (t == u) = true := by simp [ht]
                  have HPE : Hid (popR T u = t :: r) := Lib.hid (by rw [HPO.out, pop_cons_eq ht])
                  have HST : Hid (run2 (l.take (k + 1)) = some (if x.kind = 1 then x.path :: t :: r else t :: r)) := Lib.hid (by
                    rw [run2_take HX.out HRN.out]; unfold step2
                    rw [← HU.out, HPE.out, if_neg (fun h => by cases h.2)])
                  have HOF : Hid (w6.ownsRow w1.heap.size 9 1 (.slice (some ⟨g4, 0, none⟩) (m + 1) c4) (m + 1) ((t :: r).reverse.map encS)) := Lib.hid (by
                    have := HO6.out
                    unfold OwnS at this
                    rw [List.length_cons, ← HM.out] at this
                    exact this)
                  have HBQ := Lib.hid HO6.out.blk
                  have m5 : ((m : Int) + 1 == 0) = false := by simp; omega
                  have m6 : (m : Int) + 1 ≠ 0 := by omega
                  clear ht
                  cases t7 : (u == [47])
                  · clear m5 m6
                    by_cases hk1 : x.kind = 1
                    · have t1 : (x.kind == 1) = true := by simp [hk1]
                      have HRY : Hid (run2 (l.take (k + 1)) = some (x.path :: t :: r)) := Lib.hid (by rw [HST.out, if_pos hk1])
                      have hws : w1.heap.size ≤ w6.heap.size := HB6.out.size
                      have HLN : Hid ((x.path :: (t :: r)).length ≤ k + 1) := Lib.hid (Nat.succ_le_succ HTL.out)
                      clear hk1
                      go_wp2_with (at_builtin; refine wpList_append_own _ rfl _ _ 46 rfl w1.heap.size 9 i0 (.string ⟨#[]⟩) 1 16 Tryd.underlying46 hi hz0 hz1 hz2 rfl (by decide) _ _ _ rfl (HOF.out.alloc _) ⟨w6.heap.size, 0, none⟩ 1 1 [.string ⟨x.path.toArray⟩] rfl rfl (cell_one_new _ _ _) (by simp [Value.oneCell']) (by unfold maxLen; omega) (by omega) (by simp; omega) ?_)
                      intro v9 w9 hown9 hgrow9 _
                      have HO9 : Hid (OwnS w9 w1.heap.size v9 (x.path :: t :: r)) := Lib.hid (OwnS.push (T := t :: r) (by rw [List.length_cons, ← HM.out]; simpa using hown9))
                      have HB9 : Hid (Below w1.heap.size w1 w9) := Lib.hid ((HB6.out.alloc hws _).grown hgrow9 (by simp; omega) HBQ.out)
                      clear hown9 hgrow9
                      go_wp2_with fail
                      go_roundw
                      case rel => exact ⟨k + 1, _, hlt, by go_num, HLN, HRY, HO9, HB9⟩
                      case measure => simp [Lib.intOf]; omega
                    · have t1 : (x.kind == 1) = false := by simp [hk1]
                      have HRY : Hid (run2 (l.take (k + 1)) = some (t :: r)) := Lib.hid (by rw [HST.out, if_neg hk1])
                      have HLN : Hid ((t :: r).length ≤ k + 1) := Lib.hid (Nat.le_succ_of_le HTL.out)
                      clear hk1
                      go_wp2_with fail
                      go_roundw
                      case rel => exact ⟨k + 1, _, hlt, by go_num, HLN, HRY, HO6, HB6⟩
                      case measure => simp [Lib.intOf]; omega
                  · by_cases hk1 : x.kind = 1
                    · have t1 : (x.kind == 1) = true := by simp [hk1]
                      have HRY : Hid (run2 (l.take (k + 1)) = some (x.path :: t :: r)) := Lib.hid (by rw [HST.out, if_pos hk1])
                      have hws : w1.heap.size ≤ w6.heap.size := HB6.out.size
                      have HLN : Hid ((x.path :: (t :: r)).length ≤ k + 1) := Lib.hid (Nat.succ_le_succ HTL.out)
                      clear hk1
                      go_wp2_with (at_builtin; refine wpList_append_own _ rfl _ _ 46 rfl w1.heap.size 9 i0 (.string ⟨#[]⟩) 1 16 Tryd.underlying46 hi hz0 hz1 hz2 rfl (by decide) _ _ _ rfl (HOF.out.alloc _) ⟨w6.heap.size, 0, none⟩ 1 1 [.string ⟨x.path.toArray⟩] rfl rfl (cell_one_new _ _ _) (by simp [Value.oneCell']) (by unfold maxLen; omega) (by omega) (by simp; omega) ?_)
                      intro v9 w9 hown9 hgrow9 _
                      have HO9 : Hid (OwnS w9 w1.heap.size v9 (x.path :: t :: r)) := Lib.hid (OwnS.push (T := t :: r) (by rw [List.length_cons, ← HM.out]; simpa using hown9))
                      have HB9 : Hid (Below w1.heap.size w1 w9) := Lib.hid ((HB6.out.alloc hws _).grown hgrow9 (by simp; omega) HBQ.out)
                      clear hown9 hgrow9
                      go_wp2_with fail
                      go_roundw
                      case rel => exact ⟨k + 1, _, hlt, by go_num, HLN, HRY, HO9, HB9⟩
                      case measure => simp [Lib.intOf]; omega
                    · have t1 : (x.kind == 1) = false := by simp [hk1]
                      have HRY : Hid (run2 (l.take (k + 1)) = some (t :: r)) := Lib.hid (by rw [HST.out, if_neg hk1])
                      have HLN : Hid ((t :: r).length ≤ k + 1) := Lib.hid (Nat.le_succ_of_le HTL.out)
                      clear hk1
                      go_wp2_with fail
                      go_roundw
                      case rel => exact ⟨k + 1, _, hlt, by go_num, HLN, HRY, HO6, HB6⟩
                      case measure => simp [Lib.intOf]; omega
                · have t6 : (t == u) = false := by simp [ht]
                  have HPE : Hid (popR T u = popR r u) := Lib.hid (by rw [HPO.out, pop_cons_ne ht])
                  have HO7 : Hid (OwnS w6 w1.heap.size (.slice (some ⟨g4, 0, none⟩) m c4) r) := Lib.hid (by rw [HM.out]; exact HO6.out.pop)
                  clear ht HO6
                  go_wp2_with fail
                  go_roundw
                  case rel => exact ⟨r, Lib.hid (by have := HTL.out; rw [List.length_cons] at this; omega), HPE, HO7, by first | trivial | rfl⟩
                  case measure => simp
          · have k1 : ¬ ((k : Int) < (n : Int)) := by omega
            have HR : Hid (rightR l = true) := Lib.hid (by
              have h1 := HRN.out
              rw [List.take_of_length_le (by have := HN.out; omega)] at h1
              unfold rightR
              rw [h1, HALL.out.1, HALL.out.2, decide_eq_true (by have := HN.out; omega)]; rfl)
            go_wp2_with fail
            go_ret
            exact ⟨retb HR.out.symm, bch HB1.out HBk.out⟩
  · have e4 : decide ((n : Int) > 2000) = true := decide_eq_true (by omega)
    have HR : Hid (rightR l = false) := Lib.hid (by
      unfold rightR
      rw [decide_eq_false (by rw [← HN.out]; exact h2)]; rfl)
    go_wp2_with fail
    go_ret
    exact ⟨retb HR.out.symm, HB1.out⟩
end Go.Proofs.YtiakedoebecgpaaDoor
