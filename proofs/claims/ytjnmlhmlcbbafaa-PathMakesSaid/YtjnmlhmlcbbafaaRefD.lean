/- Proved here: Right, Join, Up and Base of puncheonref01. -/
import Derived.Test.YtjnmlhmlcbbafaaRefC
namespace Go.Proofs.Ytjnmlhmlcbbafaa
open Go.RowKit Go.Shelf

theorem rd_cell {w : World} {g o n cap : Nat} {l : List Str} (h : RdS w (.slice (some ⟨g, o, none⟩) n cap) l) (j : Nat) (x : Str) (hx : l[j]? = some x) : w.cell? ⟨g, o + j, none⟩ = some (encS x) := by
  obtain ⟨a, c, h1, _, _, h4⟩ := h
  injection h1 with h1 h2 h3
  have hl : 0 < l.length := by have := (List.getElem?_eq_some_iff.1 hx).1; omega
  obtain ⟨g', o', e, _, hc⟩ := h4 hl
  rw [e] at h1
  injection h1 with h1
  injection h1 with h1 h2
  subst h1; subst h2
  exact hc j x hx

set_option maxHeartbeats 1000000 in
theorem rright_any (p : ByteArray) (hp : p.size ≤ 1000000) (w : World) : Calls Try.prog 26 #[.string p] w fun e w' => e = .returned (.bool (validB p.data.toList)) ∧ Below w.heap.size w w' := by
  obtain ⟨b, hb⟩ : ∃ b, validB p.data.toList = b := ⟨_, rfl⟩
  rw [hb]
  cases b
  · have HB := Lib.hid hb
    clear hb
    go_enter Try.func26, Try.ntmps26
    go_wp2_with fail
    refine ((rnames_any p hp _).2 HB.out).mono ?_
    rintro e w1 ⟨rfl, hb⟩
    go_wp2
    go_ret
    exact ⟨rfl, hb⟩
  · have HB := Lib.hid hb
    clear hb
    go_enter Try.func26, Try.ntmps26
    go_wp2_with fail
    refine ((rnames_any p hp _).1 HB.out).mono ?_
    rintro e w1 ⟨v, rfl, hr, hb⟩
    go_wp2
    go_ret
    exact ⟨rfl, hb⟩

set_option maxHeartbeats 1000000 in
theorem rjoin_none (a : Option Addr) (cap : Nat) (w : World) : Calls Try.prog 23 #[.slice a 0 cap] w fun e w' => e = .returned (.string ⟨#[47]⟩) ∧ w = w' := by
  go_enter Try.func23, Try.ntmps23
  go_wp2
  go_ret
  exact ⟨rfl, rfl⟩

theorem flat_snoc (l : List Str) (x : Str) : flat (l ++ [x]) = flat l ++ 47 :: x := by rw [flat_append, flat_cons, flat_nil, List.append_nil]
theorem flat_mono (l : List Str) (k : Nat) : (flat (l.take k)).length ≤ (flat l).length := by
  conv => rhs; rw [← List.take_append_drop k l]
  rw [flat_append, List.length_append]
  omega

set_option maxHeartbeats 2000000 in
theorem rjoin_some (g o n cap : Nat) (l : List Str) (w : World) (hn : l.length = n) (h0 : 0 < n) (hn2 : n ≤ 1000) (hc : ∀ j x, l[j]? = some x → w.cell? ⟨g, o + j, none⟩ = some (encS x)) (hf : (flat l).length ≤ 1000000) :
    Calls Try.prog 23 #[.slice (some ⟨g, o, none⟩) n cap] w fun e w' => e = .returned (.string ⟨(flat l).toArray⟩) ∧ w = w' := by
  have HC := Lib.hid hc
  have HF := Lib.hid hf
  have HN := Lib.hid hn
  have d0 : ((n : Int) == 0) = false := by rw [beq_eq_false_iff_ne]; omega
  clear hc hf hn
  go_enter Try.func23, Try.ntmps23
  go_wp2
  go_loop [3, 11] (fun v i => ∃ k : Nat, k ≤ n ∧ i = .int .i64 k ∧ v = .string ⟨(flat (l.take k)).toArray⟩) (fun _ i => n - (intOf i).toNat)
  case atStart => exact ⟨0, Nat.zero_le _, rfl, by rw [List.take_zero]; rfl⟩
  case round =>
    obtain ⟨k, hk, rfl, rfl⟩ := hrel
    by_cases hlt : k < n
    · obtain ⟨x, hx⟩ : ∃ x, l[k]? = some x := ⟨_, List.getElem?_eq_getElem (by have := HN.out; omega)⟩
      have hcx := HC.out k x hx
      have HX := Lib.hid hx
      have ht : flat (l.take (k + 1)) = flat (l.take k) ++ 47 :: x := by rw [take_get l k x hx, flat_snoc]
      have hm := flat_mono l (k + 1)
      have hsz : (flat (l.take k)).length + (1 + x.length) ≤ 1000000 := by
        rw [ht, List.length_append] at hm
        have := HF.out
        simp at hm
        omega
      have HT := Lib.hid ht
      clear hx ht hm
      unfold encS at hcx
      go_wp2
      refine ⟨⟨k + 1, hlt, by go_num, ?_⟩, by simp [intOf]; omega⟩
      rw [HT.out]
      congr 1
    · have e : l.take k = l := List.take_of_length_le (by have := HN.out; omega)
      rw [e]
      go_wp2
      go_ret
      exact ⟨rfl, rfl⟩

theorem rjoin_any (v : Value) (l : List Str) (w : World) (h : RdS w v l) (hn : l.length ≤ 1000) (hf : (flat l).length ≤ 1000000) :
    Calls Try.prog 23 #[v] w fun e w' => e = .returned (.string ⟨(joinL l).toArray⟩) ∧ w = w' := by
  by_cases h0 : l = []
  · subst h0
    obtain ⟨a, cap, rfl, _⟩ := h
    exact rjoin_none a cap w
  · obtain ⟨a, cap, rfl, _, _, h4⟩ := h
    have hl := List.length_pos_iff.2 h0
    obtain ⟨g, o, rfl, _, hc⟩ := h4 hl
    rw [joinL_flat l h0]
    exact rjoin_some g o l.length cap l w rfl hl hn hc hf

theorem joinL_len (l : List Str) (h : partsB l = true) : (flat l).length ≤ 1000000 := by
  have h1 := (parts_iff l).1 h
  have := flat_len l h1.2
  omega

theorem RdS.take {w : World} {a : Option Addr} {n cap : Nat} {l : List Str} (h : RdS w (.slice a n cap) l) (k : Nat) (hk : k ≤ n) : RdS w (.slice a k cap) (l.take k) := by
  obtain ⟨a', cap', e, h2, h3, h4⟩ := h
  injection e with e1 e2 e3
  subst e1; subst e2; subst e3
  have hl : (l.take k).length = k := by rw [List.length_take]; omega
  refine ⟨a, cap, by rw [hl], by omega, h3, fun h0 => ?_⟩
  obtain ⟨g, o, ea, hg, hc⟩ := h4 (by omega)
  refine ⟨g, o, ea, hg, fun j x hx => hc j x ?_⟩
  rw [List.getElem?_take] at hx
  split at hx
  · exact hx
  · cases hx

set_option maxHeartbeats 1000000 in
theorem rup_any (p : ByteArray) (hp : p.size ≤ 1000000) (w : World) : Calls Try.prog 18 #[.string p] w fun e w' => e = .returned (.string ⟨(upL p.data.toList).toArray⟩) ∧ Below w.heap.size w w' := by
  by_cases hv : validB p.data.toList = true
  · by_cases h0 : namesL p.data.toList = []
    · have e : upL p.data.toList = [47] := by rw [upL, if_pos hv, h0]; rfl
      rw [e]
      have HV := Lib.hid hv
      have H0 := Lib.hid h0
      clear hv h0 e
      go_enter Try.func18, Try.ntmps18
      go_wp2_with fail
      refine ((rnames_any p hp _).1 HV.out).mono ?_
      rintro e w1 ⟨v, rfl, hr, hb⟩
      rw [H0.out] at hr
      obtain ⟨a, cap, rfl, _⟩ := hr
      go_wp2
      go_ret
      exact ⟨rfl, hb⟩
    · have e : upL p.data.toList = joinL (namesL p.data.toList).dropLast := by rw [upL, if_pos hv]
      rw [e]
      have HV := Lib.hid hv
      have hpb := (valid_join _ hv).2
      have HP := Lib.hid (parts_dropLast _ hpb)
      obtain ⟨n, hn⟩ : ∃ n, (namesL p.data.toList).length = n := ⟨_, rfl⟩
      have hn0 : 0 < n := by have := List.length_pos_iff.2 h0; omega
      have hn40 : n ≤ 40 := by have := ((parts_iff _).1 hpb).1; omega
      have HN := Lib.hid hn
      have d0 : ((n : Int) == 0) = false := by rw [beq_eq_false_iff_ne]; omega
      have q1 : IntKind.i64.wrap ((n : Int) - 1) = (n : Int) - 1 := by rw [IntWalk.i64_in _ (by omega)]
      have q2 : (0 : Int) ≤ (n : Int) - 1 := by omega
      have q4 : ((n : Int) - 1).toNat = n - 1 := by omega
      clear hv h0 e hpb hn
      go_enter Try.func18, Try.ntmps18
      go_wp2_with fail
      refine ((rnames_any p hp _).1 HV.out).mono ?_
      rintro e w1 ⟨v, rfl, hr, hb⟩
      obtain ⟨a, cap, rfl, hc1, hc2, _⟩ := id hr
      have HR := Lib.hid hr
      rw [HN.out]
      have q3 : (n : Int) - 1 ≤ (cap : Int) := by have := HN.out; omega
      clear hr
      go_wp2_with fail
      have hr2 : RdS w1 (.slice a (n - 1) cap) (namesL p.data.toList).dropLast := by
        rw [List.dropLast_eq_take, HN.out]
        exact RdS.take (by have := HR.out; rwa [HN.out] at this) _ (by omega)
      have h3 : (namesL p.data.toList).dropLast.length ≤ 1000 := by have := HN.out; rw [List.length_dropLast]; omega
      refine (rjoin_any _ _ w1 hr2 h3 (joinL_len _ HP.out)).mono ?_
      rintro e w2 ⟨rfl, rfl⟩
      go_wp2
      go_ret
      exact ⟨rfl, hb⟩
  · have e : upL p.data.toList = [] := by rw [upL, if_neg hv]
    rw [e]
    have HV := Lib.hid (Bool.eq_false_iff.2 hv)
    clear hv e
    go_enter Try.func18, Try.ntmps18
    go_wp2_with fail
    refine ((rnames_any p hp _).2 HV.out).mono ?_
    rintro e w1 ⟨rfl, hb⟩
    go_wp2
    go_ret
    exact ⟨rfl, hb⟩

set_option maxHeartbeats 1000000 in
theorem rbase_any (p : ByteArray) (hp : p.size ≤ 1000000) (w : World) : Calls Try.prog 20 #[.string p] w fun e w' => e = .returned (.string ⟨(baseL p.data.toList).toArray⟩) ∧ Below w.heap.size w w' := by
  by_cases hv : validB p.data.toList = true
  · by_cases h0 : namesL p.data.toList = []
    · have e : baseL p.data.toList = [] := by rw [baseL, if_pos hv, h0]; rfl
      rw [e]
      have HV := Lib.hid hv
      have H0 := Lib.hid h0
      clear hv h0 e
      go_enter Try.func20, Try.ntmps20
      go_wp2_with fail
      refine ((rnames_any p hp _).1 HV.out).mono ?_
      rintro e w1 ⟨v, rfl, hr, hb⟩
      rw [H0.out] at hr
      obtain ⟨a, cap, rfl, _⟩ := hr
      go_wp2
      go_ret
      exact ⟨rfl, hb⟩
    · obtain ⟨n, hn⟩ : ∃ n, (namesL p.data.toList).length = n + 1 := ⟨(namesL p.data.toList).length - 1, by have := List.length_pos_iff.2 h0; omega⟩
      obtain ⟨x, hx⟩ : ∃ x, (namesL p.data.toList)[n]? = some x := ⟨_, List.getElem?_eq_getElem (by omega)⟩
      have e : baseL p.data.toList = x := by rw [baseL, if_pos hv, List.getLast?_eq_getElem?, hn, Nat.add_sub_cancel, hx]; rfl
      rw [e]
      have HV := Lib.hid hv
      have hn40 : n ≤ 40 := by have := (valid_names _ hv).1; omega
      have HN := Lib.hid hn
      have HX := Lib.hid hx
      have d0 : ((n : Int) + 1 == 0) = false := by rw [beq_eq_false_iff_ne]; omega
      have q1 : IntKind.i64.wrap ((n : Int) + 1 - 1) = (n : Int) := by rw [IntWalk.i64_in _ (by omega)]; omega
      have q2 : (0 : Int) ≤ (n : Int) := by omega
      have q3 : (n : Int) < (n : Int) + 1 := by omega
      clear hv h0 e hn hx
      go_enter Try.func20, Try.ntmps20
      go_wp2_with fail
      refine ((rnames_any p hp _).1 HV.out).mono ?_
      rintro e w1 ⟨v, rfl, hr, hb⟩
      obtain ⟨a, cap, rfl, hc1, hc2, h4⟩ := hr
      obtain ⟨g, o, rfl, hg, hc⟩ := h4 (by have := HN.out; omega)
      have hcx := hc n x HX.out
      rw [HN.out]
      unfold encS at hcx
      clear h4 hc hc1
      go_wp2
      go_ret
      exact ⟨rfl, hb⟩
  · have e : baseL p.data.toList = [] := by rw [baseL, if_neg hv]
    rw [e]
    have HV := Lib.hid (Bool.eq_false_iff.2 hv)
    clear hv e
    go_enter Try.func20, Try.ntmps20
    go_wp2_with fail
    refine ((rnames_any p hp _).2 HV.out).mono ?_
    rintro e w1 ⟨rfl, hb⟩
    go_wp2
    go_ret
    exact ⟨rfl, hb⟩
end Go.Proofs.Ytjnmlhmlcbbafaa
