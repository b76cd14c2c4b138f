/- Proved here: Under, Beneath, compareNames and Compare of package path for every two texts. -/
import Derived.Test.YtgmplpfbhcdofaaGreatPPath3
namespace Go.Proofs.YtgmplpfbhcdofaaGreat.Pt
open Go.RowKit Go.Shelf
theorem ret_int {a b : Int} (h : a = b) : Ending.returned (.int .i64 a) = .returned (.int .i64 b) := by rw [h]

def BeneathYes (p d : Str) (w : World) (e : Ending) (w' : World) : Prop := ∃ v, e = .returned (.tuple #[v, .bool true]) ∧ w'.ownsRow w.heap.size 9 1 v ((namesL p).drop (namesL d).length).length (((namesL p).drop (namesL d).length).map encS) ∧ Below w.heap.size w w'
def BeneathNo (w : World) (e : Ending) (w' : World) : Prop := e = .returned (.tuple #[.slice none 0 0, .bool false]) ∧ Below w.heap.size w w'

theorem underB_valid (p d : Str) (h : underB p d = true) : validB p = true ∧ validB d = true := by
  unfold underB at h
  rw [Bool.and_eq_true, Bool.and_eq_true] at h
  exact h.1

/-! ### The order -/
theorem comp_any (x y : Str) (w : World) : Calls Tryz.prog 91 #[.string ⟨x.toArray⟩, .string ⟨y.toArray⟩] w fun e w' => e = .returned (.int .i64 (Lib.compareBytes x y)) ∧ w = w' :=
  (Tryz.strings_Compare ⟨x.toArray⟩ ⟨y.toArray⟩ w).mono fun _ _ ⟨he, hw⟩ => ⟨he, hw.symm⟩
theorem cmpi_any (x y : Int) (w : World) : Calls Tryz.prog 126 #[.int .i64 x, .int .i64 y] w fun e w' => e = .returned (.int .i64 (Lib.compareInt x y)) ∧ w = w' :=
  (Tryz.cmp_Compare_int x y w).mono fun _ _ ⟨he, hw⟩ => ⟨he, hw.symm⟩

theorem cmpN_ends (a b : Str) (ha : [] ∉ splitL a) (hb : [] ∉ splitL b) (h : a = [] ∨ b = []) : Lib.compareInt (a.length : Int) (b.length : Int) = cmpN (splitL a) (splitL b) := by
  rcases h with rfl | rfl
  · by_cases hb0 : b = []
    · subst hb0; rfl
    · rw [split_step b hb0 hb]
      cases b with
      | nil => exact absurd rfl hb0
      | cons c r =>
        show _ = (-1 : Int)
        unfold Lib.compareInt
        rw [if_pos (by simp)]
  · by_cases ha0 : a = []
    · subst ha0; rfl
    · rw [split_step a ha0 ha]
      cases a with
      | nil => exact absurd rfl ha0
      | cons c r =>
        show _ = (1 : Int)
        unfold Lib.compareInt
        rw [if_neg (by simp; omega), if_pos (by simp)]

theorem step_ok (a : Str) (ha : a ≠ []) (h : [] ∉ splitL a) : [] ∉ splitL (cut1 a).2.1 := by
  rw [split_step a ha h] at h
  exact fun hm => h (List.mem_cons_of_mem _ hm)
theorem cut1_lt (a : Str) (ha : a ≠ []) : (cut1 a).2.1.length < a.length := by
  by_cases h : (cut1 a).2.2 = true
  · exact cut1_len a h
  · have : (cut1 a).2.1 = [] := by
      by_cases hm : 47 ∈ a
      · rw [cut1_yes a hm] at h; exact absurd rfl h
      · rw [cut1_no a hm]
    rw [this]
    cases a with
    | nil => exact absurd rfl ha
    | cons c r => simp

def strLen : Value → Nat
  | .string s => s.size
  | _ => 0
theorem strLen_mk (l : Str) : strLen (.string ⟨l.toArray⟩) = l.length := rfl

set_option maxRecDepth 100000 in
set_option maxHeartbeats 1000000 in
theorem cmpnames_any (a0 b0 : ByteArray) (ha0 : a0.size ≤ 140737488355328) (hb0 : b0.size ≤ 140737488355328) (ha : [] ∉ splitL a0.data.toList) (hb : [] ∉ splitL b0.data.toList) (w : World) :
    Calls Tryz.prog 90 #[.string a0, .string b0] w fun e w' => e = .returned (.int .i64 (cmpN (splitL a0.data.toList) (splitL b0.data.toList))) ∧ ∃ m, w' = w.drewN m := by
  obtain ⟨R, hR⟩ : ∃ R, cmpN (splitL a0.data.toList) (splitL b0.data.toList) = R := ⟨_, rfl⟩
  rw [hR]
  have HR := Lib.hid hR
  have HA := Lib.hid ha
  have HB := Lib.hid hb
  clear hR ha hb
  go_enter Tryz.func90, Tryz.ntmps90
  go_wp2
  go_loopw [0, 1] (fun x y wr => ∃ a b : Str, x = .string ⟨a.toArray⟩ ∧ y = .string ⟨b.toArray⟩ ∧ a.length ≤ 140737488355328 ∧ b.length ≤ 140737488355328 ∧ Hid ([] ∉ splitL a) ∧ Hid ([] ∉ splitL b) ∧ Hid (cmpN (splitL a) (splitL b) = R) ∧ ∃ m, wr = w.drewN m) (fun x _ _ => strLen x)
  case atStart => exact ⟨a0.data.toList, b0.data.toList, rfl, rfl, ha0, hb0, HA, HB, HR, 0, rfl⟩
  case round =>
    obtain ⟨a, b, rfl, rfl, hal, hbl, HA1, HB1, HR1, m, rfl⟩ := hrel
    by_cases ha : a = []
    · have HE := Lib.hid (cmpN_ends a b HA1.out HB1.out (.inl ha))
      subst ha
      go_wp2_with (go_at_call 126; refine (cmpi_any _ _ _).mono ?_; rintro e w' ⟨rfl, rfl⟩)
      go_ret
      exact ⟨ret_int (HE.out.trans HR1.out), m, rfl⟩
    · have ha1 := isEmpty_no ha
      by_cases hb : b = []
      · have HE := Lib.hid (cmpN_ends a b HA1.out HB1.out (.inr hb))
        have HAn := Lib.hid ha
        clear ha
        subst hb
        go_wp2_with (go_at_call 126; refine (cmpi_any _ _ _).mono ?_; rintro e w' ⟨rfl, rfl⟩)
        go_ret
        exact ⟨ret_int (HE.out.trans HR1.out), m, rfl⟩
      · have hb1 := isEmpty_no hb
        have HS := Lib.hid HR1.out
        have H1 := HS.out
        rw [split_step a ha HA1.out, split_step b hb HB1.out, cmpN] at H1
        have hlt := cut1_lt a ha
        have HA2 := Lib.hid (step_ok a ha HA1.out)
        have HB2 := Lib.hid (step_ok b hb HB1.out)
        clear ha hb
        by_cases hq : (cut1 a).1 = (cut1 b).1
        · rw [if_pos hq] at H1
          have H2 := Lib.hid H1
          have q1 : ((cut1 a).1 == (cut1 b).1) = true := by simp [hq]
          have q2 : ((cut1 a).1 != (cut1 b).1) = false := by simp [hq]
          clear H1 hq
          go_wp2_with fail
          refine (cutl_any a _ hal).mono ?_
          rintro e w1 ⟨rfl, n1, rfl⟩
          go_wp2_with fail
          refine (cutl_any b _ hbl).mono ?_
          rintro e w1 ⟨rfl, n2, rfl⟩
          go_wp2_with fail
          go_roundw
          case rel => exact ⟨_, _, rfl, rfl, cut1_snd_le _ _ hal, cut1_snd_le _ _ hbl, HA2, HB2, H2, _, rfl⟩
          case measure => exact hlt
        · rw [if_neg hq] at H1
          have H2 := Lib.hid H1
          have q1 : ((cut1 a).1 == (cut1 b).1) = false := by simp [hq]
          have q2 : ((cut1 a).1 != (cut1 b).1) = true := by simp [hq]
          clear H1 hq
          go_wp2_with fail
          refine (cutl_any a _ hal).mono ?_
          rintro e w1 ⟨rfl, n1, rfl⟩
          go_wp2_with fail
          refine (cutl_any b _ hbl).mono ?_
          rintro e w1 ⟨rfl, n2, rfl⟩
          go_wp2_with (go_at_call 91; refine (comp_any _ _ _).mono ?_; rintro e w' ⟨rfl, rfl⟩)
          go_ret
          exact ⟨ret_int H2.out, _, rfl⟩

set_option maxHeartbeats 1000000 in
theorem cmp_vv (p q : ByteArray) (hp : p.size ≤ 140737488355328) (hq : q.size ≤ 140737488355328) (v1 : validB p.data.toList = true) (v2 : validB q.data.toList = true) (w : World) :
    Calls Tryz.prog 68 #[.string p, .string q] w fun e w' => e = .returned (.int .i64 (cmpN (namesL p.data.toList) (namesL q.data.toList))) ∧ Below w.heap.size w w' := by
  have h1 := size_pos p v1
  have h2 := size_pos q v2
  have hz1 : (p.extract 1 p.size).size ≤ p.size := by
    rw [show (p.extract 1 p.size).size = (p.extract 1 p.size).data.toList.length from rfl, drop1, List.length_drop]
    have : p.data.toList.length = p.size := rfl
    omega
  have hz2 : (q.extract 1 q.size).size ≤ q.size := by
    rw [show (q.extract 1 q.size).size = (q.extract 1 q.size).data.toList.length from rfl, drop1, List.length_drop]
    have : q.data.toList.length = q.size := rfl
    omega
  have HC : ∀ w, Calls Tryz.prog 90 #[.string (p.extract 1 p.size), .string (q.extract 1 q.size)] w fun e w' => e = .returned (.int .i64 (cmpN (namesL p.data.toList) (namesL q.data.toList))) ∧ ∃ m, w' = w.drewN m := by
    intro w
    have := cmpnames_any (p.extract 1 p.size) (q.extract 1 q.size) (by omega) (by omega) (by rw [drop1]; exact noEmpty _ v1) (by rw [drop1]; exact noEmpty _ v2) w
    rw [drop1, drop1] at this
    exact this
  have HC' := Lib.hid HC
  have H1 := Lib.hid v1
  have H2 := Lib.hid v2
  clear HC v1 v2 hz1 hz2
  go_enter Tryz.func68, Tryz.ntmps68
  go_wp2_with fail
  refine (valid_is p hp _ H1.out _).mono ?_
  rintro e w1 ⟨rfl, hb⟩
  go_wp2_with fail
  refine (valid_is q hq _ H2.out _).mono ?_
  rintro e w2 ⟨rfl, hb2⟩
  go_wp2_with fail
  go_quiet ((go_at_call 90; exact Calls.quiet_of (HC'.out _)))
  go_wp2
  go_ret
  exact ⟨rfl, below_drewN (hb.trans (hb2.mono hb.size)) _⟩

set_option maxHeartbeats 1000000 in
theorem cmp_vn (p q : ByteArray) (hp : p.size ≤ 140737488355328) (hq : q.size ≤ 140737488355328) (v1 : validB p.data.toList = true) (v2 : validB q.data.toList = false) (w : World) :
    Calls Tryz.prog 68 #[.string p, .string q] w fun e w' => e = .returned (.int .i64 1) ∧ Below w.heap.size w w' := by
  have H1 := Lib.hid v1
  have H2 := Lib.hid v2
  clear v1 v2
  go_enter Tryz.func68, Tryz.ntmps68
  go_wp2_with fail
  refine (valid_is p hp _ H1.out _).mono ?_
  rintro e w1 ⟨rfl, hb⟩
  go_wp2_with fail
  refine (valid_is q hq _ H2.out _).mono ?_
  rintro e w2 ⟨rfl, hb2⟩
  go_wp2_with fail
  go_ret
  exact ⟨rfl, hb.trans (hb2.mono hb.size)⟩
set_option maxHeartbeats 1000000 in
theorem cmp_nv (p q : ByteArray) (hp : p.size ≤ 140737488355328) (hq : q.size ≤ 140737488355328) (v1 : validB p.data.toList = false) (v2 : validB q.data.toList = true) (w : World) :
    Calls Tryz.prog 68 #[.string p, .string q] w fun e w' => e = .returned (.int .i64 (-1)) ∧ Below w.heap.size w w' := by
  have H1 := Lib.hid v1
  have H2 := Lib.hid v2
  clear v1 v2
  go_enter Tryz.func68, Tryz.ntmps68
  go_wp2_with fail
  refine (valid_is p hp _ H1.out _).mono ?_
  rintro e w1 ⟨rfl, hb⟩
  go_wp2_with fail
  refine (valid_is q hq _ H2.out _).mono ?_
  rintro e w2 ⟨rfl, hb2⟩
  go_wp2_with fail
  go_ret
  exact ⟨rfl, hb.trans (hb2.mono hb.size)⟩
set_option maxHeartbeats 1000000 in
theorem cmp_nn (p q : ByteArray) (hp : p.size ≤ 140737488355328) (hq : q.size ≤ 140737488355328) (v1 : validB p.data.toList = false) (v2 : validB q.data.toList = false) (w : World) :
    Calls Tryz.prog 68 #[.string p, .string q] w fun e w' => e = .returned (.int .i64 (Lib.compareBytes p.data.toList q.data.toList)) ∧ Below w.heap.size w w' := by
  have H1 := Lib.hid v1
  have H2 := Lib.hid v2
  clear v1 v2
  go_enter Tryz.func68, Tryz.ntmps68
  go_wp2_with fail
  refine (valid_is p hp _ H1.out _).mono ?_
  rintro e w1 ⟨rfl, hb⟩
  go_wp2_with fail
  refine (valid_is q hq _ H2.out _).mono ?_
  rintro e w2 ⟨rfl, hb2⟩
  go_wp2_with (go_at_call 91; refine (comp_any p.data.toList q.data.toList _).mono ?_; rintro e w' ⟨rfl, rfl⟩)
  go_ret
  exact ⟨rfl, hb.trans (hb2.mono hb.size)⟩

theorem cmp_any (p q : ByteArray) (hp : p.size ≤ 140737488355328) (hq : q.size ≤ 140737488355328) (w : World) :
    Calls Tryz.prog 68 #[.string p, .string q] w fun e w' => e = .returned (.int .i64 (cmpL p.data.toList q.data.toList)) ∧ Below w.heap.size w w' := by
  by_cases v1 : validB p.data.toList = true
  · by_cases v2 : validB q.data.toList = true
    · rw [cmpL, if_pos v1, if_pos v2]; exact cmp_vv p q hp hq v1 v2 w
    · rw [cmpL, if_pos v1, if_neg v2]; exact cmp_vn p q hp hq v1 (Bool.eq_false_iff.2 v2) w
  · by_cases v2 : validB q.data.toList = true
    · rw [cmpL, if_neg v1, if_pos v2]; exact cmp_nv p q hp hq (Bool.eq_false_iff.2 v1) v2 w
    · rw [cmpL, if_neg v1, if_neg v2]; exact cmp_nn p q hp hq (Bool.eq_false_iff.2 v1) (Bool.eq_false_iff.2 v2) w
end Go.Proofs.YtgmplpfbhcdofaaGreat.Pt
