/- The law PathBack returns true for every two texts that the form reads: from the contracts of path's functions. -/
import Derived.Test.YtjnmlhmlcbbafaaWakes
import Derived.Test.YtjnmlhmlcbbafaaMath4
namespace Go.Proofs.Ytjnmlhmlcbbafaa
open Go.RowKit Go.Shelf

theorem ba_id (p : ByteArray) : (⟨p.data.toList.toArray⟩ : ByteArray) = p := rfl
def TrueBelow (w : World) (e : Ending) (w' : World) : Prop := e = .returned (.bool true) ∧ Below w.heap.size w w'
theorem chain {w w1 w2 : World} (h : Below w.heap.size w w1) (k : Below w1.heap.size w1 w2) : Below w.heap.size w w2 := h.trans (k.mono h.size)

theorem b_of (p : ByteArray) (hv : validB p.data.toList = true) (b0 : Nat) (v : Value) (w : World) (hown : w.ownsRow b0 9 1 v (namesL p.data.toList).length ((namesL p.data.toList).map encS)) :
    Calls Try.prog 22 #[v] w fun e w' => e = .returned (.tuple #[.string p, .int .i64 0]) ∧ Below w.heap.size w w' := by
  have hj := valid_join _ hv
  refine (of_any (namesL p.data.toList) b0 v w hown (Nat.le_trans (valid_names _ hv).1 (by omega))).mono fun _ _ ⟨he, hb⟩ => ⟨?_, hb⟩
  rw [he, ofRes, if_pos hj.2]
  dsimp only
  rw [hj.1]
theorem b_clean (a p : ByteArray) (ha : a.size ≤ 140737488355328) (hva : validB a.data.toList = true) (hvp : validB p.data.toList = true) (w : World) :
    Calls Try.prog 24 #[.string a, .string p] w fun e w' => e = .returned (.tuple #[.string p, .int .i64 0]) ∧ Below w.heap.size w w' := by
  have hl := valid_len _ hvp
  have hps : p.data.toList.length = p.size := rfl
  refine (clean_any a p ha w).mono fun _ _ ⟨he, hb⟩ => ⟨?_, hb⟩
  have e : cleanRes a.data.toList p.data.toList = (p.data.toList, 0) := by
    rw [cleanRes, if_neg (by simp [hva]), if_neg (by omega), clean_path _ _ hvp]
    dsimp only
    rw [(valid_join _ hvp).1]
  rw [he, e]
theorem b_clean2 (p : ByteArray) (hvp : validB p.data.toList = true) (hr : p.data.toList ≠ [47]) (w : World) :
    Calls Try.prog 24 #[.string ⟨(upL p.data.toList).toArray⟩, .string ⟨(baseL p.data.toList).toArray⟩] w fun e w' => e = .returned (.tuple #[.string p, .int .i64 0]) ∧ Below w.heap.size w w' := by
  have hu := up_valid _ hvp
  have hl := valid_len _ hu.1
  have hb := base_len _ hvp
  refine (clean_any ⟨(upL p.data.toList).toArray⟩ ⟨(baseL p.data.toList).toArray⟩ (show (upL p.data.toList).length ≤ _ by omega) w).mono fun _ _ ⟨he, hb⟩ => ⟨?_, hb⟩
  have e : cleanRes (upL p.data.toList) (baseL p.data.toList) = (p.data.toList, 0) := by
    rw [cleanRes, if_neg (by simp [hu.1]), if_neg (by omega), back_up _ hvp hr]
    dsimp only
    rw [(valid_join _ hvp).1]
  have he' : _ = Ending.returned (.tuple #[.string ⟨(cleanRes (upL p.data.toList) (baseL p.data.toList)).1.toArray⟩, .int .i64 (cleanRes (upL p.data.toList) (baseL p.data.toList)).2]) := he
  rw [he', e]
theorem b_cmp (p : ByteArray) (hvp : validB p.data.toList = true) (hr : p.data.toList ≠ [47]) (w : World) :
    Calls Try.prog 30 #[.string ⟨(upL p.data.toList).toArray⟩, .string p] w fun e w' => e = .returned (.int .i64 (-1)) ∧ Below w.heap.size w w' := by
  have hu := up_valid _ hvp
  have hl := valid_len _ hu.1
  have hl2 := valid_len _ hvp
  have hps : p.data.toList.length = p.size := rfl
  refine (cmp_any ⟨(upL p.data.toList).toArray⟩ p (show (upL p.data.toList).length ≤ _ by omega) (by omega) w).mono fun _ _ ⟨he, hb⟩ => ⟨?_, hb⟩
  rw [he]
  exact ret_int (up_cmp _ hvp hr)
theorem b_under (p : ByteArray) (hvp : validB p.data.toList = true) (w : World) :
    Calls Try.prog 29 #[.string p, .string ⟨(upL p.data.toList).toArray⟩] w fun e w' => e = .returned (.bool true) ∧ Below w.heap.size w w' := by
  have hu := up_valid _ hvp
  have hl := valid_len _ hu.1
  have hl2 := valid_len _ hvp
  have hps : p.data.toList.length = p.size := rfl
  refine (under_any p ⟨(upL p.data.toList).toArray⟩ (by omega) (show (upL p.data.toList).length ≤ _ by omega) w).mono fun _ _ ⟨he, hb⟩ => ⟨?_, hb⟩
  rw [he]
  exact ret_bool (up_under _ hvp)
theorem b_up_bad (p : ByteArray) (hp : p.size ≤ 140737488355328) (hv : validB p.data.toList = false) (w : World) : Calls Try.prog 17 #[.string p] w fun e w' => e = .returned (.string ⟨#[]⟩) ∧ Below w.heap.size w w' := by
  have := up_any p hp w
  rw [up_bad _ hv] at this
  exact this
theorem b_base_bad (p : ByteArray) (hp : p.size ≤ 140737488355328) (hv : validB p.data.toList = false) (w : World) : Calls Try.prog 19 #[.string p] w fun e w' => e = .returned (.string ⟨#[]⟩) ∧ Below w.heap.size w w' := by
  have := base_any p hp w
  rw [base_bad _ hv] at this
  exact this
theorem b_up_root (w : World) : Calls Try.prog 17 #[.string ⟨#[47]⟩] w fun e w' => e = .returned (.string ⟨#[47]⟩) ∧ Below w.heap.size w w' := by
  have := up_any ⟨#[47]⟩ (by simp [ByteArray.size]) w
  rw [show (⟨#[47]⟩ : ByteArray).data.toList = [47] from rfl, up_root] at this
  exact this
theorem b_base_root (w : World) : Calls Try.prog 19 #[.string ⟨#[47]⟩] w fun e w' => e = .returned (.string ⟨#[]⟩) ∧ Below w.heap.size w w' := by
  have := base_any ⟨#[47]⟩ (by simp [ByteArray.size]) w
  rw [show (⟨#[47]⟩ : ByteArray).data.toList = [47] from rfl, base_root] at this
  exact this
theorem b_check (p : ByteArray) (hp : p.size ≤ 140737488355328) (b : Bool) (hv : validB p.data.toList = b) (w : World) : Calls Try.prog 16 #[.string p] w fun e w' => e = .returned (.int .i64 (errB b)) ∧ Below w.heap.size w w' := by
  rw [← hv]; exact check_any p hp w

set_option maxRecDepth 100000 in
set_option maxHeartbeats 2000000 in
theorem back_bad (p a : ByteArray) (hp : p.size ≤ 140737488355328) (hv : validB p.data.toList = false) (w : World) : Calls Try.prog 7 #[.string p, .string a] w (TrueBelow w) := by
  have HV := Lib.hid hv
  clear hv
  go_enter Try.func7, Try.ntmps7
  go_wp2_with fail
  refine (wakes_any _).mono ?_
  rintro e w1 ⟨rfl, hb1⟩
  go_wp2_with fail
  refine (names_no p hp HV.out _).mono ?_
  rintro e w2 ⟨rfl, hb⟩
  have hb2 := chain hb1 hb
  clear hb1 hb
  go_wp2_with fail
  refine (b_up_bad p hp HV.out _).mono ?_
  rintro e w3 ⟨rfl, hb⟩
  have hb3 := chain hb2 hb
  clear hb2 hb
  go_wp2_with fail
  refine (b_base_bad p hp HV.out _).mono ?_
  rintro e w4 ⟨rfl, hb⟩
  have hb4 := chain hb3 hb
  clear hb3 hb
  go_wp2_with fail
  go_ret
  exact ⟨rfl, hb4⟩

set_option maxRecDepth 100000 in
set_option maxHeartbeats 2000000 in
theorem back_root_v (a : ByteArray) (ha : a.size ≤ 140737488355328) (hva : validB a.data.toList = true) (w : World) : Calls Try.prog 7 #[.string ⟨#[47]⟩, .string a] w (TrueBelow w) := by
  have hp : (⟨#[47]⟩ : ByteArray).size ≤ 140737488355328 := by simp [ByteArray.size]
  have HV := Lib.hid (show validB (⟨#[47]⟩ : ByteArray).data.toList = true from validB_root)
  have f1 : ((⟨#[47]⟩ : ByteArray).toList == [47]) = true := by rw [Lib.toList_data]; rfl
  have HA := Lib.hid hva
  clear hva
  go_enter Try.func7, Try.ntmps7
  go_wp2_with fail
  refine (wakes_any _).mono ?_
  rintro e w1 ⟨rfl, hb1⟩
  go_wp2_with fail
  refine (names_yes ⟨#[47]⟩ hp HV.out _).mono ?_
  rintro e w2 ⟨v, rfl, hrow, hb⟩
  have hb2 := chain hb1 hb
  obtain ⟨a0, cap, rfl⟩ := own_len hrow
  have HR := Lib.hid hrow
  clear hb1 hb hrow
  go_wp2_with fail
  refine (b_of ⟨#[47]⟩ HV.out _ _ _ HR.out).mono ?_
  rintro e w3 ⟨rfl, hb⟩
  have hb3 := chain hb2 hb
  clear hb2 hb
  go_wp2_with fail
  refine (b_check a ha _ HA.out _).mono ?_
  rintro e w4 ⟨rfl, hb⟩
  have hb4 := chain hb3 hb
  clear hb3 hb
  go_wp2_with fail
  refine (b_clean a ⟨#[47]⟩ ha HA.out HV.out _).mono ?_
  rintro e w5 ⟨rfl, hb⟩
  have hb5 := chain hb4 hb
  clear hb4 hb
  go_wp2_with fail
  refine (b_up_root _).mono ?_
  rintro e w6 ⟨rfl, hb⟩
  have hb6 := chain hb5 hb
  clear hb5 hb
  go_wp2_with fail
  refine (b_base_root _).mono ?_
  rintro e w7 ⟨rfl, hb⟩
  have hb7 := chain hb6 hb
  clear hb6 hb
  go_wp2_with fail
  go_ret
  exact ⟨rfl, hb7⟩

set_option maxRecDepth 100000 in
set_option maxHeartbeats 2000000 in
theorem back_root_n (a : ByteArray) (ha : a.size ≤ 140737488355328) (hva : validB a.data.toList = false) (w : World) : Calls Try.prog 7 #[.string ⟨#[47]⟩, .string a] w (TrueBelow w) := by
  have hp : (⟨#[47]⟩ : ByteArray).size ≤ 140737488355328 := by simp [ByteArray.size]
  have HV := Lib.hid (show validB (⟨#[47]⟩ : ByteArray).data.toList = true from validB_root)
  have f1 : ((⟨#[47]⟩ : ByteArray).toList == [47]) = true := by rw [Lib.toList_data]; rfl
  have HA := Lib.hid hva
  clear hva
  go_enter Try.func7, Try.ntmps7
  go_wp2_with fail
  refine (wakes_any _).mono ?_
  rintro e w1 ⟨rfl, hb1⟩
  go_wp2_with fail
  refine (names_yes ⟨#[47]⟩ hp HV.out _).mono ?_
  rintro e w2 ⟨v, rfl, hrow, hb⟩
  have hb2 := chain hb1 hb
  obtain ⟨a0, cap, rfl⟩ := own_len hrow
  have HR := Lib.hid hrow
  clear hb1 hb hrow
  go_wp2_with fail
  refine (b_of ⟨#[47]⟩ HV.out _ _ _ HR.out).mono ?_
  rintro e w3 ⟨rfl, hb⟩
  have hb3 := chain hb2 hb
  clear hb2 hb
  go_wp2_with fail
  refine (b_check a ha _ HA.out _).mono ?_
  rintro e w4 ⟨rfl, hb⟩
  have hb4 := chain hb3 hb
  clear hb3 hb
  go_wp2_with fail
  refine (b_up_root _).mono ?_
  rintro e w5 ⟨rfl, hb⟩
  have hb5 := chain hb4 hb
  clear hb4 hb
  go_wp2_with fail
  refine (b_base_root _).mono ?_
  rintro e w6 ⟨rfl, hb⟩
  have hb6 := chain hb5 hb
  clear hb5 hb
  go_wp2_with fail
  go_ret
  exact ⟨rfl, hb6⟩

set_option maxRecDepth 100000 in
set_option maxHeartbeats 2000000 in
theorem back_path_v (p a : ByteArray) (hp : p.size ≤ 140737488355328) (ha : a.size ≤ 140737488355328) (hv : validB p.data.toList = true) (hr : p.data.toList ≠ [47]) (hva : validB a.data.toList = true) (w : World) : Calls Try.prog 7 #[.string p, .string a] w (TrueBelow w) := by
  have HV := Lib.hid hv
  have f1 : (p.toList == [47]) = false := by rw [Lib.toList_data]; simp [hr]
  have HA := Lib.hid hva
  have HN := Lib.hid hr
  clear hva hr
  clear hv
  go_enter Try.func7, Try.ntmps7
  go_wp2_with fail
  refine (wakes_any _).mono ?_
  rintro e w1 ⟨rfl, hb1⟩
  go_wp2_with fail
  refine (names_yes p hp HV.out _).mono ?_
  rintro e w2 ⟨v, rfl, hrow, hb⟩
  have hb2 := chain hb1 hb
  obtain ⟨a0, cap, rfl⟩ := own_len hrow
  have HR := Lib.hid hrow
  clear hb1 hb hrow
  go_wp2_with fail
  refine (b_of p HV.out _ _ _ HR.out).mono ?_
  rintro e w3 ⟨rfl, hb⟩
  have hb3 := chain hb2 hb
  clear hb2 hb
  go_wp2_with fail
  refine (b_check a ha _ HA.out _).mono ?_
  rintro e w4 ⟨rfl, hb⟩
  have hb4 := chain hb3 hb
  clear hb3 hb
  go_wp2_with fail
  refine (b_clean a p ha HA.out HV.out _).mono ?_
  rintro e w5 ⟨rfl, hb⟩
  have hb5 := chain hb4 hb
  clear hb4 hb
  go_wp2_with fail
  refine (up_any p hp _).mono ?_
  rintro e w6 ⟨rfl, hb⟩
  have hb6 := chain hb5 hb
  clear hb5 hb
  go_wp2_with fail
  refine (base_any p hp _).mono ?_
  rintro e w7 ⟨rfl, hb⟩
  have hb7 := chain hb6 hb
  clear hb6 hb
  go_wp2_with fail
  refine (b_clean2 p HV.out HN.out _).mono ?_
  rintro e w8 ⟨rfl, hb⟩
  have hb8 := chain hb7 hb
  clear hb7 hb
  go_wp2_with fail
  refine (up_any p hp _).mono ?_
  rintro e w9 ⟨rfl, hb⟩
  have hb9 := chain hb8 hb
  clear hb8 hb
  go_wp2_with fail
  refine (b_cmp p HV.out HN.out _).mono ?_
  rintro e w10 ⟨rfl, hb⟩
  have hb10 := chain hb9 hb
  clear hb9 hb
  go_wp2_with fail
  refine (up_any p hp _).mono ?_
  rintro e w11 ⟨rfl, hb⟩
  have hb11 := chain hb10 hb
  clear hb10 hb
  go_wp2_with fail
  refine (b_under p HV.out _).mono ?_
  rintro e w12 ⟨rfl, hb⟩
  have hb12 := chain hb11 hb
  clear hb11 hb
  go_wp2_with fail
  go_ret
  exact ⟨rfl, hb12⟩

set_option maxRecDepth 100000 in
set_option maxHeartbeats 2000000 in
theorem back_path_n (p a : ByteArray) (hp : p.size ≤ 140737488355328) (ha : a.size ≤ 140737488355328) (hv : validB p.data.toList = true) (hr : p.data.toList ≠ [47]) (hva : validB a.data.toList = false) (w : World) : Calls Try.prog 7 #[.string p, .string a] w (TrueBelow w) := by
  have HV := Lib.hid hv
  have f1 : (p.toList == [47]) = false := by rw [Lib.toList_data]; simp [hr]
  have HA := Lib.hid hva
  have HN := Lib.hid hr
  clear hva hr
  clear hv
  go_enter Try.func7, Try.ntmps7
  go_wp2_with fail
  refine (wakes_any _).mono ?_
  rintro e w1 ⟨rfl, hb1⟩
  go_wp2_with fail
  refine (names_yes p hp HV.out _).mono ?_
  rintro e w2 ⟨v, rfl, hrow, hb⟩
  have hb2 := chain hb1 hb
  obtain ⟨a0, cap, rfl⟩ := own_len hrow
  have HR := Lib.hid hrow
  clear hb1 hb hrow
  go_wp2_with fail
  refine (b_of p HV.out _ _ _ HR.out).mono ?_
  rintro e w3 ⟨rfl, hb⟩
  have hb3 := chain hb2 hb
  clear hb2 hb
  go_wp2_with fail
  refine (b_check a ha _ HA.out _).mono ?_
  rintro e w4 ⟨rfl, hb⟩
  have hb4 := chain hb3 hb
  clear hb3 hb
  go_wp2_with fail
  refine (up_any p hp _).mono ?_
  rintro e w5 ⟨rfl, hb⟩
  have hb5 := chain hb4 hb
  clear hb4 hb
  go_wp2_with fail
  refine (base_any p hp _).mono ?_
  rintro e w6 ⟨rfl, hb⟩
  have hb6 := chain hb5 hb
  clear hb5 hb
  go_wp2_with fail
  refine (b_clean2 p HV.out HN.out _).mono ?_
  rintro e w7 ⟨rfl, hb⟩
  have hb7 := chain hb6 hb
  clear hb6 hb
  go_wp2_with fail
  refine (up_any p hp _).mono ?_
  rintro e w8 ⟨rfl, hb⟩
  have hb8 := chain hb7 hb
  clear hb7 hb
  go_wp2_with fail
  refine (b_cmp p HV.out HN.out _).mono ?_
  rintro e w9 ⟨rfl, hb⟩
  have hb9 := chain hb8 hb
  clear hb8 hb
  go_wp2_with fail
  refine (up_any p hp _).mono ?_
  rintro e w10 ⟨rfl, hb⟩
  have hb10 := chain hb9 hb
  clear hb9 hb
  go_wp2_with fail
  refine (b_under p HV.out _).mono ?_
  rintro e w11 ⟨rfl, hb⟩
  have hb11 := chain hb10 hb
  clear hb10 hb
  go_wp2_with fail
  go_ret
  exact ⟨rfl, hb11⟩

theorem back_any (p a : ByteArray) (hp : p.size ≤ 140737488355328) (ha : a.size ≤ 140737488355328) (w : World) : Calls Try.prog 7 #[.string p, .string a] w (TrueBelow w) := by
  by_cases hv : validB p.data.toList = true
  · by_cases hr : p.data.toList = [47]
    · have e : p = ⟨#[47]⟩ := ba_eq p [47] hr
      subst e
      by_cases hva : validB a.data.toList = true
      · exact back_root_v a ha hva w
      · exact back_root_n a ha (Bool.eq_false_iff.2 hva) w
    · by_cases hva : validB a.data.toList = true
      · exact back_path_v p a hp ha hv hr hva w
      · exact back_path_n p a hp ha hv hr (Bool.eq_false_iff.2 hva) w
  · exact back_bad p a hp (Bool.eq_false_iff.2 hv) w
end Go.Proofs.Ytjnmlhmlcbbafaa
