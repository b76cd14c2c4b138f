/- Proved here: Check and Binary of package reloc, Right and Binary of puncheonref14, cmp.Or of two. -/
import Derived.Test.YtophihnjlodmjaaDoorBase
namespace Go.Proofs.YtophihnjlodmjaaDoor
open Go.RowKit Go.Shelf

def binB (l : Bs) : Bool := decide (0 ∈ l)
def okB (p : Bs) : Bool := decide (1 ≤ p.length) && (decide (p.length ≤ 60) && !binB p)
def chkI (p : Bs) : Int := if okB p = true then 0 else 240
theorem okB_iff (p : Bs) : okB p = true ↔ 1 ≤ p.length ∧ p.length ≤ 60 ∧ 0 ∉ p := by simp [okB, binB]
theorem index_none (c : UInt8) (l : Bs) (h : c ∉ l) : Lib.indexByte l c = -1 := by
  induction l with
  | nil => rfl
  | cons x s ih =>
    simp only [List.mem_cons, not_or] at h
    unfold Lib.indexByte
    have : (x == c) = false := by simp; exact fun e => h.1 e.symm
    rw [this, ih h.2]
    rfl
theorem index_some (c : UInt8) (l : Bs) (h : c ∈ l) : Lib.indexByte l c = ((l.takeWhile (· != c)).length : Int) := by
  induction l with
  | nil => simp at h
  | cons x s ih =>
    by_cases hc : x = c
    · simp [hc, Lib.indexByte]
    · have h' : c ∈ s := by
        rcases List.mem_cons.1 h with h | h
        · exact absurd h.symm hc
        · exact h
      unfold Lib.indexByte
      have e : (x == c) = false := by simp; exact hc
      rw [e, ih h', List.takeWhile_cons]
      have e2 : (((s.takeWhile (· != c)).length : Int) == -1) = false := by rw [beq_eq_false_iff_ne]; omega
      simp [hc, e2]
theorem has_index (l : Bs) : decide (0 ≤ Lib.indexByte l 0) = binB l := by
  unfold binB
  by_cases h : 0 ∈ l
  · rw [index_some 0 l h, decide_eq_true h]; exact decide_eq_true (by omega)
  · rw [index_none 0 l h, decide_eq_false h]; rfl
theorem isEmpty_no {l : Bs} (h : l ≠ []) : l.isEmpty = false := by cases l <;> simp_all

theorem bin_any (l : Bs) (w : World) : Calls Tryd.prog 14 #[.string ⟨l.toArray⟩] w fun e w' => e = .returned (.bool (binB l)) ∧ w = w' := by
  have HB := Lib.hid (has_index l)
  go_enter Tryd.func14, Tryd.ntmps14
  go_wp2_with (go_at_call 29; refine (Tryd.strings_Contains_one _ _ _).mono ?_; rintro e w' ⟨rfl, rfl⟩; rw [HB.out])
  go_ret
  exact ⟨rfl, rfl⟩

theorem chk_any (l : Bs) (hs : l.length ≤ 140737488355328) (w : World) : Calls Tryd.prog 13 #[.string ⟨l.toArray⟩] w fun e w' => e = .returned (.int .i64 (chkI l)) ∧ w = w' := by
  by_cases h0 : l = []
  · have HE : Hid (chkI l = 240) := Lib.hid (by rw [h0]; rfl)
    rw [HE.out]
    subst h0
    clear HE hs
    go_enter Tryd.func13, Tryd.ntmps13
    go_wp2
    go_ret
    exact ⟨rfl, rfl⟩
  · have h2 := isEmpty_no h0
    have hp : 1 ≤ l.length := List.length_pos_iff.2 h0
    by_cases h60 : l.length ≤ 60
    · have t : decide ((l.length : Int) > 60) = false := decide_eq_false (by omega)
      have t2 : decide ((60 : Int) < (l.length : Int)) = false := decide_eq_false (by omega)
      obtain ⟨b, hb⟩ : ∃ b, b = binB l := ⟨_, rfl⟩
      have HE : Hid (chkI l = if b = true then 240 else 0) := Lib.hid (by
        unfold chkI okB
        rw [← hb, decide_eq_true hp, decide_eq_true h60]
        cases b <;> rfl)
      rw [HE.out]
      have HB : Hid (Calls Tryd.prog 14 #[.string ⟨l.toArray⟩] w fun e w' => e = .returned (.bool b) ∧ w = w') := Lib.hid (by rw [hb]; exact bin_any l w)
      clear hb HE h60 hp h0
      cases b with
      | false =>
        go_enter Tryd.func13, Tryd.ntmps13
        go_wp2_with (go_at_call 14; refine HB.out.mono ?_; rintro e w' ⟨rfl, rfl⟩)
        go_ret
        exact ⟨rfl, rfl⟩
      | true =>
        go_enter Tryd.func13, Tryd.ntmps13
        go_wp2_with (go_at_call 14; refine HB.out.mono ?_; rintro e w' ⟨rfl, rfl⟩)
        go_ret
        exact ⟨rfl, rfl⟩
    · have t : decide ((l.length : Int) > 60) = true := decide_eq_true (by omega)
      have t2 : decide ((60 : Int) < (l.length : Int)) = true := decide_eq_true (by omega)
      have HE : Hid (chkI l = 240) := Lib.hid (by
        unfold chkI okB
        rw [decide_eq_false h60]
        simp)
      rw [HE.out]
      clear HE h60 hp h0
      go_enter Tryd.func13, Tryd.ntmps13
      go_wp2
      go_ret
      exact ⟨rfl, rfl⟩

theorem bin_drop {l : Bs} {k : Nat} (h : k < l.length) : binB (l.drop k) = (decide (l[k] = 0) || binB (l.drop (k + 1))) := by
  have e : l.drop k = l[k] :: l.drop (k + 1) := List.drop_eq_getElem_cons h
  have e2 : (0 ∈ l.drop k) ↔ (l[k] = 0 ∨ 0 ∈ l.drop (k + 1)) := by rw [e, List.mem_cons]; exact or_congr_left eq_comm
  unfold binB
  simp only [e2, Bool.decide_or]

set_option maxRecDepth 100000 in
theorem rbin_any (l : Bs) (hs : l.length ≤ 140737488355328) (w : World) : Calls Tryd.prog 15 #[.string ⟨l.toArray⟩] w fun e w' => e = .returned (.bool (binB l)) ∧ w = w' := by
  obtain ⟨b, hb⟩ : ∃ b, b = binB l := ⟨_, rfl⟩
  rw [← hb]
  have HB := Lib.hid hb
  clear hb
  go_enter Tryd.func15, Tryd.ntmps15
  go_wp2
  go_loop [3] (fun i => ∃ k : Nat, i = .int .i64 (k : Int) ∧ k ≤ l.length ∧ Hid (b = binB (l.drop k))) (fun i => l.length - (Lib.intOf i).toNat)
  case atStart => exact ⟨0, rfl, Nat.zero_le _, HB⟩
  case round =>
    obtain ⟨k, rfl, hk, HK⟩ := hrel
    by_cases hlt : k < l.length
    · by_cases hc : l[k] = 0
      · have HT : Hid (b = true) := Lib.hid (by rw [HK.out, bin_drop hlt, decide_eq_true hc]; rfl)
        have t1 : (((((⟨l.toArray⟩ : ByteArray)[k]'hlt)).toNat : Int) == 0) = true := by show (((l[k]'hlt).toNat : Int) == 0) = true; rw [hc]; rfl
        clear hc
        obtain rfl := HT.out
        go_wp2
        go_ret
        exact ⟨rfl, rfl⟩
      · have HT : Hid (b = binB (l.drop (k + 1))) := Lib.hid (by rw [HK.out, bin_drop hlt, decide_eq_false hc]; rfl)
        have t1 : (((((⟨l.toArray⟩ : ByteArray)[k]'hlt)).toNat : Int) == 0) = false := by
          show (((l[k]'hlt).toNat : Int) == 0) = false
          rw [beq_eq_false_iff_ne]
          intro e
          exact hc (UInt8.toNat_inj.1 (by simp; omega))
        clear hc
        go_wp2
        go_round
        case rel => exact ⟨k + 1, by go_num, hlt, HT⟩
        case measure => simp [Lib.intOf]; omega
    · have HT : Hid (b = false) := Lib.hid (by rw [HK.out, List.drop_eq_nil_of_le (by omega)]; rfl)
      obtain rfl := HT.out
      go_wp2
      go_ret
      exact ⟨rfl, rfl⟩

theorem rright_any (l : Bs) (hs : l.length ≤ 140737488355328) (w : World) : Calls Tryd.prog 11 #[.string ⟨l.toArray⟩] w fun e w' => e = .returned (.bool (okB l)) ∧ w = w' := by
  by_cases h1 : 1 ≤ l.length
  · have t1 : decide ((1 : Int) ≤ (l.length : Int)) = true := decide_eq_true (by omega)
    have t1' : decide ((l.length : Int) ≥ 1) = true := decide_eq_true (by omega)
    by_cases h60 : l.length ≤ 60
    · have t2 : decide ((l.length : Int) ≤ 60) = true := decide_eq_true (by omega)
      have HE : Hid (okB l = !binB l) := Lib.hid (by unfold okB; rw [decide_eq_true h1, decide_eq_true h60]; rfl)
      rw [HE.out]
      clear HE h1 h60
      go_enter Tryd.func11, Tryd.ntmps11
      go_wp2_with (go_at_call 15; refine (rbin_any l (by omega) _).mono ?_; rintro e w' ⟨rfl, rfl⟩)
      go_ret
      exact ⟨rfl, rfl⟩
    · have t2 : decide ((l.length : Int) ≤ 60) = false := decide_eq_false (by omega)
      have HE : Hid (okB l = false) := Lib.hid (by unfold okB; rw [decide_eq_false h60]; simp)
      rw [HE.out]
      clear HE h1 h60
      go_enter Tryd.func11, Tryd.ntmps11
      go_wp2
      go_ret
      exact ⟨rfl, rfl⟩
  · have t1 : decide ((1 : Int) ≤ (l.length : Int)) = false := decide_eq_false (by omega)
    have t1' : decide ((l.length : Int) ≥ 1) = false := decide_eq_false (by omega)
    have HE : Hid (okB l = false) := Lib.hid (by unfold okB; rw [decide_eq_false h1]; rfl)
    rw [HE.out]
    clear HE h1
    go_enter Tryd.func11, Tryd.ntmps11
    go_wp2
    go_ret
    exact ⟨rfl, rfl⟩
end Go.Proofs.YtophihnjlodmjaaDoor
