/- Proved here: Check and Names of package path for every text. -/
import Derived.Test.YtiakedoebecgpaaDoorSplit
import Derived.Test.YtiakedoebecgpaaDoorMath3
namespace Go.Proofs.YtiakedoebecgpaaDoor
open Go.RowKit Go.Shelf
attribute [local go_sem] Oper.semAt_some

theorem split_any (s : ByteArray) (hls : s.size ≤ 140737488355328) (hN : (splitL s.data.toList).length ≤ 1000) (w : World) :
    Calls Tryd.prog 86 #[.string s] w fun e w' => ∃ v, e = .returned v ∧ w'.ownsRow w.heap.size 9 1 v (splitL s.data.toList).length ((splitL s.data.toList).map encS) ∧ Below w.heap.size w w' := by
  by_cases h : s.data.toList = []
  · have e : s = ⟨#[]⟩ := ba_eq s [] h
    subst e
    exact split_nil w
  · have e : splitL s.data.toList = cutP s.data.toList := by rw [splitL, if_neg h]
    rw [e] at hN ⊢
    obtain ⟨k, hk⟩ : ∃ k, (cutP s.data.toList).length = k + 1 := ⟨s.data.toList.count 47, cutP_count _⟩
    exact split_some s.data.toList h hls k hk (by omega) w

theorem validb_any (p : ByteArray) (hp : p.size ≤ 140737488355328) (w : World) : Calls Tryd.prog 66 #[.string p] w fun e w' => e = .returned (.bool (validB p.data.toList)) ∧ Below w.heap.size w w' :=
  valid_any p.data.toList hp w
theorem valid_is (p : ByteArray) (hp : p.size ≤ 140737488355328) (b : Bool) (hb : validB p.data.toList = b) (w : World) : Calls Tryd.prog 66 #[.string p] w fun e w' => e = .returned (.bool b) ∧ Below w.heap.size w w' := by
  rw [← hb]; exact validb_any p hp w

def errB (b : Bool) : Int := if b = true then 0 else 110

set_option maxHeartbeats 400000 in
theorem check_any (p : ByteArray) (hp : p.size ≤ 140737488355328) (w : World) : Calls Tryd.prog 77 #[.string p] w fun e w' => e = .returned (.int .i64 (errB (validB p.data.toList))) ∧ Below w.heap.size w w' := by
  obtain ⟨b, hb⟩ : ∃ b, validB p.data.toList = b := ⟨_, rfl⟩
  rw [hb]
  have HB := Lib.hid hb
  clear hb
  cases b
  all_goals
    go_enter Tryd.func77, Tryd.ntmps77
    go_wp2_with (go_at_call 66; refine (valid_is p hp _ HB.out _).mono ?_; rintro e w' ⟨rfl, hb⟩)
    go_ret
    exact ⟨rfl, hb⟩

set_option maxHeartbeats 400000 in
theorem names_no (p : ByteArray) (hp : p.size ≤ 140737488355328) (hv : validB p.data.toList = false) (w : World) : Calls Tryd.prog 55 #[.string p] w fun e w' => e = .returned (.tuple #[.slice none 0 0, .int .i64 110]) ∧ Below w.heap.size w w' := by
  have HB := Lib.hid hv
  clear hv
  go_enter Tryd.func55, Tryd.ntmps55
  go_wp2_with (go_at_call 66; refine (valid_is p hp _ HB.out _).mono ?_; rintro e w' ⟨rfl, hb⟩)
  go_ret2
  exact ⟨rfl, hb⟩

def NamesPost (p : Str) (w : World) (e : Ending) (w' : World) : Prop := ∃ v, e = .returned (.tuple #[v, .int .i64 0]) ∧ w'.ownsRow w.heap.size 9 1 v (namesL p).length ((namesL p).map encS) ∧ Below w.heap.size w w'

theorem drop1 (p : ByteArray) : (p.extract 1 p.size).data.toList = p.data.toList.drop 1 := Lib.extract_to_end p 1
theorem owns_low {w : World} {B B' n : Nat} {t : TypeId} {v : Value} {xs : List Value} (h : w.ownsRow B t 1 v n xs) (hB : B' ≤ B) : w.ownsRow B' t 1 v n xs := by
  obtain ⟨h1, h2⟩ := h
  refine ⟨h1, ?_⟩
  rcases h2 with h2 | ⟨g, cap, cur, hv, hg, r⟩
  · exact .inl h2
  · exact .inr ⟨g, cap, cur, hv, Nat.le_trans hB hg, r⟩
theorem size_pos (p : ByteArray) (hv : validB p.data.toList = true) : (1 : Int) ≤ (p.size : Int) := by
  have : p.data.toList.length = p.size := rfl
  cases e : p.data.toList with
  | nil => rw [e] at hv; cases hv
  | cons c r => rw [e] at this; simp at this; omega

set_option maxHeartbeats 400000 in
theorem names_yes (p : ByteArray) (hp : p.size ≤ 140737488355328) (hv : validB p.data.toList = true) (w : World) : Calls Tryd.prog 55 #[.string p] w (NamesPost p.data.toList w) := by
  have HB := Lib.hid hv
  have h1 := size_pos p hv
  have H2 := Lib.hid (split_any (p.extract 1 p.size) (by rw [show (p.extract 1 p.size).size = (p.extract 1 p.size).data.toList.length from rfl, drop1, List.length_drop]; have : p.data.toList.length = p.size := rfl; omega) (by rw [drop1]; have := (valid_names _ hv).1; exact Nat.le_trans this (by omega)))
  clear hv
  go_enter Tryd.func55, Tryd.ntmps55
  go_wp2_with (first | (go_at_call 66; refine (valid_is p hp _ HB.out _).mono ?_; rintro e w1 ⟨rfl, hb⟩) | (go_at_call 86; refine (H2.out _).mono ?_; rintro e w2 ⟨v, rfl, hv, hb2⟩))
  go_ret2
  rw [drop1] at hv
  exact ⟨v, rfl, owns_low hv hb.size, hb.trans (hb2.mono hb.size)⟩

end Go.Proofs.YtiakedoebecgpaaDoor
