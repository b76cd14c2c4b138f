/- Proved here: Check and Names of package path for every text. -/
import Derived.Test.YtgmplpfbhcdofaaGreatPSplit
import Derived.Test.YtgmplpfbhcdofaaGreatPMath3
namespace Go.Proofs.YtgmplpfbhcdofaaGreat.Pt
open Go.RowKit Go.Shelf
attribute [local go_sem] Oper.semAt_some

theorem validb_any (p : ByteArray) (hp : p.size ≤ 140737488355328) (w : World) : Calls Tryz.prog 89 #[.string p] w fun e w' => e = .returned (.bool (validB p.data.toList)) ∧ Below w.heap.size w w' :=
  valid_any p.data.toList hp w
theorem valid_is (p : ByteArray) (hp : p.size ≤ 140737488355328) (b : Bool) (hb : validB p.data.toList = b) (w : World) : Calls Tryz.prog 89 #[.string p] w fun e w' => e = .returned (.bool b) ∧ Below w.heap.size w w' := by
  rw [← hb]; exact validb_any p hp w

def errB (b : Bool) : Int := if b = true then 0 else 110

set_option maxHeartbeats 400000 in
theorem check_any (p : ByteArray) (hp : p.size ≤ 140737488355328) (w : World) : Calls Tryz.prog 138 #[.string p] w fun e w' => e = .returned (.int .i64 (errB (validB p.data.toList))) ∧ Below w.heap.size w w' := by
  obtain ⟨b, hb⟩ : ∃ b, validB p.data.toList = b := ⟨_, rfl⟩
  rw [hb]
  have HB := Lib.hid hb
  clear hb
  cases b
  all_goals
    go_enter Tryz.func138, Tryz.ntmps138
    go_wp2_with (go_at_call 89; refine (valid_is p hp _ HB.out _).mono ?_; rintro e w' ⟨rfl, hb⟩)
    go_ret
    exact ⟨rfl, hb⟩

def NamesPost (p : Str) (w : World) (e : Ending) (w' : World) : Prop := ∃ v, e = .returned (.tuple #[v, .int .i64 0]) ∧ w'.ownsRow w.heap.size 9 1 v (namesL p).length ((namesL p).map encS) ∧ Below w.heap.size w w'

theorem drop1 (p : ByteArray) : (p.extract 1 p.size).data.toList = p.data.toList.drop 1 := Lib.extract_to_end p 1
theorem owns_low {w : World} {B B' n : Nat} {t : TypeId} {v : Value} {xs : List Value} (h : w.ownsRow B t 1 v n xs) (hB : B' ≤ B) : w.ownsRow B' t 1 v n xs := by
  obtain ⟨h1, h2⟩ := h
  refine ⟨h1, ?_⟩
  rcases h2 with h2 | ⟨g, cap, cur, hv, hg, r⟩
  · exact .inl h2
  · exact .inr ⟨g, cap, cur, hv, Nat.le_trans hB hg, r⟩
theorem size_pos (p : ByteArray) (hv : validB p.data.toList = true) : (1 : Int) ≤ (p.size : Int) := by
  have : p.data.toList.length = p.size := rfl
  cases e : p.data.toList with
  | nil => rw [e] at hv; cases hv
  | cons c r => rw [e] at this; simp at this; omega

end Go.Proofs.YtgmplpfbhcdofaaGreat.Pt
