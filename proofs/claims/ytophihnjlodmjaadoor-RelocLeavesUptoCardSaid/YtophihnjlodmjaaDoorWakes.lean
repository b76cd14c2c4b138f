/- Proved here: 'wakes' of the laws of package reloc. -/
import Derived.Test.YtophihnjlodmjaaDoorMove
namespace Go.Proofs.YtophihnjlodmjaaDoor
open Go.RowKit Go.Shelf
attribute [local go_sem] Oper.semAt_some

theorem wk_a : movL [47, 111] [47, 111, 112, 116] [115, 101, 101, 32, 47, 111, 47, 98, 105, 110] = some ([115, 101, 101, 32, 47, 111, 112, 116, 47, 98, 105, 110], [4]) := by rfl
theorem wk_b : movL [47, 111, 112, 116] [47, 111] [47, 111, 112, 116, 47, 120, 0, 121] = some ([47, 111, 47, 120, 0, 0, 0, 121], [0]) := by rfl
theorem wk_c : movL [47, 111] [47, 111, 112, 116] [47, 111, 47, 120, 0, 121] = none := by rfl
theorem wk_1 {w w' : World} {e : Ending} (h : MoveR [47, 111] [47, 111, 112, 116] [115, 101, 101, 32, 47, 111, 47, 98, 105, 110] w e w') : ∃ v, e = .returned (.tuple #[.string ⟨#[115, 101, 101, 32, 47, 111, 112, 116, 47, 98, 105, 110]⟩, v, .int .i64 0]) ∧ w'.ownsRow w.heap.size 3 1 v 1 (natsV [4]) ∧ Below w.heap.size w w' := by
  obtain ⟨⟨_, _, ⟨o, a, v, h1, h2, h3⟩ | ⟨h1, _⟩⟩ | ⟨h1, _⟩, hb⟩ := h
  · rw [wk_a] at h1; cases h1; exact ⟨v, h2, h3, hb⟩
  · rw [wk_a] at h1; cases h1
  · exact absurd ⟨by decide, by decide⟩ h1
theorem wk_2 {w w' : World} {e : Ending} (h : MoveR [47, 111, 112, 116] [47, 111] [47, 111, 112, 116, 47, 120, 0, 121] w e w') : ∃ v, e = .returned (.tuple #[.string ⟨#[47, 111, 47, 120, 0, 0, 0, 121]⟩, v, .int .i64 0]) ∧ w'.ownsRow w.heap.size 3 1 v 1 (natsV [0]) ∧ Below w.heap.size w w' := by
  obtain ⟨⟨_, _, ⟨o, a, v, h1, h2, h3⟩ | ⟨h1, _⟩⟩ | ⟨h1, _⟩, hb⟩ := h
  · rw [wk_b] at h1; cases h1; exact ⟨v, h2, h3, hb⟩
  · rw [wk_b] at h1; cases h1
  · exact absurd ⟨by decide, by decide⟩ h1
theorem wk_3 {w w' : World} {e : Ending} (h : MoveR [47, 111] [47, 111, 112, 116] [47, 111, 47, 120, 0, 121] w e w') : e = .returned (.tuple #[.string ⟨#[]⟩, .slice none 0 0, .int .i64 3]) ∧ Below w.heap.size w w' := by
  obtain ⟨⟨_, _, ⟨o, a, v, h1, h2, h3⟩ | ⟨h1, h2⟩⟩ | ⟨h1, _⟩, hb⟩ := h
  · rw [wk_c] at h1; cases h1
  · exact ⟨h2, hb⟩
  · exact absurd ⟨by decide, by decide⟩ h1

set_option maxRecDepth 100000 in
theorem wakes_any (w : World) : Calls Tryd.prog 9 #[] w fun e w' => e = .returned (.bool true) ∧ Below w.heap.size w w' := by
  go_enter Tryd.func9, Tryd.ntmps9
  go_upto_region 2 with (go_at_call 18; refine (move_any _ _ _ (by simp) (by simp) (by simp) _).mono ?_; rintro e w' h; obtain ⟨v1, rfl, ho1, hb1⟩ := wk_1 h; obtain ⟨a1, c1, rfl⟩ := own_slice ho1; have HO1 := Lib.hid ho1; have HB1 := Lib.hid hb1; clear h ho1 hb1)
  go_upto_region 3 with (go_at_call 18; refine (move_any _ _ _ (by simp) (by simp) (by simp) _).mono ?_; rintro e w2 h; obtain ⟨v2, rfl, ho2, hb2⟩ := wk_2 h; obtain ⟨a2, c2, rfl⟩ := own_slice ho2; have HB2 := Lib.hid hb2; clear h ho2 hb2)
  go_upto_region 4 with (go_at_call 18; refine (move_any _ _ _ (by simp) (by simp) (by simp) _).mono ?_; rintro e w3 h; obtain ⟨rfl, hb3⟩ := wk_3 h; have HB3 := Lib.hid hb3; clear h hb3)
  have HRD : Hid (Rd (w3.alloc (.cells #[.int .i64 4] 3)) (.slice a1 1 c1) (natsV [4])) := Lib.hid (Rd.of_own (owns_on (owns_on (owns_on HO1.out HB2.out) HB3.out) (below_new _ _)))
  have HRE : Hid (Rd (w3.alloc (.cells #[.int .i64 4] 3)) (.slice (some ⟨w3.heap.size, 0, none⟩) 1 1) (natsV [4])) := Lib.hid (rd_one w3 3 _)
  have HEQ := Lib.hid (eqn_any [4] [4] _ _ _ HRD.out HRE.out)
  have HBA : Hid (Below w.heap.size w (w3.alloc (.cells #[.int .i64 4] 3))) := Lib.hid (bch (bch (bch HB1.out HB2.out) HB3.out) (below_new _ _))
  go_wp2_with (first
    | (go_at_call 16; refine HEQ.out.mono ?_; rintro e w5 ⟨rfl, hb5⟩; have HB5 := Lib.hid hb5; clear hb5)
    | (go_at_call 14; refine (bin_any [47, 111, 47, 120, 0, 0, 0, 121] _).mono ?_; rintro e w6 ⟨rfl, rfl⟩))
  go_ret
  exact ⟨rfl, bch HBA.out HB5.out⟩
end Go.Proofs.YtophihnjlodmjaaDoor
