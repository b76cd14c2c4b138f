/- Proved here: cutLast, Up, Base and behind of package path for every text. -/
import Derived.Test.YtgmplpfbhcdofaaGreatPPath2
namespace Go.Proofs.YtgmplpfbhcdofaaGreat.Pt
open Go.RowKit Go.Shelf

theorem tup2 {a a' b b' : ByteArray} (h1 : a = a') (h2 : b = b') : Ending.returned (.tuple #[.string a, .string b]) = .returned (.tuple #[.string a', .string b']) := by rw [h1, h2]
theorem ext_to (p : ByteArray) (k : Nat) : (p.extract 0 k).data.toList = p.data.toList.take k := by rw [Lib.extract_data, List.drop_zero]; rfl

theorem cutlast_any (p : ByteArray) (hp : p.size ≤ 140737488355328) (w : World) :
    Calls Tryz.prog 156 #[.string p] w fun e w' => e = .returned (.tuple #[.string ⟨(upL p.data.toList).toArray⟩, .string ⟨(baseL p.data.toList).toArray⟩]) ∧ Below w.heap.size w w' := by
  by_cases hv : validB p.data.toList = true
  · by_cases hr : p.data.toList = [47]
    · have hk := last_of p [] [] hr (by simp)
      rw [hr, up_root, base_root]
      refine (cutlast_zero p hp hv hk w).mono fun _ _ ⟨he, hb⟩ => ⟨?_, hb⟩
      rw [he]
      exact tup2 (ba_eq _ _ (by rw [ext_to, hr]; rfl)) (ba_eq _ _ (by rw [drop1, hr]; rfl))
    · obtain ⟨li, x, hn, hpe, hx, hli, hx47⟩ := valid_last _ hv hr
      have hk := last_of p (flat li) x hpe hx47
      have hsz : p.size = (flat li).length + (x.length + 1) := by
        have : p.data.toList.length = p.size := rfl
        rw [← this, hpe]; simp
      rw [up_last _ _ li x hv hn rfl, base_last _ li x hv hn]
      have hdr : p.data.toList.drop ((flat li).length + 1) = x := by
        rw [hpe, ← List.drop_drop, List.drop_left]; rfl
      by_cases hl : li = []
      · subst hl
        rw [if_pos rfl]
        refine (cutlast_zero p hp hv hk w).mono fun _ _ ⟨he, hb⟩ => ⟨?_, hb⟩
        rw [he]
        refine tup2 (ba_eq _ _ ?_) (ba_eq _ _ ?_)
        · rw [ext_to, hpe]; rfl
        · rw [drop1]; exact hdr
      · rw [if_neg hl]
        have h1 : 1 ≤ (flat li).length := by
          have : (flat li).length ≠ 0 := fun e => hl ((flat_zero li).1 e)
          omega
        refine (cutlast_pos p hp hv (flat li).length h1 (by omega) hk w).mono fun _ _ ⟨he, hb⟩ => ⟨?_, hb⟩
        rw [he]
        refine tup2 (ba_eq _ _ ?_) (ba_eq _ _ ?_)
        · rw [ext_to, hpe, List.take_left]
        · rw [Lib.extract_to_end]; exact hdr
  · have hv' : validB p.data.toList = false := Bool.eq_false_iff.2 hv
    rw [up_bad _ hv', base_bad _ hv']
    exact cutlast_no p hp hv' w

set_option maxHeartbeats 400000 in
theorem up_any (p : ByteArray) (hp : p.size ≤ 140737488355328) (w : World) : Calls Tryz.prog 139 #[.string p] w fun e w' => e = .returned (.string ⟨(upL p.data.toList).toArray⟩) ∧ Below w.heap.size w w' := by
  go_enter Tryz.func139, Tryz.ntmps139
  go_wp2_with (go_at_call 156; refine (cutlast_any p hp _).mono ?_; rintro e w' ⟨rfl, hb⟩)
  go_ret
  exact ⟨rfl, hb⟩

def BehindNo (w : World) (e : Ending) (w' : World) : Prop := e = .returned (.tuple #[.string ⟨#[]⟩, .bool false]) ∧ Below w.heap.size w w'

def BehindYes (p d : Str) (w : World) (e : Ending) (w' : World) : Prop := ∃ t : Str, e = .returned (.tuple #[.string ⟨t.toArray⟩, .bool true]) ∧ splitL t = (namesL p).drop (namesL d).length ∧ t.length ≤ p.length ∧ Below w.heap.size w w'

theorem underB_no1 (p d : Str) (h : validB p = false) : underB p d = false := by simp [underB, h]
theorem underB_no2 (p d : Str) (h : validB d = false) : underB p d = false := by simp [underB, h]
theorem underB_is (p d : Str) (hp : validB p = true) (hd : validB d = true) : underB p d = true ↔ namesL d <+: namesL p := by
  simp [underB, hp, hd, List.isPrefixOf_iff_prefix]
end Go.Proofs.YtgmplpfbhcdofaaGreat.Pt
