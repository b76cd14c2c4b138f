/- Proved here: slices.Equal at rows of texts, and wakes of puncheonlaw01, which returns true. -/
import Derived.Test.YtjnmlhmlcbbafaaOf
namespace Go.Proofs.Ytjnmlhmlcbbafaa
open Go.RowKit Go.Shelf

def bas (l : List Str) : List ByteArray := l.map fun s => ⟨s.toArray⟩
theorem bas_len (l : List Str) : (bas l).length = l.length := by simp [bas]
theorem bas_inj (l m : List Str) : bas l = bas m ↔ l = m := by
  constructor
  · intro h
    have : (bas l).map (·.data.toList) = (bas m).map (·.data.toList) := by rw [h]
    have id_ : ∀ k : List Str, (bas k).map (·.data.toList) = k := fun k => by
      unfold bas
      rw [List.map_map]; exact (List.map_congr_left (fun _ _ => rfl)).trans (List.map_id k)
    rwa [id_, id_] at this
  · intro h; rw [h]
theorem bas_cell {w : World} {B g n cap : Nat} {l : List Str} (h : w.ownsRow B 9 1 (.slice (some ⟨g, 0, none⟩) n cap) n (l.map encS)) (j : Nat) (hj : j < (bas l).length) :
    w.cell? ⟨g, 0 + j, none⟩ = some (.string ((bas l).getD j ByteArray.empty)) := by
  rw [bas_len] at hj
  have h1 := own_cell h j (encS l[j]) (by rw [List.getElem?_map, List.getElem?_eq_getElem hj]; rfl)
  rw [Nat.zero_add, h1]
  congr 1
  unfold bas
  rw [List.getD_eq_getElem?_getD, List.getElem?_map, List.getElem?_eq_getElem hj]
  rfl

theorem eq_any (l m : List Str) (b1 b2 : Nat) (v1 v2 : Value) (w : World) (h1 : w.ownsRow b1 9 1 v1 l.length (l.map encS)) (h2 : w.ownsRow b2 9 1 v2 m.length (m.map encS)) (hl : l.length ≤ 1000000) (hm : m.length ≤ 1000000) :
    Calls Try.prog 15 #[v1, v2] w fun e w' => e = .returned (.bool (decide (l = m))) ∧ ∃ q, w' = w.drewN q := by
  by_cases hlen : l.length = m.length
  · by_cases h0 : l.length = 0
    · have e1 : l = [] := List.eq_nil_of_length_eq_zero h0
      have e2 : m = [] := List.eq_nil_of_length_eq_zero (by omega)
      subst e1; subst e2
      have key : ∀ a1 c a2 d, Calls Try.prog 15 #[.slice a1 0 c, .slice a2 0 d] w fun e w' => e = .returned (.bool (decide (([] : List Str) = []))) ∧ ∃ q, w' = w.drewN q := fun a1 c a2 d =>
        (Try.slices_Equal_string_empty a1 a2 c 0 d w (by omega)).mono fun _ _ ⟨he, hw⟩ => ⟨he, 0, hw⟩
      obtain ⟨a1, c1, rfl⟩ := own_len h1
      obtain ⟨a2, c2, rfl⟩ := own_len h2
      exact key a1 c1 a2 c2
    · obtain ⟨g1, c1, rfl, _, _⟩ := h1.form (by omega)
      obtain ⟨g2, c2, rfl, _, _⟩ := h2.form (by omega)
      refine (Try.slices_Equal_string g1 0 l.length c1 g2 0 m.length c2 (bas l) (bas m) w (by rw [bas_len]; exact Nat.le_refl _) (by rw [bas_len]; exact Nat.le_refl _) (by omega) (by omega) (bas_cell h1) (bas_cell h2)).mono fun _ _ ⟨he, hw⟩ => ⟨?_, hw⟩
      rw [he]
      refine ret_bool ?_
      rw [List.take_of_length_le (by rw [bas_len]; exact Nat.le_refl _), List.take_of_length_le (by rw [bas_len]; exact Nat.le_refl _)]
      exact decide_eq_decide.2 (bas_inj l m)
  · obtain ⟨a1, c1, rfl⟩ := own_len h1
    obtain ⟨a2, c2, rfl⟩ := own_len h2
    refine (Try.slices_Equal_string_lens a1 a2 l.length c1 m.length c2 w hlen).mono fun _ _ ⟨he, hw⟩ => ⟨?_, 0, hw⟩
    rw [he]
    refine ret_bool (decide_eq_false ?_).symm
    intro e; rw [e] at hlen; exact hlen rfl

theorem wk1 : cleanRes [47, 97, 47, 98] [46, 46, 47, 99, 47, 47, 46, 47, 100] = ([47, 97, 47, 99, 47, 100], 0) := by decide +kernel
theorem wk2 : cleanRes [47] [97, 32, 98] = ([], 110) := by decide +kernel
theorem wk3 : underB [47, 97, 47, 98, 47, 99] [47, 97] = true := by decide +kernel
theorem wk4 : (namesL [47, 97, 47, 98, 47, 99]).drop (namesL [47, 97]).length = [[98], [99]] := by decide +kernel
theorem wk5 : cmpL [47, 97, 47, 98] [47, 97, 45, 98] = -1 := by decide +kernel
theorem wk6 : upL [47, 97, 47, 98] = [47, 97] := by decide +kernel

theorem w_clean1 (w : World) : Calls Try.prog 24 #[.string ⟨#[47, 97, 47, 98]⟩, .string ⟨#[46, 46, 47, 99, 47, 47, 46, 47, 100]⟩] w fun e w' => e = .returned (.tuple #[.string ⟨#[47, 97, 47, 99, 47, 100]⟩, .int .i64 0]) ∧ Below w.heap.size w w' :=
  (clean_any ⟨#[47, 97, 47, 98]⟩ ⟨#[46, 46, 47, 99, 47, 47, 46, 47, 100]⟩ (by simp [ByteArray.size]) w).mono fun _ _ ⟨he, hb⟩ => ⟨by
    rw [he]
    have := wk1
    show Ending.returned (.tuple #[.string ⟨(cleanRes [47, 97, 47, 98] [46, 46, 47, 99, 47, 47, 46, 47, 100]).1.toArray⟩, .int .i64 (cleanRes [47, 97, 47, 98] [46, 46, 47, 99, 47, 47, 46, 47, 100]).2]) = _
    rw [this], hb⟩
theorem w_clean2 (w : World) : Calls Try.prog 24 #[.string ⟨#[47]⟩, .string ⟨#[97, 32, 98]⟩] w fun e w' => e = .returned (.tuple #[.string ⟨#[]⟩, .int .i64 110]) ∧ Below w.heap.size w w' :=
  (clean_any ⟨#[47]⟩ ⟨#[97, 32, 98]⟩ (by simp [ByteArray.size]) w).mono fun _ _ ⟨he, hb⟩ => ⟨by
    rw [he]
    have := wk2
    show Ending.returned (.tuple #[.string ⟨(cleanRes [47] [97, 32, 98]).1.toArray⟩, .int .i64 (cleanRes [47] [97, 32, 98]).2]) = _
    rw [this], hb⟩
theorem w_beneath (w : World) : Calls Try.prog 27 #[.string ⟨#[47, 97, 47, 98, 47, 99]⟩, .string ⟨#[47, 97]⟩] w fun e w' => ∃ v, e = .returned (.tuple #[v, .bool true]) ∧ w'.ownsRow w.heap.size 9 1 v ([[98], [99]] : List Str).length (([[98], [99]] : List Str).map encS) ∧ Below w.heap.size w w' :=
  (beneath_yes ⟨#[47, 97, 47, 98, 47, 99]⟩ ⟨#[47, 97]⟩ (by simp [ByteArray.size]) (by simp [ByteArray.size]) wk3 w).mono fun _ _ ⟨v, he, hv, hb⟩ => ⟨v, he, by
    have hv' : World.ownsRow _ w.heap.size 9 1 v ((namesL [47, 97, 47, 98, 47, 99]).drop (namesL [47, 97]).length).length (((namesL [47, 97, 47, 98, 47, 99]).drop (namesL [47, 97]).length).map encS) := hv
    rw [wk4] at hv'
    exact hv', hb⟩
theorem w_cmp (w : World) : Calls Try.prog 30 #[.string ⟨#[47, 97, 47, 98]⟩, .string ⟨#[47, 97, 45, 98]⟩] w fun e w' => e = .returned (.int .i64 (-1)) ∧ Below w.heap.size w w' :=
  (cmp_any ⟨#[47, 97, 47, 98]⟩ ⟨#[47, 97, 45, 98]⟩ (by simp [ByteArray.size]) (by simp [ByteArray.size]) w).mono fun _ _ ⟨he, hb⟩ => ⟨by rw [he]; exact ret_int wk5, hb⟩
theorem w_up (w : World) : Calls Try.prog 17 #[.string ⟨#[47, 97, 47, 98]⟩] w fun e w' => e = .returned (.string ⟨#[47, 97]⟩) ∧ Below w.heap.size w w' :=
  (up_any ⟨#[47, 97, 47, 98]⟩ (by simp [ByteArray.size]) w).mono fun _ _ ⟨he, hb⟩ => ⟨by
    rw [he]
    show Ending.returned (.string ⟨(upL [47, 97, 47, 98]).toArray⟩) = _
    rw [wk6], hb⟩

set_option maxHeartbeats 2000000 in
theorem wakes_any (w : World) : Calls Try.prog 9 #[] w fun e w' => e = .returned (.bool true) ∧ Below w.heap.size w w' := by
  go_enter Try.func9, Try.ntmps9
  go_wp2_with fail
  refine (w_clean1 _).mono ?_
  rintro e w1 ⟨rfl, hb1⟩
  go_wp2_with fail
  refine (w_clean2 _).mono ?_
  rintro e w2 ⟨rfl, hb2⟩
  go_wp2_with fail
  refine (w_beneath _).mono ?_
  rintro e w3 ⟨v, rfl, hv, hb3⟩
  obtain ⟨a0, cap, rfl⟩ := own_len hv
  go_wp2_with fail
  have h2 : (w3.alloc (.cells #[.string ⟨#[98]⟩, .string ⟨#[99]⟩] 9)).ownsRow 0 9 1 (.slice (some ⟨w3.heap.size, 0, none⟩) 2 2) ([[98], [99]] : List Str).length (([[98], [99]] : List Str).map encS) :=
    World.ownsRow_lit (base := 0) (e := 9) (size := 1) w3 #[.string ⟨#[98]⟩, .string ⟨#[99]⟩] 2 (Nat.zero_le _) (by unfold maxLen; omega) rfl
  refine (eq_any [[98], [99]] [[98], [99]] _ 0 _ _ _ (hv.alloc _) h2 (by simp) (by simp)).mono ?_
  rintro e w4 ⟨rfl, q, rfl⟩
  have HB := Lib.hid (below_drewN ((((hb1.trans (hb2.mono hb1.size)).trans (hb3.mono (Nat.le_trans hb1.size hb2.size)))).alloc (Nat.le_trans hb1.size (Nat.le_trans hb2.size hb3.size)) (.cells #[.string ⟨#[98]⟩, .string ⟨#[99]⟩] 9)) q)
  have HS := Lib.hid (HB.out.size)
  clear h2 hv hb1 hb2 hb3
  rw [decide_eq_true rfl]
  go_wp2_with fail
  refine (w_cmp _).mono ?_
  rintro e w5 ⟨rfl, hb5⟩
  go_wp2_with fail
  refine (w_up _).mono ?_
  rintro e w6 ⟨rfl, hb6⟩
  go_wp2_with fail
  go_ret
  have hb7 := HB.out.trans (hb5.mono HS.out)
  exact ⟨rfl, hb7.trans (hb6.mono hb7.size)⟩
end Go.Proofs.Ytjnmlhmlcbbafaa
