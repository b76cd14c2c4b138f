/- Proved here: validData, leave, valid and Check of package tree, check of package walk. -/
import Derived.Test.YtiakedoebecgpaaDoorWRow
namespace Go.Proofs.YtiakedoebecgpaaDoor
open Go.RowKit Go.Shelf

set_option maxRecDepth 100000 in
set_option maxHeartbeats 1000000 in
theorem vdata_any (x : It) (w : World) : Calls Tryd.prog 65 #[.agg x.arr] w fun e w' => e = .returned (.bool x.dataB) ∧ Below w.heap.size w w' := by
  obtain ⟨n, hn⟩ : ∃ n, n = x.data.length := ⟨_, rfl⟩
  obtain ⟨d, hd⟩ : ∃ d : ByteArray, d = ⟨x.data.toArray⟩ := ⟨_, rfl⟩
  have hdn : d.size = n := by rw [hd, hn]; rfl
  have harr : x.arr = #[.string ⟨x.path.toArray⟩, .int .i64 x.kind, .string d] := by rw [hd]; rfl
  obtain ⟨k, hk⟩ : ∃ k, k = x.kind := ⟨_, rfl⟩
  have hB : x.dataB = if k = 1 then decide (n = 0) else if k = 2 then decide (n ≤ 524288) else if k = 3 then decide (1 ≤ n ∧ n ≤ 2000) else false := by rw [hk, hn]; rfl
  rw [harr, hB, ← hk]
  have X : Box (w.alloc (.cells #[.string ⟨x.path.toArray⟩, .int .i64 k, .string d] 35)) w.heap.size 35 #[.string ⟨x.path.toArray⟩, .int .i64 k, .string d] := box_new
  have c1 : (w.alloc (.cells #[.string ⟨x.path.toArray⟩, .int .i64 k, .string d] 35)).cell? ⟨w.heap.size, 1, none⟩ = some (.int .i64 k) := X.cell rfl
  have c2 : (w.alloc (.cells #[.string ⟨x.path.toArray⟩, .int .i64 k, .string d] 35)).cell? ⟨w.heap.size, 2, none⟩ = some (.string d) := X.cell rfl
  have HB := Lib.hid (below_new w (.cells #[.string ⟨x.path.toArray⟩, .int .i64 k, .string d] 35))
  have HN := Lib.hid hdn
  clear X hB harr hk hd hn hdn
  by_cases k1 : k = 1
  · subst k1
    go_enter Tryd.func65, Tryd.ntmps65
    go_wp2_with fail
    go_ret
    exact ⟨retb (by rw [HN.out]; show decide _ = decide _; exact decide_eq_decide.2 (by omega)), HB.out⟩
  · have e1 : (k == 1) = false := by simp [k1]
    by_cases k2 : k = 2
    · subst k2
      clear e1
      go_enter Tryd.func65, Tryd.ntmps65
      go_wp2_with fail
      go_ret
      exact ⟨retb (by first | (rw [HN.out]; done) | (have := HN.out; simp <;> omega)), HB.out⟩
    · have e2 : (k == 2) = false := by simp [k2]
      by_cases k3 : k = 3
      · subst k3
        clear e1 e2
        by_cases h1 : 1 ≤ d.size
        · have d1 : decide ((1 : Int) ≤ (d.size : Int)) = true := decide_eq_true (by omega)
          go_enter Tryd.func65, Tryd.ntmps65
          go_wp2_with fail
          go_ret
          exact ⟨retb (by rw [← HN.out]; simp [h1] <;> omega), HB.out⟩
        · have d1 : decide ((1 : Int) ≤ (d.size : Int)) = false := decide_eq_false (by omega)
          go_enter Tryd.func65, Tryd.ntmps65
          go_wp2_with fail
          go_ret
          exact ⟨retb (by rw [← HN.out]; first | rfl | (simp [h1] <;> omega)), HB.out⟩
      · have e3 : (k == 3) = false := by simp [k3]
        go_enter Tryd.func65, Tryd.ntmps65
        go_wp2_with fail
        go_ret
        exact ⟨retb (by first | rfl | simp), HB.out⟩

/-! ### Levels -/
def lvCells (e : Lv) : List Value := [.string ⟨e.1.toArray⟩, .string ⟨e.2.toArray⟩]
def flatL (l : List Lv) : List Value := l.flatMap lvCells
theorem flatL_cons (v : Lv) (l : List Lv) : flatL (v :: l) = lvCells v ++ flatL l := rfl
theorem flatL_append (a b : List Lv) : flatL (a ++ b) = flatL a ++ flatL b := List.flatMap_append
theorem flatL_len (l : List Lv) : (flatL l).length = l.length * 2 := by
  induction l with
  | nil => rfl
  | cons v l ih => rw [flatL_cons, List.length_append, ih, List.length_cons]; show 2 + _ = _; omega
theorem flatL_last (l : List Lv) (e : Lv) (r : Nat) (hr : r < 2) : (flatL (l ++ [e]))[l.length * 2 + r]? = (lvCells e)[r]? := by
  rw [flatL_append, List.getElem?_append_right (by rw [flatL_len]; omega), flatL_len, Nat.add_sub_cancel_left]
  show (lvCells e ++ [])[r]? = _
  rw [List.append_nil]
theorem flatL_one (l : List Lv) : ∀ u ∈ flatL l, u.oneCell' = true := by
  intro u hu
  obtain ⟨v, _, hv⟩ := List.mem_flatMap.1 hu
  simp [lvCells] at hv
  rcases hv with rfl | rfl <;> rfl
/-- The open levels, in memory of the call's own; the topmost stands last. -/
def OwnL (w : World) (B : Nat) (v : Value) (st : List Lv) : Prop := w.ownsRow B 109 2 v st.length (flatL st.reverse)
theorem OwnL.pop {w : World} {B : Nat} {a : Option Addr} {c : Nat} {s1 s2 : List Lv} (h : OwnL w B (.slice a (s1 ++ s2).length c) (s1 ++ s2)) : OwnL w B (.slice a s2.length c) s2 := by
  obtain ⟨h1, h2⟩ := h
  refine ⟨by rw [flatL_len, List.length_reverse], ?_⟩
  rcases h2 with ⟨h2, h3⟩ | ⟨g, cap, cur, hv, hg, hh, hn, hcap, hcs, htake⟩
  · left
    have : s2.length = 0 := by rw [List.length_append] at h3; omega
    injection h2 with e1 e2 e3
    exact ⟨by rw [e1, e3, this], this⟩
  · right
    injection hv with e1 e2 e3
    subst e1 e3
    refine ⟨g, c, cur, rfl, hg, hh, by rw [List.length_append] at hn; omega, hcap, hcs, ?_⟩
    have : cur.toList.take (s2.length * 2) = (cur.toList.take ((s1 ++ s2).length * 2)).take (s2.length * 2) := by
      rw [List.take_take, Nat.min_eq_left (by rw [List.length_append]; omega)]
    rw [this, htake, List.reverse_append, flatL_append, List.take_append_of_le_length (by rw [flatL_len, List.length_reverse]; omega), List.take_of_length_le (by rw [flatL_len, List.length_reverse]; omega)]
theorem OwnL.form {w : World} {B : Nat} {v : Value} {e : Lv} {r : List Lv} (h : OwnL w B v (e :: r)) : ∃ g c, v = .slice (some ⟨g, 0, none⟩) (r.length + 1) c ∧ B ≤ g ∧ g < w.heap.size ∧ r.length + 1 ≤ c ∧ c ≤ maxLen ∧
    w.cell? ⟨g, r.length * 2, none⟩ = some (.string ⟨e.1.toArray⟩) ∧ w.cell? ⟨g, r.length * 2 + 1, none⟩ = some (.string ⟨e.2.toArray⟩) ∧ w.frozen? ⟨g, r.length * 2 + 1, none⟩ = false := by
  have h' := h
  rcases h.2 with ⟨_, h3⟩ | ⟨g, cap, cur, rfl, hg, hh, hn, hcap, hcs, htake⟩
  · cases h3
  · have hc : ∀ r' u, r' < 2 → (lvCells e)[r']? = some u → w.cell? ⟨g, r.length * 2 + r', none⟩ = some u := fun r' u hr hu => by
      have k := World.ownsRow.cellAt (g := g) (cap := cap) h' (r.length * 2 + r') (by rw [List.length_cons]; omega)
      rw [k, List.reverse_cons]
      have := flatL_last r.reverse e r' hr
      rw [List.length_reverse] at this
      rw [this]; exact hu
    exact ⟨g, cap, rfl, hg, (h'.lt g rfl).2, hn, hcap, hc 0 _ (by omega) rfl, hc 1 _ (by omega) rfl, World.ownsRow.frozenAt (g := g) (cap := cap) h' _⟩
theorem OwnL.nil_form {w : World} {B : Nat} {v : Value} {st : List Lv} (h : OwnL w B v st) : ∃ a c, v = .slice a st.length c ∧ st.length ≤ c ∧ c ≤ maxLen := by
  rcases h.2 with ⟨h2, h3⟩ | ⟨g, cap, cur, rfl, hg, hh, hn, hcap, hcs, htake⟩
  · exact ⟨none, 0, by rw [h2, h3], by omega, Nat.zero_le _⟩
  · exact ⟨_, cap, rfl, hn, hcap⟩

set_option maxRecDepth 100000 in
set_option maxHeartbeats 1000000 in
theorem leave_any (st : List Lv) (a : Option Addr) (c : Nat) (d : Str) (B : Nat) (w : World) (h : OwnL w B (.slice a st.length c) st) : Calls Tryd.prog 64 #[.slice a st.length c, .string ⟨d.toArray⟩] w fun e w' => e = .returned (.slice a (leaveL st d).length c) ∧ w = w' := by
  have H := Lib.hid h
  clear h
  go_enter Tryd.func64, Tryd.ntmps64
  go_wp2_with fail
  go_loop [0, 5, 6, 7, 8, 9, 10, 11, 12, 13, 14, 15, 16, 17, 18, 19, 20, 21, 22, 23] (fun s _ _ _ _ _ _ _ _ _ _ _ _ _ _ _ _ _ _ _ => ∃ s1 s2 : List Lv, Hid (st = s1 ++ s2) ∧ Hid (leaveL st d = leaveL s2 d) ∧ s = .slice a s2.length c) (fun s _ _ _ _ _ _ _ _ _ _ _ _ _ _ _ _ _ _ _ => match s with | .slice _ n _ => n | _ => 0)
  case atStart => exact ⟨[], st, Lib.hid rfl, Lib.hid rfl, rfl⟩
  case round =>
    obtain ⟨s1, s2, HS, HL, rfl⟩ := hrel
    have HO : Hid (OwnL w B (.slice a s2.length c) s2) := Lib.hid (OwnL.pop (s1 := s1) (by rw [← HS.out]; exact H.out))
    cases s2 with
    | nil =>
      have e0 : Hid (leaveL st d = []) := Lib.hid HL.out
      clear HO
      go_wp2_with fail
      go_ret
      exact ⟨by rw [e0.out]; rfl, rfl⟩
    | cons e r =>
      obtain ⟨g, c', hv, hgB, hg, hrc, hcm, c0, c1, _⟩ := HO.out.form
      obtain ⟨k, hk⟩ : ∃ k, k = r.length := ⟨_, rfl⟩
      have HK := Lib.hid hk
      rw [List.length_cons] at hv ⊢
      rw [← hk] at hv hrc c0 c1 ⊢
      cases hv
      unfold maxLen at hcm
      clear hk HO c1
      have k1 : IntKind.i64.wrap ((k : Int) + 1 - 1) = (k : Int) := by rw [show (k : Int) + 1 - 1 = (k : Int) by omega]; exact IntWalk.i64_in _ (by omega)
      by_cases hd : e.1 = d
      · have n1 : (e.1 == d) = true := by simp [hd]
        have e0 : Hid (leaveL st d = e :: r) := Lib.hid (by rw [HL.out]; unfold leaveL; rw [List.dropWhile_cons, if_neg (by simp [hd])])
        clear hd
        go_wp2_with fail
        go_ret
        exact ⟨by rw [e0.out, List.length_cons, HK.out]; rfl, rfl⟩
      · have n1 : (e.1 == d) = false := by simp [hd]
        have e0 : Hid (leaveL st d = leaveL r d) := Lib.hid (by rw [HL.out]; unfold leaveL; rw [List.dropWhile_cons, if_pos (by simp [hd])])
        clear hd
        go_wp2_with fail
        go_round
        case rel => exact ⟨s1 ++ [e], r, Lib.hid (by rw [HS.out]; simp), e0, by rw [← HK.out]⟩
        case measure => simp
end Go.Proofs.YtiakedoebecgpaaDoor
