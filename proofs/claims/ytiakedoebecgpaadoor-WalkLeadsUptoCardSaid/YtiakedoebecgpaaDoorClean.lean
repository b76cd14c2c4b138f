/- Proved here: Clean of package path for every two texts. -/
import Derived.Test.YtiakedoebecgpaaDoorFollow
namespace Go.Proofs.YtiakedoebecgpaaDoor
open Go.RowKit Go.Shelf

def cleanRes (a s : Str) : Str × Int :=
  if validB a = false then ([], 110) else if 2000 < s.length then ([], 3) else
    match cleanL a s with
    | none => ([], 110)
    | some l => (joinL l, 0)

theorem hasp_is (s : ByteArray) (b : Bool) (h : decide (s.data.toList.head? = some 47) = b) (w : World) : Calls Tryd.prog 56 #[.string s, .string ⟨#[47]⟩] w fun e w' => e = .returned (.bool b) ∧ w = w' :=
  (Tryd.strings_HasPrefix s ⟨#[47]⟩ w).mono fun _ _ ⟨he, hw⟩ => ⟨by
    rw [he]
    refine ret_bool ?_
    rw [← h]
    show Lib.hasPrefix s.data.toList [47] = _
    cases e : s.data.toList with
    | nil => rfl
    | cons c r =>
      simp only [Lib.hasPrefix, List.isPrefixOf, List.head?_cons, Option.some.injEq, Bool.and_true]
      by_cases hc : c = 47
      · simp [hc]
      · simp [hc]; exact fun e => hc e.symm, hw.symm⟩

set_option maxHeartbeats 1000000 in
theorem clean_bad (a s : ByteArray) (ha : a.size ≤ 140737488355328) (hv : validB a.data.toList = false) (w : World) :
    Calls Tryd.prog 29 #[.string a, .string s] w fun e w' => e = .returned (.tuple #[.string ⟨#[]⟩, .int .i64 110]) ∧ Below w.heap.size w w' := by
  have HB := Lib.hid hv
  clear hv
  go_enter Tryd.func29, Tryd.ntmps29
  go_wp2_with (go_at_call 55; refine (names_no a ha HB.out _).mono ?_; rintro e w' ⟨rfl, hb⟩)
  go_ret2
  exact ⟨rfl, hb⟩

set_option maxHeartbeats 1000000 in
theorem clean_long (a s : ByteArray) (ha : a.size ≤ 140737488355328) (hv : validB a.data.toList = true) (hl : 2000 < s.size) (w : World) :
    Calls Tryd.prog 29 #[.string a, .string s] w fun e w' => e = .returned (.tuple #[.string ⟨#[]⟩, .int .i64 3]) ∧ Below w.heap.size w w' := by
  have HB := Lib.hid hv
  have hl' : (2000 : Int) < (s.size : Int) := by omega
  clear hv hl
  go_enter Tryd.func29, Tryd.ntmps29
  go_wp2_with (go_at_call 55; refine (names_yes a ha HB.out _).mono ?_; rintro e w' ⟨v, rfl, hv, hb⟩; obtain ⟨a0, cap, rfl⟩ := own_len hv)
  go_ret2
  exact ⟨rfl, hb⟩

def CleanPost (o : Option (List Str)) (w : World) (e : Ending) (w' : World) : Prop :=
  (match o with
    | none => e = .returned (.tuple #[.string ⟨#[]⟩, .int .i64 110])
    | some l => e = .returned (.tuple #[.string ⟨(joinL l).toArray⟩, .int .i64 0])) ∧ Below w.heap.size w w'

theorem cp_some {o : Option (List Str)} {w w' : World} {e : Ending} {l : List Str} (h : o = some l) (he : e = .returned (.tuple #[.string ⟨(joinL l).toArray⟩, .int .i64 0])) (hb : Below w.heap.size w w') : CleanPost o w e w' := by
  subst h; exact ⟨he, hb⟩
theorem cp_none {o : Option (List Str)} {w w' : World} {e : Ending} (h : o = none) (he : e = .returned (.tuple #[.string ⟨#[]⟩, .int .i64 110])) (hb : Below w.heap.size w w') : CleanPost o w e w' := by
  subst h; exact ⟨he, hb⟩
theorem way_new (w w1 : World) (l : List Str) (v : Value) (hv : w1.ownsRow w.heap.size 9 1 v l.length (l.map encS)) :
    Way (w1.alloc (.cells #[v] 102)) w.heap.size w1.heap.size l := ⟨v, Boxed.new _ _ _, hv.alloc _⟩

set_option maxHeartbeats 2000000 in
theorem clean_rel (a s : ByteArray) (ha : a.size ≤ 140737488355328) (hs : s.size ≤ 2000) (hv : validB a.data.toList = true) (hh : decide (s.data.toList.head? = some 47) = false) (w : World) :
    Calls Tryd.prog 29 #[.string a, .string s] w (CleanPost (cleanL a.data.toList s.data.toList) w) := by
  have HB := Lib.hid hv
  have HH := Lib.hid hh
  have hl' : (s.size : Int) ≤ 2000 := by omega
  have HP := Lib.hid (valid_join _ hv).2
  have HC := Lib.hid (show cleanL a.data.toList s.data.toList = goW (namesL a.data.toList) (cutP s.data.toList) by rw [cleanL, if_neg (of_decide_eq_false hh)])
  rw [HC.out]
  clear hv hh
  go_enter Tryd.func29, Tryd.ntmps29
  go_wp2_with (first | (go_at_call 55; refine (names_yes a ha HB.out _).mono ?_; rintro e w1 ⟨v, rfl, hv, hb⟩; obtain ⟨a0, cap, rfl⟩ := own_len hv) | (go_at_call 56; refine (hasp_is s _ HH.out _).mono ?_; rintro e w' ⟨rfl, rfl⟩))
  have HW := Lib.hid (way_new w w1 _ _ hv)
  refine (follow_any w.heap.size w1.heap.size s _ (by omega) _ HW.out hb.size (by simp; have := hb.size; omega) HP.out).mono ?_
  rintro e w2 (⟨l, rfl, hg, hp, ⟨v', hv', hr'⟩, hb2⟩ | ⟨rfl, hg, hb2⟩)
  · have HG := Lib.hid hg
    have hc := hv'.cell
    have HR := Lib.hid hr'
    obtain ⟨a1, cap1, rfl⟩ := own_len hr'
    have HL := Lib.hid (join_len l hp)
    have HN := Lib.hid ((parts_iff _).1 hp).1
    have HBB := Lib.hid ((hb.alloc hb.size _).trans hb2)
    clear hg hr' hv' hp hv hb2
    go_wp2_with (go_at_call 60; refine (join_any l w.heap.size _ _ HR.out (Nat.le_trans HN.out (by omega)) (Nat.le_trans HL.out (by omega))).mono ?_; rintro e w3 ⟨rfl, hb3⟩)
    go_ret2
    exact cp_some HG.out rfl (HBB.out.trans (hb3.mono HBB.out.size))
  · have HG := Lib.hid hg
    have HBB := Lib.hid ((hb.alloc hb.size _).trans hb2)
    clear hg hv hb2
    go_wp2
    go_ret2
    exact cp_none HG.out rfl HBB.out

set_option maxHeartbeats 2000000 in
theorem clean_abs (a s : ByteArray) (ha : a.size ≤ 140737488355328) (hs : s.size ≤ 2000) (hv : validB a.data.toList = true) (hh : decide (s.data.toList.head? = some 47) = true) (w : World) :
    Calls Tryd.prog 29 #[.string a, .string s] w (CleanPost (cleanL a.data.toList s.data.toList) w) := by
  have HB := Lib.hid hv
  have HH := Lib.hid hh
  have hl' : (s.size : Int) ≤ 2000 := by omega
  have HC := Lib.hid (show cleanL a.data.toList s.data.toList = goW [] (cutP s.data.toList) by rw [cleanL, if_pos (of_decide_eq_true hh)])
  rw [HC.out]
  clear hv hh
  go_enter Tryd.func29, Tryd.ntmps29
  go_wp2_with (first | (go_at_call 55; refine (names_yes a ha HB.out _).mono ?_; rintro e w1 ⟨v, rfl, hv, hb⟩; obtain ⟨a0, cap, rfl⟩ := own_len hv) | (go_at_call 56; refine (hasp_is s _ HH.out _).mono ?_; rintro e w' ⟨rfl, rfl⟩))
  have HW := Lib.hid (way_new w w1 [] (.slice none 0 0) (World.ownsRow_nil _ _ _ _))
  refine (follow_any w.heap.size w1.heap.size s _ (by omega) _ HW.out hb.size (by simp; have := hb.size; omega) rfl).mono ?_
  rintro e w2 (⟨l, rfl, hg, hp, ⟨v', hv', hr'⟩, hb2⟩ | ⟨rfl, hg, hb2⟩)
  · have HG := Lib.hid hg
    have hc := hv'.cell
    have HR := Lib.hid hr'
    obtain ⟨a1, cap1, rfl⟩ := own_len hr'
    have HL := Lib.hid (join_len l hp)
    have HN := Lib.hid ((parts_iff _).1 hp).1
    have HBB := Lib.hid ((hb.alloc hb.size _).trans hb2)
    clear hg hr' hv' hp hv hb2
    go_wp2_with (go_at_call 60; refine (join_any l w.heap.size _ _ HR.out (Nat.le_trans HN.out (by omega)) (Nat.le_trans HL.out (by omega))).mono ?_; rintro e w3 ⟨rfl, hb3⟩)
    go_ret2
    exact cp_some HG.out rfl (HBB.out.trans (hb3.mono HBB.out.size))
  · have HG := Lib.hid hg
    have HBB := Lib.hid ((hb.alloc hb.size _).trans hb2)
    clear hg hv hb2
    go_wp2
    go_ret2
    exact cp_none HG.out rfl HBB.out

theorem clean_any (a s : ByteArray) (ha : a.size ≤ 140737488355328) (w : World) :
    Calls Tryd.prog 29 #[.string a, .string s] w fun e w' => e = .returned (.tuple #[.string ⟨(cleanRes a.data.toList s.data.toList).1.toArray⟩, .int .i64 (cleanRes a.data.toList s.data.toList).2]) ∧ Below w.heap.size w w' := by
  have hsl : s.data.toList.length = s.size := rfl
  by_cases hv : validB a.data.toList = true
  · by_cases hl : 2000 < s.size
    · have e : cleanRes a.data.toList s.data.toList = ([], 3) := by
        rw [cleanRes, if_neg (by simp [hv]), if_pos (by omega)]
      rw [e]
      exact clean_long a s ha hv hl w
    · have e : cleanRes a.data.toList s.data.toList = match cleanL a.data.toList s.data.toList with | none => ([], 110) | some l => (joinL l, 0) := by
        rw [cleanRes, if_neg (by simp [hv]), if_neg (by omega)]
      have H : Calls Tryd.prog 29 #[.string a, .string s] w (CleanPost (cleanL a.data.toList s.data.toList) w) := by
        by_cases hh : s.data.toList.head? = some 47
        · exact clean_abs a s ha (by omega) hv (decide_eq_true hh) w
        · exact clean_rel a s ha (by omega) hv (decide_eq_false hh) w
      rw [e]
      refine H.mono ?_
      cases cleanL a.data.toList s.data.toList with
      | none => exact fun _ _ h => h
      | some l => exact fun _ _ h => h
  · have hv' : validB a.data.toList = false := Bool.eq_false_iff.2 hv
    have e : cleanRes a.data.toList s.data.toList = ([], 110) := by
      rw [cleanRes, if_pos hv']
    rw [e]
    exact clean_bad a s ha hv' w
end Go.Proofs.YtiakedoebecgpaaDoor
