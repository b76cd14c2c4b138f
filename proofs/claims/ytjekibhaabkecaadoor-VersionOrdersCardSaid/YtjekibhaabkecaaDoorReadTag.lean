/- Proved here: readTag of package version. -/
import Derived.Test.YtjekibhaabkecaaDoorCut
namespace Go.Proofs.YtjekibhaabkecaaDoor
open Go.RowKit Go.Shelf

/-- What readTag hands back: the tag, the step, and whether they are such. -/
def tagR (l : Str) : Str × Nat × Bool :=
  if tagB (l.takeWhile lowB) = true then
    (if l.dropWhile lowB = [] then (l.takeWhile lowB, 0, true) else (l.takeWhile lowB, (numR (l.dropWhile lowB) 999).1, (numR (l.dropWhile lowB) 999).2 && decide ((numR (l.dropWhile lowB) 999).1 ≠ 0)))
  else ([], 0, false)
theorem ret_tag {t : Str} {n : Nat} {b : Bool} {s : ByteArray} {r : Str × Nat × Bool} (hs : s.data.toList = t) (h : r = (t, n, b)) : Ending.returned (.tuple #[.string s, .int .i64 (n : Int), .bool b]) = .returned (.tuple #[.string ⟨r.1.toArray⟩, .int .i64 (r.2.1 : Int), .bool r.2.2]) := by
  rw [h, ba_eq s t hs]

set_option maxRecDepth 100000 in
set_option maxHeartbeats 2000000 in
theorem readTag_any (s : ByteArray) (w : World) : Calls Tryd.prog 38 #[.string s] w fun e w' => e = .returned (.tuple #[.string ⟨(tagR s.data.toList).1.toArray⟩, .int .i64 ((tagR s.data.toList).2.1 : Int), .bool (tagR s.data.toList).2.2]) ∧ Below w.heap.size w w' := by
  go_enter Tryd.func38, Tryd.ntmps38
  go_wp2_with fail
  refine (letters_any s w).mono ?_
  rintro e w1 ⟨a, b, rfl, ha, hb, hB1⟩
  have HA := Lib.hid ha
  have HB := Lib.hid hb
  have H1 := Lib.hid hB1
  clear ha hb hB1
  go_wp2_with fail
  refine (vtag_any a w1).mono ?_
  rintro e w2 ⟨rfl, hb2⟩
  have H2 := Lib.hid (bch H1.out hb2)
  obtain ⟨tb, htb⟩ : ∃ tb, tb = tagB a.data.toList := ⟨_, rfl⟩
  rw [← htb]
  have HTB : Hid (tb = tagB (s.data.toList.takeWhile lowB)) := Lib.hid (by rw [htb, HA.out])
  clear htb hb2
  cases tb with
  | false =>
    have HR : Hid (tagR s.data.toList = ([], 0, false)) := Lib.hid (if_neg (by rw [← HTB.out]; decide))
    go_wp2_with fail
    go_ret3
    exact ⟨ret_tag (s := ⟨#[]⟩) rfl HR.out, H2.out⟩
  | true =>
    by_cases hd : b.toList = []
    · have f1 := isEmpty_yes hd
      have HR : Hid (tagR s.data.toList = (s.data.toList.takeWhile lowB, 0, true)) := Lib.hid (by
        unfold tagR
        rw [if_pos HTB.out.symm, if_pos (by rw [← HB.out, ← Lib.toList_data]; exact hd)])
      clear hd
      go_wp2_with fail
      go_ret3
      exact ⟨ret_tag HA.out HR.out, H2.out⟩
    · have f1 := isEmpty_no hd
      have HR : Hid (tagR s.data.toList = (s.data.toList.takeWhile lowB, (numR b.data.toList 999).1, (numR b.data.toList 999).2 && decide ((numR b.data.toList 999).1 ≠ 0))) := Lib.hid (by
        unfold tagR
        rw [if_pos HTB.out.symm, if_neg (by rw [← HB.out, ← Lib.toList_data]; exact hd), HB.out])
      clear hd
      go_wp2_with fail
      refine (number_any b 999 (by omega) w2).mono ?_
      rintro e w3 ⟨rfl, hb3⟩
      have H3 := Lib.hid (bch H2.out hb3)
      generalize numR b.data.toList 999 = p at HR
      obtain ⟨n, ok⟩ := p
      dsimp only at HR ⊢
      clear hb3
      cases ok with
      | false =>
        go_wp2_with fail
        go_ret3
        exact ⟨ret_tag HA.out HR.out, H3.out⟩
      | true =>
        by_cases h0 : n = 0
        · have z1 : ((n : Int) != 0) = false := by simp [h0]
          have HR2 : Hid (tagR s.data.toList = (s.data.toList.takeWhile lowB, n, false)) := Lib.hid (by rw [HR.out]; simp [h0])
          clear h0
          go_wp2_with fail
          go_ret3
          exact ⟨ret_tag HA.out HR2.out, H3.out⟩
        · have z1 : ((n : Int) != 0) = true := by simp [h0]
          have HR2 : Hid (tagR s.data.toList = (s.data.toList.takeWhile lowB, n, true)) := Lib.hid (by rw [HR.out]; simp [h0])
          clear h0
          go_wp2_with fail
          go_ret3
          exact ⟨ret_tag HA.out HR2.out, H3.out⟩
end Go.Proofs.YtjekibhaabkecaaDoor
