/- Proved here: cutLetters and validTag of package version. -/
import Derived.Test.YtjekibhaabkecaaDoorRows
import Derived.Test.YtjekibhaabkecaaDoorMath
import Derived.WalkKit
import Derived.Lib.Hide
import Derived.WalkSpells
import Derived.WalkLawsBesides
import Derived.Lib.IndexBytes
import Derived.Deep.QuietTactic
import Derived.BigQuiet
namespace Go.Proofs.YtjekibhaabkecaaDoor
open Go.RowKit Go.Shelf

def LetR (s : ByteArray) (w : World) (e : Ending) (w' : World) : Prop := ∃ a b : ByteArray, e = .returned (.tuple #[.string a, .string b]) ∧ a.data.toList = s.data.toList.takeWhile lowB ∧ b.data.toList = s.data.toList.dropWhile lowB ∧ Below w.heap.size w w'

theorem below_drewN {B : Nat} {a w : World} (h : Below B a w) (n : Nat) : Below B a (w.drewN n) := ⟨h.os, h.tape, h.output, h.size, h.block⟩
theorem bch {w w1 w2 : World} (h : Below w.heap.size w w1) (h2 : Below w1.heap.size w1 w2) : Below w.heap.size w w2 := h.trans (h2.mono h.size)
theorem ext_to (p : ByteArray) (k : Nat) : (p.extract 0 k).data.toList = p.data.toList.take k := by rw [Lib.extract_data, List.drop_zero]; rfl
theorem ba_empty (b : ByteArray) (h : b.data.toList = []) : b = ⟨#[]⟩ := by
  cases b with
  | mk d =>
    congr 1
    cases d
    simp at h
    rw [h]

set_option maxRecDepth 100000 in
set_option maxHeartbeats 2000000 in
theorem letters_any (s : ByteArray) (w : World) : Calls Tryd.prog 53 #[.string s] w (LetR s w) := by
  go_enter Tryd.func53, Tryd.ntmps53
  go_wp2
  go_loopw [4, 5, 8, 9, 10, 11, 12, 13, 14, 15, 16, 17] (fun _ _ _ _ _ _ _ _ _ _ _ _ w' => ∃ pos : Nat, w' = w.iter s pos ∧ pos ≤ s.size ∧ Hid (∀ (j : Nat) (c : UInt8), j < pos → s.data.toList[j]? = some c → lowB c = true)) (fun _ _ _ _ _ _ _ _ _ _ _ _ w' => s.size - w'.iterPos w.heap.size)
  case atStart => exact ⟨0, rfl, Nat.zero_le _, Lib.hid (fun j _ hj => absurd hj (Nat.not_lt_zero _))⟩
  case round =>
    obtain ⟨pos, rfl, hp, HOK⟩ := hrel
    have hsl : s.data.toList.length = s.size := rfl
    by_cases hlt : pos < s.size
    · have hget : s.data.toList[pos]? = some (s[pos]'hlt) := List.getElem?_eq_getElem (by omega)
      have HG := Lib.hid hget
      have HSL := Lib.hid hsl
      clear hget hsl
      by_cases ha : (s[pos]'hlt).toNat < 128
      · have hnx : ∀ ty, (Instr.next (.pointer (some ⟨w.heap.size, 0, none⟩)) true ty).run Tryd.prog (w.iter s pos) = _ := fun ty => run_next_ascii w s pos ty hlt ha
        obtain ⟨c, hc⟩ : ∃ c, c = s[pos]'hlt := ⟨_, rfl⟩
        rw [← hc] at hnx ha HG
        clear hc
        by_cases hd : 97 ≤ c.toNat ∧ c.toNat ≤ 122
        · obtain ⟨d1, d2⟩ := hd
          have HD : Hid (lowB c = true) := Lib.hid (decide_eq_true ⟨d1, d2⟩)
          go_wp2
          go_roundw
          case rel => exact ⟨pos + 1, rfl, hlt, Lib.hid (fun j x hj hx => by
            rcases Nat.lt_or_ge j pos with h | h
            · exact HOK.out j x h hx
            · obtain rfl : j = pos := by omega
              have := HG.out.symm.trans hx
              cases this
              exact HD.out)⟩
          case measure => simp; omega
        · have HE := Lib.hid (all_take (k := pos) HOK.out (fun x hx => by
            have := HG.out.symm.trans hx
            cases this
            exact decide_eq_false hd))
          have p1 : (0 : Int) ≤ (pos : Int) := by omega
          have p2 : (pos : Int) ≤ (s.size : Int) := by omega
          go_wp2
          all_goals go_quiet (fail)
          all_goals go_wp2
          all_goals (go_ret2; exact ⟨_, _, rfl, (ext_to s pos).trans HE.out.1.symm, (Lib.extract_to_end s pos).trans HE.out.2.symm, below_drewN ((Below.refl _ _).alloc (Nat.le_refl _) _) _⟩)
      · have hnx : ∀ ty, (Instr.next (.pointer (some ⟨w.heap.size, 0, none⟩)) true ty).run Tryd.prog (w.iter s pos) = _ := fun ty => run_next_any w s pos ty hlt
        have hd := decode_high s pos hlt (by omega)
        have hd' : ¬ ((Utf8.decode s pos).1 : Int) < 97 := by omega
        have hd2 : (122 : Int) < ((Utf8.decode s pos).1 : Int) := by omega
        have HE := Lib.hid (all_take (k := pos) HOK.out (fun x hx => by
          have := HG.out.symm.trans hx
          cases this
          exact decide_eq_false (by omega)))
        have p1 : (0 : Int) ≤ (pos : Int) := by omega
        have p2 : (pos : Int) ≤ (s.size : Int) := by omega
        clear hd
        go_wp2
        all_goals go_quiet (fail)
        all_goals go_wp2
        all_goals (go_ret2; exact ⟨_, _, rfl, (ext_to s pos).trans HE.out.1.symm, (Lib.extract_to_end s pos).trans HE.out.2.symm, below_drewN ((Below.refl _ _).alloc (Nat.le_refl _) _) _⟩)
    · have hnx : ∀ ty, (Instr.next (.pointer (some ⟨w.heap.size, 0, none⟩)) true ty).run Tryd.prog (w.iter s pos) = _ := fun ty => run_next_end w s pos ty hlt
      have HE := Lib.hid (all_take (k := pos) HOK.out (fun x hx => by
        have := (List.getElem?_eq_some_iff.1 hx).1
        omega))
      clear hsl
      go_wp2
      go_ret2
      have hps : pos = s.size := by omega
      exact ⟨_, _, rfl, by rw [HE.out.1, hps]; exact (List.take_of_length_le (Nat.le_refl _)).symm, by rw [HE.out.2, hps]; exact (List.drop_of_length_le (Nat.le_refl _)).symm, (Below.refl _ _).alloc (Nat.le_refl _) _⟩
theorem isEmpty_no {l : List UInt8} (h : l ≠ []) : l.isEmpty = false := by cases l <;> simp_all
theorem tagB_no (l : Str) (h : l = [] ∨ 6 < l.length) : tagB l = false := by
  unfold tagB
  rw [decide_eq_false (by rcases h with h | h <;> simp_all; try omega)]
  rfl
theorem tagB_mid (l : Str) (h1 : l ≠ []) (h2 : l.length ≤ 6) : tagB l = l.all lowB := by
  unfold tagB
  rw [decide_eq_true ⟨h1, h2⟩, Bool.true_and]
theorem ret_bool {a b : Bool} (h : a = b) : Ending.returned (.bool a) = .returned (.bool b) := by rw [h]

set_option maxRecDepth 100000 in
set_option maxHeartbeats 1000000 in
theorem vtag_any (s : ByteArray) (w : World) : Calls Tryd.prog 39 #[.string s] w fun e w' => e = .returned (.bool (tagB s.data.toList)) ∧ Below w.heap.size w w' := by
  have hl : s.data.toList.length = s.size := rfl
  by_cases h1 : s.toList = [] ∨ (6 : Int) < (s.size : Int)
  · rw [tagB_no _ (by
      rw [Lib.toList_data] at h1
      rcases h1 with h | h
      · exact .inl h
      · exact .inr (by omega))]
    go_enter Tryd.func39, Tryd.ntmps39
    go_wp2_with fail
    all_goals first | (go_ret; exact ⟨rfl, Below.refl _ _⟩) | (exfalso; simp_all; done) | (exfalso; simp_all; omega)
  · have e1 : s.toList ≠ [] := fun h => h1 (.inl h)
    have e4 : (s.size : Int) ≤ 6 := by omega
    rw [tagB_mid s.data.toList (by rw [← Lib.toList_data]; exact e1) (by omega)]
    have f1 := isEmpty_no e1
    clear h1 e1 hl
    go_enter Tryd.func39, Tryd.ntmps39
    go_wp2_with fail
    refine (letters_any s w).mono ?_
    rintro e w1 ⟨a, b, rfl, _, hb, hB⟩
    by_cases hall : s.data.toList.all lowB = true
    · have hbe := ba_empty b (by rw [hb]; exact (drop_nil_all _ _).2 hall)
      subst hbe
      have HA := Lib.hid hall
      clear hall hb
      go_wp2_with fail
      go_ret
      exact ⟨ret_bool HA.out.symm, hB⟩
    · have hne : b.toList ≠ [] := by
        rw [Lib.toList_data, hb]
        exact fun h => hall ((drop_nil_all _ _).1 h)
      have f2 := isEmpty_no hne
      have HA := Lib.hid (Bool.eq_false_iff.2 hall)
      clear hall hb hne
      go_wp2_with fail
      go_ret
      exact ⟨ret_bool HA.out.symm, hB⟩
end Go.Proofs.YtjekibhaabkecaaDoor
