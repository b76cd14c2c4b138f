/- Proved here: digits of package tape: the number of the digits with which a text begins, and how many they are. -/
import Derived.Test.YtmamolhclohniaaDoorPut
import Derived.Test.YtmamolhclohniaaDoorMath2
import Derived.Lib.Strings
namespace Go.Proofs.YtmamolhclohniaaDoor
open Go.RowKit Go.Shelf

theorem ret_dig {r a : Nat × Nat × Bool} (h : r = a) : Ending.returned (.tuple #[.int .u64 a.1, .int .i64 a.2.1, .bool a.2.2]) = .returned (.tuple #[.int .u64 r.1, .int .i64 r.2.1, .bool r.2.2]) := by rw [h]

def DR (s : ByteArray) (w : World) (e : Ending) (w' : World) : Prop := e = .returned (.tuple #[.int .u64 (digRes s.data.toList).1, .int .i64 (digRes s.data.toList).2.1, .bool (digRes s.data.toList).2.2]) ∧ Below w.heap.size w w'

set_option maxRecDepth 100000 in
set_option maxHeartbeats 2000000 in
theorem digits_any (s : ByteArray) (hs : s.size ≤ 140737488355328) (w : World) : Calls Tryd.prog 25 #[.string s] w (DR s w) := by
  go_enter Tryd.func25, Tryd.ntmps25
  go_wp2
  go_loopw [2, 3, 5, 6, 7, 8, 11, 12, 13, 14, 15, 16, 17, 18, 19, 20, 21, 22, 23, 24, 25, 26, 27, 28, 29, 30, 31, 32, 33, 34, 35, 36, 37, 38, 39, 40, 41, 42, 43]
    (fun n wd _ _ _ _ _ _ _ _ _ _ _ _ _ _ _ _ _ _ _ _ _ _ _ _ _ _ _ _ _ _ _ _ _ _ _ _ _ w' => ∃ pos : Nat, w' = w.iter s pos ∧ pos ≤ s.size ∧ n = .int .u64 (val (s.data.toList.take pos)) ∧ wd = .int .i64 pos ∧ Hid (∀ c ∈ s.data.toList.take pos, dgB c = true) ∧ Hid (badB (s.data.toList.take pos) = false))
    (fun _ _ _ _ _ _ _ _ _ _ _ _ _ _ _ _ _ _ _ _ _ _ _ _ _ _ _ _ _ _ _ _ _ _ _ _ _ _ _ w' => s.size - w'.iterPos w.heap.size)
  case atStart => exact ⟨0, rfl, Nat.zero_le _, rfl, rfl, Lib.hid (by simp), Lib.hid rfl⟩
  case round =>
    obtain ⟨pos, rfl, hp, rfl, rfl, HD, HB⟩ := hrel
    have hsl : s.data.toList.length = s.size := rfl
    by_cases hlt : pos < s.size
    · have hget : s.data.toList[pos]? = some (s[pos]'hlt) := List.getElem?_eq_getElem (by omega)
      have HG := Lib.hid hget
      have HSL := Lib.hid hsl
      clear hget hsl
      by_cases ha : (s[pos]'hlt).toNat < 128
      · have hnx : ∀ ty, (Instr.next (.pointer (some ⟨w.heap.size, 0, none⟩)) true ty).run Tryd.prog (w.iter s pos) = _ := fun ty => run_next_ascii w s pos ty hlt ha
        obtain ⟨c, hc⟩ : ∃ c, c = s[pos]'hlt := ⟨_, rfl⟩
        obtain ⟨v, hv⟩ : ∃ v, v = val (s.data.toList.take pos) := ⟨_, rfl⟩
        rw [← hc] at hnx ha HG
        rw [← hv]
        have HV := Lib.hid hv
        clear hv hc
        by_cases hd : 48 ≤ c.toNat ∧ c.toNat ≤ 57
        · obtain ⟨d1, d2⟩ := hd
          have HDC : Hid (dgB c = true) := Lib.hid (decide_eq_true ⟨d1, d2⟩)
          by_cases hz : 0 < pos ∧ v = 0
          · obtain ⟨z1, z2⟩ := hz
            have HE := Lib.hid (bad_nought _ pos c HG.out HD.out HDC.out z1 (by rw [← HV.out]; exact z2))
            subst z2
            go_wp2
            go_ret3
            exact ⟨ret_dig HE.out, (Below.refl _ _).alloc (Nat.le_refl _) _⟩
          · have HN : Hid (pos = 0 ∨ v ≠ 0) := Lib.hid (by omega)
            by_cases hv0 : v = 0
            · have hp0 : pos = 0 := by omega
              subst hv0
              subst hp0
              have HO : Hid (10 * val (s.data.toList.take 0) + (c.toNat - 48) < 18446744073709551616) := Lib.hid (by rw [← HV.out]; omega)
              have HS := Lib.hid (good_snoc _ 0 c HG.out HB.out (.inl rfl) HO.out)
              clear hz
              go_wp2
              go_roundw
              case rel => exact ⟨1, rfl, hlt, by rw [take_snoc_get _ 0 c HG.out, val_snoc, ← HV.out]; exact congrArg _ (by omega), rfl, Lib.hid (all_snoc _ 0 c HG.out HD.out HDC.out), HS⟩
              case measure => simp; omega
            · have z1 : ((v : Int) == 0) = false := by rw [beq_eq_false_iff_ne]; omega
              clear hz
              go_wp2
              all_goals first
                | (go_ret3
                   refine ⟨ret_dig (bad_over _ pos c HG.out HD.out HDC.out ?_), (Below.refl _ _).alloc (Nat.le_refl _) _⟩
                   rw [← HV.out]
                   omega)
                | (go_roundw
                   case rel => exact ⟨pos + 1, rfl, hlt, by rw [take_snoc_get _ pos c HG.out, val_snoc, ← HV.out]; exact congrArg _ (by omega), by go_num, Lib.hid (all_snoc _ pos c HG.out HD.out HDC.out), Lib.hid (good_snoc _ pos c HG.out HB.out (by rw [← HV.out]; exact HN.out) (by rw [← HV.out]; omega))⟩
                   case measure => simp; omega)
        · have HE : Hid (digRes s.data.toList = (v, pos, true)) := Lib.hid (by
            rw [HV.out]
            exact dig_end _ pos (by have := HSL.out; omega) HD.out HB.out (fun x hx => by
              have := HG.out.symm.trans hx
              cases this
              exact decide_eq_false hd))
          go_wp2
          all_goals first
            | (go_ret3; exact ⟨ret_dig HE.out, (Below.refl _ _).alloc (Nat.le_refl _) _⟩)
            | (exfalso; omega)
      · have hnx : ∀ ty, (Instr.next (.pointer (some ⟨w.heap.size, 0, none⟩)) true ty).run Tryd.prog (w.iter s pos) = _ := fun ty => run_next_any w s pos ty hlt
        have hd := decode_high s pos hlt (by omega)
        have hd' : (57 : Int) < ((Utf8.decode s pos).1 : Int) := by omega
        have HE : Hid (digRes s.data.toList = (val (s.data.toList.take pos), pos, true)) := Lib.hid (by
          exact dig_end _ pos (by have := HSL.out; omega) HD.out HB.out (fun x hx => by
            have := HG.out.symm.trans hx
            cases this
            exact decide_eq_false (by omega)))
        clear hd
        go_wp2
        all_goals first
          | (go_ret3; exact ⟨ret_dig HE.out, (Below.refl _ _).alloc (Nat.le_refl _) _⟩)
          | (exfalso; omega)
    · have hnx : ∀ ty, (Instr.next (.pointer (some ⟨w.heap.size, 0, none⟩)) true ty).run Tryd.prog (w.iter s pos) = _ := fun ty => run_next_end w s pos ty hlt
      have HE : Hid (digRes s.data.toList = (val (s.data.toList.take pos), pos, true)) := Lib.hid (by
        exact dig_end _ pos (by omega) HD.out HB.out (fun x hx => by
          have := (List.getElem?_eq_some_iff.1 hx).1
          omega))
      clear hsl
      go_wp2
      go_ret3
      exact ⟨ret_dig HE.out, (Below.refl _ _).alloc (Nat.le_refl _) _⟩
end Go.Proofs.YtmamolhclohniaaDoor
