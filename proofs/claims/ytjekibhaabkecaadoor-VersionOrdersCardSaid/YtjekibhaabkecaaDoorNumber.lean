/- Proved here: number of package version: digits that say a number of at most so much. -/
import Derived.Test.YtjekibhaabkecaaDoorCompare
namespace Go.Proofs.YtjekibhaabkecaaDoor
open Go.RowKit Go.Shelf

def dgB (c : UInt8) : Bool := decide (48 ≤ c.toNat ∧ c.toNat ≤ 57)
def val (l : Str) : Nat := l.foldl (fun n c => 10 * n + (c.toNat - 48)) 0
/-- Is the digit at this place one that may stand there? -/
def stepB (l : Str) (most j : Nat) : Bool := dgB (l.getD j 0) && (decide (j = 0) || decide (val (l.take j) ≠ 0)) && decide (val (l.take (j + 1)) ≤ most)
def numOk (l : Str) (most : Nat) : Bool := (List.range l.length).all (stepB l most)
def numR (l : Str) (most : Nat) : Nat × Bool := if numOk l most = true then (val l, decide (l ≠ [])) else (0, false)

theorem val_snoc (l : Str) (c : UInt8) : val (l ++ [c]) = 10 * val l + (c.toNat - 48) := by
  unfold val
  rw [List.foldl_append]
  rfl
theorem take_snoc {l : Str} {j : Nat} {c : UInt8} (h : l[j]? = some c) : l.take (j + 1) = l.take j ++ [c] := by rw [List.take_add_one, h]; rfl
theorem numR_no {l : Str} {most j : Nat} (hj : j < l.length) (h : stepB l most j = false) : numR l most = (0, false) := by
  have hn : numOk l most = false := by
    rw [Bool.eq_false_iff]
    intro ha
    have := List.all_eq_true.1 ha j (List.mem_range.2 hj)
    rw [h] at this
    cases this
  unfold numR
  rw [hn]
  rfl
theorem numR_yes {l : Str} {most : Nat} (h : ∀ j, j < l.length → stepB l most j = true) : numR l most = (val l, decide (l ≠ [])) := by
  have hn : numOk l most = true := List.all_eq_true.2 fun j hj => h j (List.mem_range.1 hj)
  unfold numR
  rw [if_pos hn]
theorem getD_of {l : Str} {j : Nat} {c : UInt8} (h : l[j]? = some c) : l.getD j 0 = c := by rw [List.getD_eq_getElem?_getD, h]; rfl
theorem ret_num {a : Nat} {b : Bool} {r : Nat × Bool} (h : r = (a, b)) : Ending.returned (.tuple #[.int .i64 (a : Int), .bool b]) = .returned (.tuple #[.int .i64 (r.1 : Int), .bool r.2]) := by rw [h]

set_option maxRecDepth 100000 in
set_option maxHeartbeats 4000000 in
theorem number_any (s : ByteArray) (most : Nat) (hmost : most ≤ 9999) (w : World) : Calls Tryd.prog 52 #[.string s, .int .i64 (most : Int)] w fun e w' => e = .returned (.tuple #[.int .i64 ((numR s.data.toList most).1 : Int), .bool (numR s.data.toList most).2]) ∧ Below w.heap.size w w' := by
  go_enter Tryd.func52, Tryd.ntmps52
  go_wp2_with fail
  go_loopw [6, 7, 8, 9, 12, 13, 14, 15, 16, 17, 18, 19, 20, 21, 22, 23, 24, 25, 26, 27, 28, 29, 30, 31, 32, 33, 34, 35, 36, 37, 38, 39] (fun n _ _ _ _ _ _ _ _ _ _ _ _ _ _ _ _ _ _ _ _ _ _ _ _ _ _ _ _ _ _ _ w' => ∃ pos v : Nat, w' = w.iter s pos ∧ pos ≤ s.size ∧ n = .int .i64 (v : Int) ∧ v ≤ most ∧ Hid (v = val (s.data.toList.take pos)) ∧ Hid (∀ j, j < pos → stepB s.data.toList most j = true)) (fun _ _ _ _ _ _ _ _ _ _ _ _ _ _ _ _ _ _ _ _ _ _ _ _ _ _ _ _ _ _ _ _ w' => s.size - w'.iterPos w.heap.size)
  case atStart => exact ⟨0, 0, rfl, Nat.zero_le _, rfl, Nat.zero_le _, Lib.hid rfl, Lib.hid (fun j hj => absurd hj (Nat.not_lt_zero _))⟩
  case round =>
    obtain ⟨pos, v, rfl, hp, rfl, hv, HV, HS⟩ := hrel
    have hsl : s.data.toList.length = s.size := rfl
    by_cases hlt : pos < s.size
    · have hget : s.data.toList[pos]? = some (s[pos]'hlt) := List.getElem?_eq_getElem (by omega)
      have HG := Lib.hid hget
      have HSL := Lib.hid hsl
      clear hget hsl
      by_cases ha : (s[pos]'hlt).toNat < 128
      · have hnx : ∀ ty, (Instr.next (.pointer (some ⟨w.heap.size, 0, none⟩)) true ty).run Tryd.prog (w.iter s pos) = _ := fun ty => run_next_ascii w s pos ty hlt ha
        obtain ⟨c, hc⟩ : ∃ c, c = s[pos]'hlt := ⟨_, rfl⟩
        rw [← hc] at hnx ha HG
        clear hc
        by_cases hz : 0 < pos ∧ v = 0
        · obtain ⟨z1, z2⟩ := hz
          have HE := Lib.hid (numR_no (l := s.data.toList) (most := most) (j := pos) (by have := HSL.out; omega) (by
            unfold stepB
            rw [← HV.out, z2]
            simp
            omega))
          subst z2
          have d1 : decide ((pos : Int) > 0) = true := decide_eq_true (by omega)
          go_wp2_with fail
          all_goals first | (go_ret2; exact ⟨ret_num HE.out, (Below.refl _ _).alloc (Nat.le_refl _) _⟩) | (exfalso; omega)
        · by_cases hd : 48 ≤ c.toNat ∧ c.toNat ≤ 57
          · obtain ⟨e1, e2⟩ := hd
            obtain ⟨x, hx⟩ : ∃ x, x = 10 * v + (c.toNat - 48) := ⟨_, rfl⟩
            have hX : Hid (val (s.data.toList.take (pos + 1)) = x) := Lib.hid (by rw [take_snoc HG.out, val_snoc, ← HV.out, hx])
            have x1 : 10 * (v : Int) + ((c.toNat : Int) - 48) = (x : Int) := by omega
            have HST : Hid (x ≤ most → stepB s.data.toList most pos = true) := Lib.hid (fun hm => by
              unfold stepB
              rw [getD_of HG.out, hX.out, ← HV.out]
              simp [dgB]
              omega)
            have HNO : Hid (¬ x ≤ most → stepB s.data.toList most pos = false) := Lib.hid (fun hm => by
              unfold stepB
              rw [hX.out, decide_eq_false hm, Bool.and_false])
            have c1 : decide ((c.toNat : Int) < 48) = false := decide_eq_false (by omega)
            have c2 : decide ((57 : Int) < (c.toNat : Int)) = false := decide_eq_false (by omega)
            by_cases h0 : pos = 0
            · subst h0
              have hv0 : v = 0 := HV.out
              subst hv0
              by_cases hm : x ≤ most
              · have hst := HST.out hm
                have HNX : Hid (∀ j, j < 0 + 1 → stepB s.data.toList most j = true) := Lib.hid (fun j hj => by
                  rcases Nat.lt_or_ge j 0 with h | h
                  · exact HS.out j h
                  · obtain rfl : j = 0 := by omega
                    exact hst)
                have m1 : decide (((c.toNat - 48 : Nat) : Int) > (most : Int)) = false := decide_eq_false (by omega)
                clear hst hz
                go_wp2_with fail
                all_goals first
                  | (exfalso; omega)
                  | (refine ⟨⟨0 + 1, x, rfl, hlt, congrArg _ (by omega), hm, Lib.hid hX.out.symm, HNX⟩, ?_⟩; simp; done)
                  | (refine ⟨⟨0 + 1, x, rfl, hlt, congrArg _ (by omega), hm, Lib.hid hX.out.symm, HNX⟩, ?_⟩; simp; omega)
              · have HE := Lib.hid (numR_no (l := s.data.toList) (most := most) (j := 0) (by have := HSL.out; omega) (HNO.out hm))
                have m1 : decide (((c.toNat - 48 : Nat) : Int) > (most : Int)) = true := decide_eq_true (by omega)
                clear hz
                go_wp2_with fail
                all_goals first | (go_ret2; exact ⟨ret_num HE.out, (Below.refl _ _).alloc (Nat.le_refl _) _⟩) | (exfalso; omega)
            · have d1 : decide ((pos : Int) > 0) = true := decide_eq_true (by omega)
              have hv0 : v ≠ 0 := fun h => hz ⟨Nat.pos_of_ne_zero h0, h⟩
              have z1 : ((v : Int) == 0) = false := beq_eq_false_iff_ne.2 (by omega)
              clear h0 hv0
              by_cases hm : x ≤ most
              · have hst := HST.out hm
                have HNX : Hid (∀ j, j < pos + 1 → stepB s.data.toList most j = true) := Lib.hid (fun j hj => by
                  rcases Nat.lt_or_ge j pos with h | h
                  · exact HS.out j h
                  · obtain rfl : j = pos := by omega
                    exact hst)
                have m1 : decide (10 * (v : Int) + ((c.toNat - 48 : Nat) : Int) > (most : Int)) = false := decide_eq_false (by omega)
                clear hst hz
                go_wp2_with fail
                all_goals first
                  | (exfalso; omega)
                  | (refine ⟨⟨pos + 1, x, rfl, hlt, congrArg _ (by omega), hm, Lib.hid hX.out.symm, HNX⟩, ?_⟩; simp; done)
                  | (refine ⟨⟨pos + 1, x, rfl, hlt, congrArg _ (by omega), hm, Lib.hid hX.out.symm, HNX⟩, ?_⟩; simp; omega)
              · have HE := Lib.hid (numR_no (l := s.data.toList) (most := most) (j := pos) (by have := HSL.out; omega) (HNO.out hm))
                have m1 : decide (10 * (v : Int) + ((c.toNat - 48 : Nat) : Int) > (most : Int)) = true := decide_eq_true (by omega)
                clear hz
                go_wp2_with fail
                all_goals first | (go_ret2; exact ⟨ret_num HE.out, (Below.refl _ _).alloc (Nat.le_refl _) _⟩) | (exfalso; omega)
          · have HE := Lib.hid (numR_no (l := s.data.toList) (most := most) (j := pos) (by have := HSL.out; omega) (by
              unfold stepB
              rw [getD_of HG.out, show dgB c = false from decide_eq_false hd]
              rfl))
            by_cases h0 : pos = 0
            · have d1 : decide ((pos : Int) > 0) = false := decide_eq_false (by omega)
              by_cases c1 : (c.toNat : Int) < 48
              · have c1' : decide ((c.toNat : Int) < 48) = true := decide_eq_true c1
                clear hz hd h0
                go_wp2_with fail
                all_goals first | (go_ret2; exact ⟨ret_num HE.out, (Below.refl _ _).alloc (Nat.le_refl _) _⟩) | (exfalso; omega)
              · have c1' : decide ((c.toNat : Int) < 48) = false := decide_eq_false c1
                have c2 : decide ((57 : Int) < (c.toNat : Int)) = true := decide_eq_true (by omega)
                clear hz hd h0
                go_wp2_with fail
                all_goals first | (go_ret2; exact ⟨ret_num HE.out, (Below.refl _ _).alloc (Nat.le_refl _) _⟩) | (exfalso; omega)
            · have d1 : decide ((pos : Int) > 0) = true := decide_eq_true (by omega)
              have z1 : ((v : Int) == 0) = false := beq_eq_false_iff_ne.2 (by omega)
              by_cases c1 : (c.toNat : Int) < 48
              · have c1' : decide ((c.toNat : Int) < 48) = true := decide_eq_true c1
                clear hz hd h0
                go_wp2_with fail
                all_goals first | (go_ret2; exact ⟨ret_num HE.out, (Below.refl _ _).alloc (Nat.le_refl _) _⟩) | (exfalso; omega)
              · have c1' : decide ((c.toNat : Int) < 48) = false := decide_eq_false c1
                have c2 : decide ((57 : Int) < (c.toNat : Int)) = true := decide_eq_true (by omega)
                clear hz hd h0
                go_wp2_with fail
                all_goals first | (go_ret2; exact ⟨ret_num HE.out, (Below.refl _ _).alloc (Nat.le_refl _) _⟩) | (exfalso; omega)
      · have hnx : ∀ ty, (Instr.next (.pointer (some ⟨w.heap.size, 0, none⟩)) true ty).run Tryd.prog (w.iter s pos) = _ := fun ty => run_next_any w s pos ty hlt
        have hd := decode_high s pos hlt (by omega)
        have HE := Lib.hid (numR_no (l := s.data.toList) (most := most) (j := pos) (by have := HSL.out; omega) (by
          unfold stepB
          rw [getD_of HG.out, show dgB _ = false from decide_eq_false (by omega)]
          rfl))
        have c1 : decide (((Utf8.decode s pos).1 : Int) < 48) = false := decide_eq_false (by omega)
        have c2 : decide ((57 : Int) < ((Utf8.decode s pos).1 : Int)) = true := decide_eq_true (by omega)
        clear hd
        by_cases h0 : pos = 0
        · have d1 : decide ((pos : Int) > 0) = false := decide_eq_false (by omega)
          clear h0
          go_wp2_with fail
          all_goals first | (go_ret2; exact ⟨ret_num HE.out, (Below.refl _ _).alloc (Nat.le_refl _) _⟩) | (exfalso; omega)
        · have d1 : decide ((pos : Int) > 0) = true := decide_eq_true (by omega)
          clear h0
          by_cases h1 : v = 0
          · have z1 : ((v : Int) == 0) = true := by simp [h1]
            clear h1
            go_wp2_with fail
            all_goals first | (go_ret2; exact ⟨ret_num HE.out, (Below.refl _ _).alloc (Nat.le_refl _) _⟩) | (exfalso; omega)
          · have z1 : ((v : Int) == 0) = false := beq_eq_false_iff_ne.2 (by omega)
            clear h1
            go_wp2_with fail
            all_goals first | (go_ret2; exact ⟨ret_num HE.out, (Below.refl _ _).alloc (Nat.le_refl _) _⟩) | (exfalso; omega)
    · have hnx : ∀ ty, (Instr.next (.pointer (some ⟨w.heap.size, 0, none⟩)) true ty).run Tryd.prog (w.iter s pos) = _ := fun ty => run_next_end w s pos ty hlt
      have hps : pos = s.size := by omega
      have HE := Lib.hid (numR_yes (l := s.data.toList) (most := most) (fun j hj => HS.out j (by omega)))
      have HVV : Hid (v = val s.data.toList) := Lib.hid (by rw [HV.out, List.take_of_length_le (by omega)])
      by_cases he : s.toList = []
      · have f1 := isEmpty_yes he
        have HE2 : Hid (numR s.data.toList most = (v, false)) := Lib.hid (by rw [HE.out, ← HVV.out]; rw [Lib.toList_data] at he; simp [he])
        clear hsl he hps
        go_wp2_with fail
        go_ret2
        exact ⟨ret_num HE2.out, (Below.refl _ _).alloc (Nat.le_refl _) _⟩
      · have f1 := isEmpty_no he
        have HE2 : Hid (numR s.data.toList most = (v, true)) := Lib.hid (by rw [HE.out, ← HVV.out]; rw [Lib.toList_data] at he; simp [he])
        clear hsl he hps
        go_wp2_with fail
        go_ret2
        exact ⟨ret_num HE2.out, (Below.refl _ _).alloc (Nat.le_refl _) _⟩
end Go.Proofs.YtjekibhaabkecaaDoor
