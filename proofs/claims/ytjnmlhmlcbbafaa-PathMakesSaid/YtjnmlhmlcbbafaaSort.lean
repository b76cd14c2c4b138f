/- Proved here: slices.SortFunc by path's Compare, at a row of at most twelve texts of the call's own: behind it the row holds the same texts, in order. -/
import Derived.Test.YtjnmlhmlcbbafaaFew
import Derived.Test.YtjnmlhmlcbbafaaMath5
import Derived.StillTailTactics
import Derived.BigRegion
namespace Go.Proofs.Ytjnmlhmlcbbafaa
open Go.RowKit Go.Shelf

def Sizes (l : List Str) : Prop := ∀ x ∈ l, x.length ≤ 140737488355328
/-- The row of the call's own, in whatever order. -/
def RowIs (B g cap : Nat) (l : List Str) (w : World) : Prop := w.ownsRow B 9 1 (.slice (some ⟨g, 0, none⟩) l.length cap) l.length (l.map encS)

theorem row_below {B g cap : Nat} {l : List Str} {w w' : World} (h : RowIs B g cap l w) (hb : Below w.heap.size w w') : RowIs B g cap l w' := owns_below h hb
theorem row_cell {B g cap : Nat} {l : List Str} {w : World} (h : RowIs B g cap l w) (j : Nat) (x : Str) (hj : l[j]? = some x) : w.cell? ⟨g, j, none⟩ = some (.string ⟨x.toArray⟩) :=
  own_cell h j (encS x) (by rw [List.getElem?_map, hj]; rfl)
theorem row_set {B g cap : Nat} {l : List Str} {w : World} (h : RowIs B g cap l w) (j : Nat) (x : Str) : RowIs B g cap (l.set j x) (w.setCell ⟨g, j, none⟩ (.string ⟨x.toArray⟩)) := by
  have := owns_set h j (.string ⟨x.toArray⟩)
  unfold RowIs
  rw [List.length_set, List.map_set]
  exact this
theorem set2 (A' C R : List Str) (a x : Str) : ((A' ++ [a] ++ x :: C ++ R).set (A'.length + 1) a).set A'.length x = A' ++ x :: (a :: C) ++ R := by
  have e1 : A' ++ [a] ++ x :: C ++ R = (A' ++ [a]) ++ (x :: (C ++ R)) := by simp
  rw [e1, List.set_append_right _ _ (by simp)]
  have e2 : A'.length + 1 - (A' ++ [a]).length = 0 := by simp
  rw [e2, List.set_cons_zero]
  have e3 : A' ++ [a] ++ a :: (C ++ R) = A' ++ (a :: (a :: (C ++ R))) := by simp
  rw [e3, List.set_append_right _ _ (by simp), Nat.sub_self, List.set_cons_zero]
  simp

theorem take_ins (A C R : List Str) (x : Str) (k : Nat) (h : A.length + C.length = k) : (A ++ x :: C ++ R).take (k + 1) = A ++ x :: C := by
  have e : (A ++ x :: C).length = k + 1 := by simp; omega
  rw [List.take_append_of_le_length (by omega), List.take_of_length_le (by omega)]

theorem cmp_at (x a : Str) (hx : x.length ≤ 140737488355328) (ha : a.length ≤ 140737488355328) (c : Int) (hc : cmpL x a = c) (w : World) :
    Calls Try.prog 30 #[.string ⟨x.toArray⟩, .string ⟨a.toArray⟩] w fun e w' => e = .returned (.int .i64 c) ∧ Below w.heap.size w w' := by
  rw [← hc]; exact cmp_any ⟨x.toArray⟩ ⟨a.toArray⟩ hx ha w

set_option maxRecDepth 100000 in
set_option maxHeartbeats 4000000 in
theorem ins_any (B g n cap : Nat) (l0 : List Str) (w : World) (hn : l0.length = n) (hn12 : n ≤ 12) (hrow : RowIs B g cap l0 w) (hz : Sizes l0) (hB : B ≤ w.heap.size) :
    Calls Try.prog 59 #[.slice (some ⟨g, 0, none⟩) n cap, .int .i64 0, .int .i64 (n : Int), .func (.func 30) #[] #[]] w fun e w' => e = .returned (.tuple #[]) ∧ ∃ l, l.Perm l0 ∧ SortedP l ∧ RowIs B g cap l w' ∧ Below B w w' := by
  have HN := Lib.hid hn
  have HR0 := Lib.hid hrow
  have HZ := Lib.hid hz
  have hgB : B ≤ g := (hrow.lt g rfl).1
  have hn' : (n : Int) ≤ 12 := by omega
  clear hn hrow hz
  go_enter Try.func59, Try.ntmps59
  go_wp2
  go_loopw [8, 9] (fun i _ wr => ∃ (k : Nat) (l : List Str), 1 ≤ k ∧ i = .int .i64 k ∧ Hid (l.Perm l0) ∧ Hid (SortedP (l.take k)) ∧ Hid (RowIs B g cap l wr) ∧ Below B w wr ∧ k ≤ n + 1) (fun i _ _ => n + 1 - (intOf i).toNat)
  case atStart =>
    refine ⟨1, l0, Nat.le_refl _, rfl, List.Perm.refl _, ?_, HR0, Below.refl _ _, by omega⟩
    show SortedP (l0.take 1)
    cases l0 with
    | nil => exact List.Pairwise.nil
    | cons a r => exact List.pairwise_singleton _ _
  case round =>
    obtain ⟨k, l, hk1, rfl, HP, HS, HR, hb, hkn⟩ := hrel
    by_cases hlt : k < n
    · have hk2 : (k : Int) ≤ 12 := by omega
      go_wp2
      obtain ⟨wo, hwo⟩ : ∃ wo : World, wo = wr := ⟨_, rfl⟩
      subst hwo
      go_loopw [9] (fun j w2 => ∃ (jj : Nat) (A C R : List Str) (x : Str), j = .int .i64 (jj : Int) ∧ Hid (A.length = jj) ∧ Hid (A.length + C.length = k) ∧ jj ≤ k ∧ Hid ((A ++ x :: C ++ R).Perm l0) ∧ Hid (SortedP (A ++ C)) ∧ Hid (∀ c ∈ C, cmpL x c < 0) ∧ Hid (RowIs B g cap (A ++ x :: C ++ R) w2) ∧ Below B w w2) (fun j _ => (intOf j).toNat)
      case atStart =>
        have hkl : k < l.length := by have := HP.out.length_eq; have := HN.out; omega
        have e : l.take k ++ l[k] :: [] ++ l.drop (k + 1) = l := by
          simp
        refine ⟨k, l.take k, [], l.drop (k + 1), l[k], rfl, ?_, ?_, Nat.le_refl _, ?_, ?_, ?_, ?_, hb⟩
        · show (l.take k).length = k
          rw [List.length_take]; omega
        · show (l.take k).length + 0 = k
          rw [List.length_take]; omega
        · show (l.take k ++ l[k] :: [] ++ l.drop (k + 1)).Perm l0
          rw [e]; exact HP.out
        · show SortedP (l.take k ++ [])
          rw [List.append_nil]; exact HS.out
        · show ∀ c ∈ ([] : List Str), cmpL l[k] c < 0
          intro c hc; cases hc
        · show RowIs B g cap (l.take k ++ l[k] :: [] ++ l.drop (k + 1)) _
          rw [e]; exact HR.out
      case round =>
        obtain ⟨j, A, C, R, x, rfl, HA, HAC, hjk, HP2, HS2, HC2, HR2, hb2⟩ := hrel
        by_cases hj0 : j = 0
        · subst hj0
          go_wp2
          go_quiet (fail)
          go_wp2
          have hA0 : A = [] := List.eq_nil_of_length_eq_zero HA.out
          subst hA0
          refine ⟨⟨k + 1, [] ++ x :: C ++ R, by omega, by go_num, HP2, ?_, HR2.out, below_drewN hb2 _, by omega⟩, by simp [intOf]; omega⟩
          show SortedP (([] ++ x :: C ++ R).take (k + 1))
          rw [take_ins [] C R x k HAC.out]
          exact insert_here [] C x HS2.out HC2.out (fun a ha => by cases ha)
        · obtain ⟨A', a, hAe⟩ : ∃ A' a, A = A' ++ [a] := ⟨_, _, (List.dropLast_concat_getLast (fun e => by have := HA.out; rw [e] at this; exact hj0 this.symm)).symm⟩
          subst hAe
          obtain ⟨p, hp⟩ : ∃ p, j = p + 1 := ⟨j - 1, by omega⟩
          have hpl : A'.length = p := by have := HA.out; simp at this; omega
          have HPL := Lib.hid hpl
          have g1 : (0 : Int) < (j : Int) := by omega
          have g0 : 0 < j := by omega
          have gd : decide ((0 : Int) < (j : Int)) = true := decide_eq_true g1
          have g2 : IntKind.i64.wrap ((j : Int) - 1) = (p : Int) := by rw [IntWalk.i64_in _ (by omega)]; omega
          have g3 : (0 : Int) ≤ (p : Int) := by omega
          have g4 : (p : Int) < (n : Int) := by omega
          have g5 : (j : Int) < (n : Int) := by omega
          have ex : (A' ++ [a] ++ x :: C ++ R)[j]? = some x := by
            rw [List.append_assoc, List.getElem?_append_right (by simp; omega)]
            have : j - (A' ++ [a]).length = 0 := by simp; omega
            rw [this]; rfl
          have ea : (A' ++ [a] ++ x :: C ++ R)[p]? = some a := by
            rw [List.append_assoc, List.append_assoc, List.getElem?_append_right (by omega)]
            have : p - A'.length = 0 := by omega
            rw [this]; rfl
          have c1 := row_cell HR2.out j x ex
          have c2 := row_cell HR2.out p a ea
          have hxz : x.length ≤ 140737488355328 := HZ.out x (HP2.out.mem_iff.1 (by simp))
          have haz : a.length ≤ 140737488355328 := HZ.out a (HP2.out.mem_iff.1 (by simp))
          obtain ⟨c, hc⟩ : ∃ c, cmpL x a = c := ⟨_, rfl⟩
          have HCM := Lib.hid hc
          have HJP := Lib.hid hp
          have HEX := Lib.hid ex
          have HEA := Lib.hid ea
          clear hpl ex ea hc hp hj0
          by_cases hneg : c < 0
          · have hd : decide (c < 0) = true := decide_eq_true hneg
            go_wp2_with fail
            go_still_tail 14, (by kernel_rfl)
            go_wp2_with (go_at_call 30; refine (cmp_at x a hxz haz c HCM.out _).mono ?_; rintro e w3 ⟨rfl, hb3⟩)
            have hr3 := row_below (w := wr.drew) HR2.out hb3
            have hr4 := row_set (row_set hr3 j a) p x
            have HST := Lib.hid hr4
            have d1 := row_cell hr3 j x HEX.out
            have d2 := row_cell hr3 p a HEA.out
            have d3 : (w3.setCell ⟨g, j, none⟩ (.string ⟨a.toArray⟩)).cell? ⟨g, p, none⟩ = some (.string ⟨a.toArray⟩) :=
              (World.cell?_setCell_other _ _ _ _ (by intro e'; simp only [Addr.mk.injEq] at e'; have := HJP.out; omega)).trans d2
            have f1 := hr3.frozenAt j
            have f2 := hr3.frozenAt p
            have HB3 := Lib.hid ((hb2.drew).trans (hb3.mono (Nat.le_trans hB hb2.size)))
            clear hr3 hr4 c1 c2 hb3
            go_region
            go_wp2
            go_roundw
            case rel =>
              have e2 : ((A' ++ [a] ++ x :: C ++ R).set j a).set p x = A' ++ x :: (a :: C) ++ R := by
                have := set2 A' C R a x
                rw [HPL.out, ← HJP.out] at this
                exact this
              have h5 := HST.out
              rw [e2] at h5
              refine ⟨p, A', a :: C, R, x, rfl, HPL, ?_, by have := HJP.out; omega, ?_, ?_, ?_, h5, ((HB3.out.setCell (p := ⟨g, j, none⟩) hgB _).setCell (p := ⟨g, p, none⟩) hgB _).drew⟩
              · show A'.length + (a :: C).length = k
                have := HAC.out
                simp at this ⊢
                omega
              · show (A' ++ x :: (a :: C) ++ R).Perm l0
                refine List.Perm.trans ?_ HP2.out
                have : (A' ++ x :: (a :: C) ++ R).Perm (A' ++ a :: (x :: C) ++ R) := by
                  simp only [List.append_assoc, List.cons_append]
                  exact (List.Perm.swap a x (C ++ R)).append_left A'
                refine this.trans (List.Perm.of_eq ?_)
                simp
              · show SortedP (A' ++ a :: C)
                have := HS2.out
                simpa using this
              · show ∀ c' ∈ a :: C, cmpL x c' < 0
                intro c' hc'
                rcases List.mem_cons.1 hc' with rfl | hc'
                · rw [HCM.out]; exact hneg
                · exact HC2.out c' hc'
            case measure =>
              have := HJP.out
              simp [intOf]
              omega
          · have hd : decide (c < 0) = false := decide_eq_false hneg
            go_wp2_with fail
            go_still_tail 14, (by kernel_rfl)
            go_wp2_with (go_at_call 30; refine (cmp_at x a hxz haz c HCM.out _).mono ?_; rintro e w3 ⟨rfl, hb3⟩)
            have hr3 := row_below (w := wr.drew) HR2.out hb3
            refine ⟨⟨k + 1, A' ++ [a] ++ x :: C ++ R, by omega, by go_num, HP2, ?_, hr3, (hb2.drew).trans (hb3.mono (Nat.le_trans hB hb2.size)), by omega⟩, by simp [intOf]; omega⟩
            show SortedP ((A' ++ [a] ++ x :: C ++ R).take (k + 1))
            rw [take_ins (A' ++ [a]) C R x k HAC.out]
            refine insert_here (A' ++ [a]) C x HS2.out HC2.out (fun y hy => ?_)
            simp at hy
            subst hy
            rw [HCM.out]
            omega
    · go_wp2
      go_end0
      have hl : l.length = n := by have := HP.out.length_eq; have := HN.out; omega
      have hs := HS.out
      rw [List.take_of_length_le (by omega)] at hs
      exact ⟨rfl, l, HP.out, hs, HR.out, hb⟩

set_option maxHeartbeats 1000000 in
theorem pdq_any (B g n cap : Nat) (l0 : List Str) (lim : Int) (w : World) (hn : l0.length = n) (hn12 : n ≤ 12) (hrow : RowIs B g cap l0 w) (hz : Sizes l0) (hB : B ≤ w.heap.size) :
    Calls Try.prog 47 #[.slice (some ⟨g, 0, none⟩) n cap, .int .i64 0, .int .i64 (n : Int), .int .i64 lim, .func (.func 30) #[] #[]] w fun e w' => e = .returned (.tuple #[]) ∧ ∃ l, l.Perm l0 ∧ SortedP l ∧ RowIs B g cap l w' ∧ Below B w w' := by
  have HI := Lib.hid (ins_any B g n cap l0 w hn hn12 hrow hz hB)
  have hn' : (n : Int) ≤ 12 := by omega
  clear hn hrow hz
  go_enter Try.func47, Try.ntmps47
  go_wp2
  refine wp_loop_rounds 1 ?_
  rw [rounds_succ]
  go_wp2_with (go_at_call 59; refine HI.out.mono ?_; rintro e w' ⟨rfl, hl⟩; have HL := Lib.hid hl; clear hl)
  (try simp only [Exit.inBlock, Exit.then])
  refine bodyPost_ret (results_none rfl _ _ _) rfl ?_
  exact ⟨rfl, HL.out⟩

set_option maxHeartbeats 1000000 in
theorem sort_some (B g n cap : Nat) (l0 : List Str) (w : World) (hn : l0.length = n) (hn12 : n ≤ 12) (hrow : RowIs B g cap l0 w) (hz : Sizes l0) (hB : B ≤ w.heap.size) :
    Calls Try.prog 32 #[.slice (some ⟨g, 0, none⟩) n cap, .func (.func 30) #[] #[]] w fun e w' => e = .returned (.tuple #[]) ∧ ∃ l, l.Perm l0 ∧ SortedP l ∧ RowIs B g cap l w' ∧ Below B w w' := by
  have HI := Lib.hid (fun lim => pdq_any B g n cap l0 lim w hn hn12 hrow hz hB)
  have hn' : (n : Int) ≤ 12 := by omega
  have hl : ∀ W, Calls Try.prog 48 #[.int .u64 (n : Int)] W fun e w' => (∃ v : Int, e = .returned (.int .i64 v)) ∧ W = w' := fun W =>
    (Try.bits_Len (n : Int) W (by omega) (by omega)).mono fun _ _ ⟨he, hw⟩ => ⟨⟨_, he⟩, hw.symm⟩
  have HL := Lib.hid hl
  have wr : IntKind.u64.wrap (n : Int) = n := by simp [IntKind.wrap, IntKind.bits, IntKind.signed]; omega
  clear hn hrow hz hl
  go_enter Try.func32, Try.ntmps32
  go_wp2_with (first | (go_at_call 48; refine (HL.out _).mono ?_; rintro e w' ⟨⟨v, rfl⟩, rfl⟩) | (go_at_call 47; refine (HI.out _).mono ?_; rintro e w' ⟨rfl, hl⟩; have HX := Lib.hid hl; clear hl))
  go_end0
  exact ⟨rfl, HX.out⟩
end Go.Proofs.Ytjnmlhmlcbbafaa
