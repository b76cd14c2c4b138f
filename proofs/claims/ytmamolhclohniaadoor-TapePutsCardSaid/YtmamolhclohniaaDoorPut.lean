/- Proved here: Check, Number, Text and Put of package tape, whatever row of parts they are called with. -/
import Derived.Test.YtmamolhclohniaaDoorSay
import Derived.Deep.QuietTactic
import Derived.BigQuiet
import Derived.IntWalk
namespace Go.Proofs.YtmamolhclohniaaDoor
open Go.RowKit Go.Shelf

/-- The slice reads as these parts. -/
def RdP (w : World) (v : Value) (l : List Part) : Prop :=
  ∃ (a : Option Addr) (cap : Nat), v = .slice a l.length cap ∧ l.length ≤ cap ∧ cap ≤ maxLen ∧
    (0 < l.length → ∃ g o, a = some ⟨g, o, none⟩ ∧ g < w.heap.size ∧ ∀ (j : Nat) (p : Part), l[j]? = some p → w.cell? ⟨g, o + j * 3, none⟩ = some (.bool p.isText) ∧ w.cell? ⟨g, o + j * 3 + 1, none⟩ = some (.int .u64 p.num) ∧ w.cell? ⟨g, o + j * 3 + 2, none⟩ = some (.string ⟨p.text.toArray⟩))

theorem RdP.nil (w : World) : RdP w (.slice none 0 0) [] := ⟨none, 0, rfl, Nat.le_refl _, Nat.zero_le _, fun h => absurd h (Nat.lt_irrefl _)⟩
theorem RdP.below {w w' : World} {v : Value} {l : List Part} {B : Nat} (h : RdP w v l) (hb : Below B w w') (hB : w.heap.size ≤ B) : RdP w' v l := by
  obtain ⟨a, cap, h1, h2, h3, h4⟩ := h
  refine ⟨a, cap, h1, h2, h3, fun h0 => ?_⟩
  obtain ⟨g, o, e, hg, hc⟩ := h4 h0
  have hb' := hb.mono hB
  exact ⟨g, o, e, Nat.lt_of_lt_of_le hg hb.size, fun j p hx => ⟨(hb'.cell (p := ⟨g, _, none⟩) hg).trans (hc j p hx).1, (hb'.cell (p := ⟨g, _, none⟩) hg).trans (hc j p hx).2.1, (hb'.cell (p := ⟨g, _, none⟩) hg).trans (hc j p hx).2.2⟩⟩

def errC (p : Part) : Int := if rightB p then 0 else 2

set_option maxHeartbeats 400000 in
theorem check_any (p : Part) (w : World) : Calls Tryd.prog 11 #[aggP p] w fun e w' => e = .returned (.int .i64 (errC p)) ∧ Below w.heap.size w w' := by
  obtain ⟨i, n, t⟩ := p
  unfold aggP errC
  cases i with
  | true =>
    by_cases hn : n = 0
    · subst hn
      have HE : Hid (rightB ⟨true, 0, t⟩ = true) := Lib.hid rfl
      rw [HE.out]
      go_enter Tryd.func11, Tryd.ntmps11
      go_wp2
      go_ret
      exact ⟨rfl, (Below.refl _ _).alloc (Nat.le_refl _) _⟩
    · have HE : Hid (rightB ⟨true, n, t⟩ = false) := Lib.hid (by simp [rightB, hn])
      rw [HE.out]
      have h1 : ((n : Int) == 0) = false := by rw [beq_eq_false_iff_ne]; omega
      have h2 : ((n : Int) != 0) = true := by rw [bne, h1]; rfl
      have h3 : decide ((n : Int) = 0) = false := decide_eq_false (by omega)
      clear hn
      go_enter Tryd.func11, Tryd.ntmps11
      go_wp2
      all_goals first | (go_ret; exact ⟨rfl, (Below.refl _ _).alloc (Nat.le_refl _) _⟩) | (exfalso; omega)
  | false =>
    by_cases ht : t = []
    · subst ht
      have HE : Hid (rightB ⟨false, n, []⟩ = true) := Lib.hid rfl
      rw [HE.out]
      go_enter Tryd.func11, Tryd.ntmps11
      go_wp2
      go_ret
      exact ⟨rfl, (Below.refl _ _).alloc (Nat.le_refl _) _⟩
    · have HE : Hid (rightB ⟨false, n, t⟩ = false) := Lib.hid (by simp [rightB, ht])
      rw [HE.out]
      have h1 : t.isEmpty = false := by cases t <;> simp_all
      have h2 : (⟨t.toArray⟩ : ByteArray).toList = t := Lib.toList_data _
      clear ht
      go_enter Tryd.func11, Tryd.ntmps11
      go_wp2
      all_goals first | (go_ret; exact ⟨rfl, (Below.refl _ _).alloc (Nat.le_refl _) _⟩) | (exfalso; simp_all; done)

theorem number_any (n : Nat) (w : World) : Calls Tryd.prog 15 #[.int .u64 n] w fun e w' => e = .returned (aggP ⟨false, n, []⟩) ∧ Below w.heap.size w w' := by
  go_enter Tryd.func15, Tryd.ntmps15
  go_wp2
  exact bodyPost_ret (v := aggP ⟨false, n, []⟩) (by simp [results, Tryd.f15, go_sem, aggP]) rfl ⟨rfl, (Below.refl _ _).alloc (Nat.le_refl _) _⟩
theorem text_any (t : Str) (w : World) : Calls Tryd.prog 16 #[.string ⟨t.toArray⟩] w fun e w' => e = .returned (aggP ⟨true, 0, t⟩) ∧ Below w.heap.size w w' := by
  go_enter Tryd.func16, Tryd.ntmps16
  go_wp2
  exact bodyPost_ret (v := aggP ⟨true, 0, t⟩) (by simp [results, Tryd.f16, go_sem, aggP]) rfl ⟨rfl, (Below.refl _ _).alloc (Nat.le_refl _) _⟩

def putRes (l : List Part) : Str × Int := if l.all rightB then (if 20000 < l.length then ([], 3) else (rowL l, 0)) else ([], 2)
theorem ret_put {l : List Part} {a : Str} {b : Int} (h : putRes l = (a, b)) : Ending.returned (.tuple #[.string ⟨a.toArray⟩, .int .i64 b]) = .returned (.tuple #[.string ⟨(putRes l).1.toArray⟩, .int .i64 (putRes l).2]) := by rw [h]
theorem rowL_take (l : List Part) (j : Nat) (p : Part) (h : l[j]? = some p) : rowL (l.take j) ++ saysL p = rowL (l.take (j + 1)) := by
  rw [List.take_add_one, h, rowL_append]
  simp [rowL]
theorem rowL_take_len (l : List Part) (j : Nat) : (rowL (l.take j)).length ≤ (rowL l).length := by
  conv => rhs; rw [← List.take_append_drop j l, rowL_append, List.length_append]
  omega
theorem putRes_long {l : List Part} (h : l.all rightB = true) (hl : 20000 < l.length) : putRes l = ([], 3) := by unfold putRes; rw [h, if_pos rfl, if_pos hl]
theorem putRes_good {l : List Part} (h : l.all rightB = true) (hl : l.length ≤ 20000) : putRes l = (rowL l, 0) := by unfold putRes; rw [h, if_pos rfl, if_neg (by omega)]
theorem putRes_bad {l : List Part} {j : Nat} {p : Part} (h : l[j]? = some p) (hp : rightB p = false) : putRes l = ([], 2) := by
  have : l.all rightB = false := by
    rw [List.all_eq_false]
    exact ⟨p, List.mem_of_getElem? h, by simp [hp]⟩
  unfold putRes
  rw [this]
  rfl
theorem all_of {l : List Part} (h : ∀ (j : Nat) (p : Part), l[j]? = some p → rightB p = true) : l.all rightB = true := by
  rw [List.all_eq_true]
  intro p hp
  obtain ⟨j, hj⟩ := List.mem_iff_getElem?.1 hp
  exact h j p hj

set_option maxRecDepth 100000 in
set_option maxHeartbeats 600000 in
theorem put_any (l : List Part) (v : Value) (w : World) (hv : RdP w v l) (hfit : ∀ p ∈ l, p.num < 18446744073709551616) (hlen : l.length ≤ 20000 → (rowL l).length ≤ 140737488355328) (hT : Tab w.heap.size w) :
    Calls Tryd.prog 13 #[v] w fun e w' => e = .returned (.tuple #[.string ⟨(putRes l).1.toArray⟩, .int .i64 (putRes l).2]) ∧ Below w.heap.size w w' := by
  obtain ⟨a, cap, rfl, hlc, hcm, hcell⟩ := hv
  unfold maxLen at hcm
  obtain ⟨n, hn⟩ : ∃ n, n = l.length := ⟨_, rfl⟩
  rw [← hn] at hlc hcell
  rw [← hn]
  have HN := Lib.hid hn
  have HC := Lib.hid hcell
  have HF := Lib.hid hfit
  have HLN := Lib.hid hlen
  clear hn hcell hfit hlen
  go_enter Tryd.func13, Tryd.ntmps13
  go_wp2
  go_loopw [5, 6, 12, 13, 14, 15, 16, 17, 18, 19, 20, 21] (fun _ _ i _ _ _ _ _ _ _ _ _ wr => ∃ k : Nat, k ≤ n ∧ i = .int .i64 k ∧ Below w.heap.size w wr ∧ Hid (∀ (j : Nat) (p : Part), j < k → l[j]? = some p → rightB p = true)) (fun _ _ i _ _ _ _ _ _ _ _ _ _ => n - (Lib.intOf i).toNat)
  case atStart => exact ⟨0, Nat.zero_le _, rfl, Below.refl _ _, Lib.hid (fun j p h => absurd h (Nat.not_lt_zero _))⟩
  case round =>
    obtain ⟨k, hk, rfl, hB, HR⟩ := hrel
    by_cases hlt : k < n
    · obtain ⟨p, hp⟩ : ∃ p, l[k]? = some p := ⟨_, List.getElem?_eq_getElem (by have := HN.out; omega)⟩
      obtain ⟨g, o, rfl, hg, hc⟩ := HC.out (by omega)
      obtain ⟨q0, q1, q2⟩ := hc k p hp
      have r0 := (hB.cell (p := ⟨g, _, none⟩) hg).trans q0
      have r1 := (hB.cell (p := ⟨g, _, none⟩) hg).trans q1
      have r2 := (hB.cell (p := ⟨g, _, none⟩) hg).trans q2
      have HP := Lib.hid hp
      clear q0 q1 q2 hc hp
      by_cases hr : rightB p = true
      · have HE : Hid (errC p = 0) := Lib.hid (by unfold errC; rw [hr]; rfl)
        have HRP := Lib.hid hr
        clear hr
        go_wp2_with (go_at_call 11; refine (check_any p _).mono ?_; rintro e w1 ⟨rfl, hb⟩; rw [HE.out])
        go_roundw
        case rel =>
          refine ⟨k + 1, hlt, by go_num, (hB.alloc hB.size _).trans (hb.mono (by have := hB.size; simp; omega)), Lib.hid fun j q hj hq => ?_⟩
          rcases Nat.lt_or_ge j k with h | h
          · exact HR.out j q h hq
          · obtain rfl : j = k := by omega
            have := HP.out.symm.trans hq
            cases this
            exact HRP.out
        case measure => simp [Lib.intOf]; omega
      · have HE : Hid (errC p = 2) := Lib.hid (by unfold errC; rw [Bool.eq_false_iff.2 hr]; rfl)
        have HB := Lib.hid (putRes_bad HP.out (Bool.eq_false_iff.2 hr))
        clear hr
        go_wp2_with (go_at_call 11; refine (check_any p _).mono ?_; rintro e w1 ⟨rfl, hb⟩; rw [HE.out])
        go_ret2
        exact ⟨ret_put HB.out, (hB.alloc hB.size _).trans (hb.mono (by have := hB.size; simp; omega))⟩
    · obtain rfl : k = n := by omega
      have HA : Hid (l.all rightB = true) := Lib.hid (all_of fun j p hp => HR.out j p (by have := (List.getElem?_eq_some_iff.1 hp).1; have := HN.out; omega) hp)
      by_cases hlong : 20000 < k
      · have HB : Hid (putRes l = ([], 3)) := Lib.hid (putRes_long HA.out (by have := HN.out; omega))
        go_wp2_with fail
        go_ret2
        exact ⟨ret_put HB.out, hB⟩
      · have HB : Hid (putRes l = (rowL l, 0)) := Lib.hid (putRes_good HA.out (by have := HN.out; omega))
        have HLR : Hid ((rowL l).length ≤ 140737488355328) := Lib.hid (HLN.out (by have := HN.out; omega))
        obtain ⟨wq, rfl⟩ : ∃ x, x = wr := ⟨wr, rfl⟩
        have h0 : Bld w.heap.size wq.heap.size (rowL (l.take 0)) (wq.alloc (.cells #[.pointer none, .slice none 0 0] 51)) :=
          Lib.IsBuilderF.of (.inl ⟨hB.size, .slice none 0 0, heap_alloc_new wq _, World.ownsRow_nil _ _ _ _, by simp [Value.ownBlock]⟩)
        have hB0 : Below w.heap.size w (wq.alloc (.cells #[.pointer none, .slice none 0 0] 51)) := hB.alloc hB.size _
        have hbs := hB.size
        have H0 := Lib.hid h0
        clear h0
        go_wp2_with fail
        go_loopw [9, 27, 28, 29, 30, 31, 32, 33] (fun _ i _ _ _ _ _ _ W => ∃ j : Nat, j ≤ k ∧ i = .int .i64 j ∧ Below w.heap.size w W ∧ Hid (Bld w.heap.size wq.heap.size (rowL (l.take j)) W)) (fun _ i _ _ _ _ _ _ _ => k - (Lib.intOf i).toNat)
        case atStart => exact ⟨0, Nat.zero_le _, rfl, hB0, H0⟩
        case round =>
          obtain ⟨j, hj, rfl, hB2, HB2⟩ := hrel
          have hbs2 := hB2.size
          by_cases hlt2 : j < k
          · obtain ⟨p, hp⟩ : ∃ p, l[j]? = some p := ⟨_, List.getElem?_eq_getElem (by have := HN.out; omega)⟩
            obtain ⟨g, o, rfl, hg, hc⟩ := HC.out (by omega)
            obtain ⟨q0, q1, q2⟩ := hc j p hp
            have r0 := (hB2.cell (p := ⟨g, _, none⟩) hg).trans q0
            have r1 := (hB2.cell (p := ⟨g, _, none⟩) hg).trans q1
            have r2 := (hB2.cell (p := ⟨g, _, none⟩) hg).trans q2
            have HP := Lib.hid hp
            have HX : Hid ((rowL (l.take j)).length + (saysL p).length ≤ 140737488355328) := Lib.hid (by
              have h1 := rowL_take_len l (j + 1)
              rw [← rowL_take l j p hp, List.length_append] at h1
              have := HLR.out
              omega)
            have HQ : Hid (p.num < 18446744073709551616) := Lib.hid (HF.out p (List.mem_of_getElem? hp))
            clear q0 q1 q2 hc hp
            go_wp2_with (go_at_call 22; refine (say_any w.heap.size wq.heap.size (rowL (l.take j)) p _ HQ.out (HB2.out.alloc _) HX.out (by simp; omega) (hT.on (hB2.alloc hB2.size _))).mono ?_; rintro e w1 ⟨rfl, hbl, hst⟩)
            go_roundw
            case rel =>
              refine ⟨j + 1, hlt2, by go_num, (hB2.alloc hB2.size _).trans hst.1, Lib.hid ?_⟩
              rw [← rowL_take l j p HP.out]
              exact hbl
            case measure => simp [Lib.intOf]; omega
          · obtain rfl : j = k := by omega
            have HE : Hid (l.take j = l) := Lib.hid (List.take_of_length_le (by have := HN.out; omega))
            have h2 : Bld w.heap.size wq.heap.size (rowL l) wr := by have := HB2.out; rwa [HE.out] at this
            have H2 := Lib.hid h2
            clear h2
            go_wp2_with (go_at_call 23; refine (Tryd.Builder_String_any_k w.heap.size wq.heap.size (rowL l) _ H2.out (by omega)).mono ?_; rintro e w1 ⟨rfl, hbl, hb, hst⟩)
            go_ret2
            exact ⟨ret_put HB.out, hB2.trans hb⟩
end Go.Proofs.YtmamolhclohniaaDoor
