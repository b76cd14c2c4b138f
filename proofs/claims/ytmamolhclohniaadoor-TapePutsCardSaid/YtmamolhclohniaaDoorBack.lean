/- Proved here: TapeBack of puncheonlaw02 returns true, whatever row of parts, and text, it is called with. -/
import Derived.Test.YtmamolhclohniaaDoorJoins2
namespace Go.Proofs.YtmamolhclohniaaDoor
open Go.RowKit Go.Shelf

theorem says_len2 (p : Part) (h : p.num < 18446744073709551616) (ht : p.text.length ≤ 300) : (saysL p).length ≤ 330 := by
  have h1 := dec_len p.num h
  have h2 := dec_len p.text.length (by omega)
  unfold saysL
  split <;> simp <;> omega
theorem few_small (l : List Part) (h : ∀ p ∈ l, p.num < 18446744073709551616) (hl : (fewL l).length ≤ 20000) : (rowL (fewL l)).length ≤ 33000 ∧ ∀ p ∈ fewL l, p.text.length ≤ 300 := by
  have hl2 : ¬ 20000 < l.length := by
    intro hc
    unfold fewL at hl
    rw [if_pos hc] at hl
    simp at hl
    omega
  have e : fewL l = (l.take 100).map cutT := by unfold fewL; rw [if_neg hl2]
  have hf2 : ∀ p ∈ l.take 100, p.num < 18446744073709551616 := fun p hp => h p (List.mem_of_mem_take hp)
  have hk : (l.take 100).length ≤ 100 := by simp; omega
  rw [e]
  refine ⟨?_, fun p hp => ?_⟩
  · have : (rowL ((l.take 100).map cutT)).length ≤ 330 * (l.take 100).length := by
      generalize l.take 100 = k at hf2
      induction k with
      | nil => simp [rowL]
      | cons p k ih =>
        have h1 := ih (fun q hq => hf2 q (by simp [hq]))
        have h2 := says_len2 (cutT p) (hf2 p (by simp)) (cutT_len p)
        rw [List.map_cons, rowL_cons, List.length_append, List.length_cons]
        omega
    omega
  · obtain ⟨q, _, rfl⟩ := List.mem_map.1 hp
    exact cutT_len q

theorem all_right {l : List Part} (h : l.all rightB = true) : ∀ p ∈ l, rightB p = true := fun p hp => List.all_eq_true.1 h p hp
theorem rowL_long (l : List Part) : 2 * l.length ≤ (rowL l).length := by
  induction l with
  | nil => simp [rowL]
  | cons p l ih =>
    have := saysL_len p
    rw [rowL_cons, List.length_append, List.length_cons]
    omega
theorem put_back (l : List Part) (h : ∀ p ∈ l, okP p) (hl : (rowL l).length ≤ 39998) : putRes l = (rowL l, 0) := by
  have := rowL_long l
  exact putRes_good (List.all_eq_true.2 fun p hp => (h p hp).1) (by omega)

/-- What is known of a whole text: it is a row; or it is one up to a place, and no further. -/
theorem text_cases (t : Str) (ht : t.length ≤ 5000) : (∃ l, allL t = (l, [], 0) ∧ t = rowL l ∧ ∀ p ∈ l, okP p) ∨
    ∃ (l : List Part) (k : Nat) (e : Int), e ≠ 0 ∧ (allL t).2.2 = e ∧ k = t.length - (allL t).2.1.length ∧ k ≤ t.length ∧ t.take k = rowL l ∧ ∀ p ∈ l, okP p := by
  obtain ⟨h1, h2⟩ := allF_back t.length t (by omega)
  by_cases he : (allL t).2.2 = 0
  · left
    have hd := allF_done t.length t (Nat.le_refl _) he
    rw [hd, List.append_nil] at h1
    refine ⟨(allL t).1, ?_, h1, h2⟩
    have : allL t = ((allL t).1, (allL t).2.1, (allL t).2.2) := rfl
    rw [this, he]
    show ((allL t).1, (allL t).2.1, (0 : Int)) = _
    have hd' : (allL t).2.1 = [] := hd
    rw [hd']
  · right
    obtain ⟨ps, q, e, hall⟩ : ∃ ps q e, allL t = (ps, q, e) := ⟨_, _, _, rfl⟩
    have h1' : t = rowL (allL t).1 ++ (allL t).2.1 := h1
    have h2' : ∀ p ∈ (allL t).1, okP p := h2
    rw [hall] at h1' h2' he ⊢
    refine ⟨ps, t.length - q.length, e, he, rfl, rfl, by omega, ?_, h2'⟩
    rw [h1', List.length_append, Nat.add_sub_cancel, List.take_left]

set_option maxRecDepth 100000 in
set_option maxHeartbeats 4000000 in
theorem back_any (la : List Part) (va : Value) (s : ByteArray) (hs : s.size ≤ 140737488355328) (w : World) (ha : RdP w va la) (fa : ∀ p ∈ la, p.num < 18446744073709551616) (hT : TabW w) : Calls Tryd.prog 5 #[va, .string s] w fun e w' => e = .returned (.bool true) ∧ Below w.heap.size w w' := by
  have HA := Lib.hid ha
  have HFA := Lib.hid (few_num la fa)
  have HLA := Lib.hid (few_len la fa)
  have HSM := Lib.hid (few_small la fa)
  have FA := Lib.hid (few_any la va)
  clear ha fa
  obtain ⟨a, hqa⟩ : ∃ a, a = fewL la := ⟨_, rfl⟩
  have HQA := Lib.hid hqa
  rw [← hqa] at HFA HLA HSM
  clear hqa
  obtain ⟨t, ht⟩ : ∃ t, t = s.data.toList.take 5000 := ⟨_, rfl⟩
  have htl : t.length ≤ 5000 := by rw [ht]; simp; omega
  have HTT := Lib.hid ht
  have HTC := Lib.hid (text_cases t htl)
  clear ht
  go_enter Tryd.func5, Tryd.ntmps5
  go_wp2_with fail
  refine (wakes_any _ hT).mono ?_
  rintro e w1 ⟨rfl, hb1⟩
  go_wp2_with fail
  refine (FA.out w1 (HA.out.below hb1 (Nat.le_refl _))).mono ?_
  rintro e w2 ⟨v1, rfl, ho1, hb2⟩
  rw [← HQA.out] at ho1
  have hB2 := bch hb1 hb2
  obtain ⟨a1, c1, rfl⟩ := own_len3 ho1
  have HO1 := Lib.hid ho1
  clear ho1
  have hsA : a.length ≤ 20000 → (rowL a).length ≤ 140737488355328 := by have := HLA.out; omega
  have HSA := Lib.hid hsA
  clear hsA
  go_wp2_with fail
  rcases putRes_cases a with ⟨h1, h2, h3⟩ | ⟨e0, h1, he, _⟩
  case' inl =>
    obtain ⟨hsm, htx⟩ := HSM.out h3
    have hok : ∀ p ∈ a, okP p := fun p hp => ⟨all_right h2 p hp, HFA.out p hp, by have := htx p hp; omega⟩
    have HAL : Hid (allL (⟨(rowL a).toArray⟩ : ByteArray).data.toList = (a, [], 0)) := Lib.hid (allF_row a hok _ (Nat.le_refl _))
    have H1 := Lib.hid h1
    clear h1 h2 htx hok
    refine (put_w a _ _ (RdP.of_own HO1.out) HFA.out HSA.out (hT.below hB2) _ _ H1.out).mono ?_
    rintro e' w3 ⟨rfl, hb3⟩
    have HO3 := Lib.hid (owns_below3 HO1.out hb3)
    have hB3 := bch hB2 hb3
    go_wp2_with fail
    refine (all_ok ⟨(rowL a).toArray⟩ (by show (rowL a).length ≤ 39998; omega) a HAL.out _).mono ?_
    rintro e' w4 ⟨v4, rfl, ho4, hb4⟩
    obtain ⟨a4, c4, rfl⟩ := own_len3 ho4
    have HO4 := Lib.hid ho4
    clear ho4
    have HO34 := Lib.hid (owns_below3 HO3.out hb4)
    have hB4 := bch hB3 hb4
    have hzz : (⟨(rowL a).toArray⟩ : ByteArray).size = (rowL a).length := rfl
    rw [hzz]
    clear hzz
    go_wp2_with fail
    refine (equal_any a _ _ _ (RdP.of_own HO4.out) (RdP.of_own HO34.out)).mono ?_
    rintro e' wz ⟨rfl, hbz⟩
    have hBz := bch hB4 hbz
    go_wp2_with fail
  case' inr =>
    have H1 := Lib.hid h1
    have q1 : (e0 == 0) = false := by rw [beq_eq_false_iff_ne]; omega
    clear h1 he
    refine (put_w a _ _ (RdP.of_own HO1.out) HFA.out HSA.out (hT.below hB2) _ _ H1.out).mono ?_
    rintro e' wz ⟨rfl, hbz⟩
    have hBz := bch hB2 hbz
    go_wp2_with fail
  all_goals
    refine (cut_any s hs _).mono ?_
    rintro e' wy ⟨rfl, rfl⟩
    rw [← HTT.out]
    go_wp2_with fail
    rcases HTC.out with ⟨l, hal, hrow, hok⟩ | ⟨l, k, e, he, hae, hk, hkl, hrow, hok⟩
    · have HAL : Hid (allL (⟨t.toArray⟩ : ByteArray).data.toList = (l, [], 0)) := Lib.hid hal
      have HPB := Lib.hid (put_back l hok (by rw [← hrow]; omega))
      have HNM : Hid (∀ p ∈ l, p.num < 18446744073709551616) := Lib.hid (fun p hp => (hok p hp).2.1)
      have HRW := Lib.hid hrow
      have HLL : Hid (l.length ≤ 20000 → (rowL l).length ≤ 140737488355328) := Lib.hid (fun _ => by rw [← hrow]; omega)
      clear hal hrow hok
      refine (all_ok ⟨t.toArray⟩ (by show t.length ≤ 39998; omega) l HAL.out _).mono ?_
      rintro e' w6 ⟨v6, rfl, ho6, hb6⟩
      have hB6 := bch hBz hb6
      have HO6 := Lib.hid ho6
      clear ho6
      go_wp2_with fail
      refine (put_w l _ _ (RdP.of_own HO6.out) HNM.out HLL.out (hT.below hB6) _ _ HPB.out).mono ?_
      rintro e' w7 ⟨rfl, hb7⟩
      rw [← HRW.out]
      go_wp2
      go_ret
      exact ⟨rfl, bch hB6 hb7⟩
    · have hcut : (⟨t.toArray⟩ : ByteArray).extract 0 k = ⟨(rowL l).toArray⟩ := by
        rw [ba_take]
        show (⟨(t.take k).toArray⟩ : ByteArray) = _
        rw [hrow]
      have HAL : Hid (allL (⟨(rowL l).toArray⟩ : ByteArray).data.toList = (l, [], 0)) := Lib.hid (allF_row l hok _ (Nat.le_refl _))
      have hrl : (rowL l).length ≤ 5000 := by rw [← hrow, List.length_take]; omega
      have HPB := Lib.hid (put_back l hok (by omega))
      have HNM : Hid (∀ p ∈ l, p.num < 18446744073709551616) := Lib.hid (fun p hp => (hok p hp).2.1)
      have HLL : Hid (l.length ≤ 20000 → (rowL l).length ≤ 140737488355328) := Lib.hid (fun _ => by omega)
      have HAE : Hid ((allL (⟨t.toArray⟩ : ByteArray).data.toList).2.2 = e) := Lib.hid hae
      have HKK : Hid (k = (⟨t.toArray⟩ : ByteArray).size - (allL (⟨t.toArray⟩ : ByteArray).data.toList).2.1.length) := Lib.hid hk
      have HE0 := Lib.hid he
      have q1 : (e != 0) = true := by rw [bne_iff_ne]; exact he
      have i1 : (0 : Int) ≤ (k : Int) := by omega
      have i2 : (k : Int) ≤ (t.length : Int) := by omega
      have HCUT := Lib.hid hcut
      clear hcut hrow hok hae hk he
      refine (all_no ⟨t.toArray⟩ (by show t.length ≤ 39998; omega) k e HE0.out HAE.out HKK.out _).mono ?_
      rintro e' w6 ⟨rfl, hb6⟩
      have hB6 := bch hBz hb6
      go_wp2_with fail
      rw [HCUT.out]
      refine (all_ok ⟨(rowL l).toArray⟩ (by show (rowL l).length ≤ 39998; omega) l HAL.out _).mono ?_
      rintro e' w7 ⟨v7, rfl, ho7, hb7⟩
      have hB7 := bch hB6 hb7
      have HO7 := Lib.hid ho7
      clear ho7
      go_wp2_with fail
      refine (put_w l _ _ (RdP.of_own HO7.out) HNM.out HLL.out (hT.below hB7) _ _ HPB.out).mono ?_
      rintro e' w8 ⟨rfl, hb8⟩
      have hcut := HCUT.out
      go_wp2
      go_ret
      exact ⟨rfl, bch hB7 hb8⟩
end Go.Proofs.YtmamolhclohniaaDoor
