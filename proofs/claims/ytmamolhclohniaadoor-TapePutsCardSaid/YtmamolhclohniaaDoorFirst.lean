/- Proved here: TapeFirst of puncheonlaw02 returns true, whatever part and text it is called with. -/
import Derived.Test.YtmamolhclohniaaDoorWakes
namespace Go.Proofs.YtmamolhclohniaaDoor
open Go.RowKit Go.Shelf

theorem dec_len (n : Nat) (h : n < 18446744073709551616) : (Lib.decDigits n).length ≤ 20 := by rw [Lib.decDigits_length]; exact Lib.nDigits_le20 n h
theorem says_len (p : Part) (h : p.num < 18446744073709551616) (ht : p.text.length ≤ 300) : (saysL p).length ≤ 400 := by
  have h1 := dec_len p.num h
  have h2 := dec_len p.text.length (by omega)
  unfold saysL
  split <;> simp <;> omega
theorem cutT_len (p : Part) : (cutT p).text.length ≤ 300 := by simp [cutT]; omega
theorem few_one (p : Part) : fewL [p] = [cutT p] := by simp [fewL]
theorem put_one (p : Part) (h : rightB p = true) : putRes [p] = (saysL p, 0) := by simp [putRes, h, rowL]
theorem put_one_no (p : Part) (h : rightB p = false) : putRes [p] = ([], 2) := by simp [putRes, h]

theorem cat_data (a b : Str) : ((⟨a.toArray⟩ : ByteArray) ++ ⟨b.toArray⟩).data.toList = a ++ b := by simp

set_option maxRecDepth 100000 in
set_option maxHeartbeats 2000000 in
theorem first_any (p : Part) (hp : p.num < 18446744073709551616) (s : ByteArray) (hs : s.size ≤ 140737488355328) (w : World) (hT : TabW w) : Calls Tryd.prog 6 #[aggP p, .string s] w fun e w' => e = .returned (.bool true) ∧ Below w.heap.size w w' := by
  have hb0 := bal (Below.refl _ w) (.cells #[.bool p.isText, .int .u64 p.num, .string ⟨p.text.toArray⟩] 29)
  have p0 : PBox (w.alloc (.cells #[.bool p.isText, .int .u64 p.num, .string ⟨p.text.toArray⟩] 29)) w.heap.size p := heap_alloc_new w _
  have hT0 := hT.alloc (.cells #[.bool p.isText, .int .u64 p.num, .string ⟨p.text.toArray⟩] 29)
  obtain ⟨q, hq⟩ : ∃ q, q = cutT p := ⟨_, rfl⟩
  have hqt : q.text.length ≤ 300 := by rw [hq]; exact cutT_len p
  have hqn : q.num < 18446744073709551616 := by rw [hq]; exact hp
  obtain ⟨b, hb⟩ : ∃ b, b = s.data.toList.take 5000 := ⟨_, rfl⟩
  have hbl : b.length ≤ 5000 := by rw [hb]; simp; omega
  have hsl := says_len q hqn hqt
  have HQ := Lib.hid hq
  have HB := Lib.hid hb
  clear hq hb hp
  unfold aggP
  go_enter Tryd.func6, Tryd.ntmps6
  go_wp2_with fail
  refine (wakes_any _ hT0).mono ?_
  rintro e w1 ⟨rfl, hb1⟩
  have hB1 := bch hb0 hb1
  have p1 := p0.below hb1
  have hT1 := hT0.below hb1
  have c0 := p1.c0; have c1 := p1.c1; have c2 := p1.c2
  have hr1 := RdP.lit w1 #[.bool p.isText, .int .u64 p.num, .string ⟨p.text.toArray⟩] [p] rfl (by unfold maxLen; simp)
  have HR1 := Lib.hid hr1
  clear hr1
  go_wp2_with fail
  refine (few_any [p] _ _ HR1.out).mono ?_
  rintro e w2 ⟨v, rfl, ho, hb2⟩
  have hB2 := bch (bal hB1 (.cells #[.bool p.isText, .int .u64 p.num, .string ⟨p.text.toArray⟩] 29)) hb2
  have p2 := (p1.below (bal (Below.refl _ w1) (.cells #[.bool p.isText, .int .u64 p.num, .string ⟨p.text.toArray⟩] 29))).below hb2
  have hT2 := (hT1.alloc (.cells #[.bool p.isText, .int .u64 p.num, .string ⟨p.text.toArray⟩] 29)).below hb2
  rw [few_one, ← HQ.out] at ho
  obtain ⟨g, cp, hv, hgb, hgl, hc, hm⟩ := own_form3 ho (Nat.lt_succ_self 0)
  cases hv
  have d0 := own_cell3 ho 0 _ rfl
  have d1 := own_cell3 ho 1 _ rfl
  have d2 := own_cell3 ho 2 _ rfl
  have f0 := p2.frozen 0; have f1 := p2.frozen 1; have f2 := p2.frozen 2
  have e0 := p2.c0; have e1 := p2.c1; have e2 := p2.c2
  clear c0 c1 c2 ho
  go_wp2_with fail
  have p3' := p2.set3 q
  have hB3' := below_set3 hB2 (Nat.le_refl w.heap.size) (.bool q.isText) (.int .u64 q.num) (.string ⟨q.text.toArray⟩)
  obtain ⟨w3, hw3⟩ : ∃ x, x = (((w2.setCell ⟨w.heap.size, 0, none⟩ (.bool q.isText)).setCell ⟨w.heap.size, 1, none⟩ (.int .u64 q.num)).setCell ⟨w.heap.size, 2, none⟩ (.string ⟨q.text.toArray⟩)) := ⟨_, rfl⟩
  rw [← hw3]
  have p3 : PBox w3 w.heap.size q := by rw [hw3]; exact p3'
  have hB3 : Below w.heap.size w w3 := by rw [hw3]; exact hB3'
  clear p3' hB3' hw3 d0 d1 d2 f0 f1 f2 e0 e1 e2 p2 hT2 hb2 hB2
  refine (cut_any s hs _).mono ?_
  rintro e w4 ⟨rfl, rfl⟩
  rw [← HB.out]
  have e0 := p3.c0; have e1 := p3.c1; have e2 := p3.c2
  have hr3 := Lib.hid (RdP.lit w3 #[.bool q.isText, .int .u64 q.num, .string ⟨q.text.toArray⟩] [q] rfl (by unfold maxLen; simp))
  have hb3 := bal (Below.refl _ w3) (.cells #[.bool q.isText, .int .u64 q.num, .string ⟨q.text.toArray⟩] 29)
  have hT3 := (hT.below hB3).below hb3
  have hput := fun (a : Str) (e : Int) (h : putRes [q] = (a, e)) => put_w [q] _ _ hr3.out (by intro x hx; obtain rfl := List.mem_singleton.1 hx; exact hqn) (fun _ => by simp [rowL]; omega) hT3 a e h
  have HPUT := Lib.hid hput
  clear hput
  by_cases hR : rightB q = true
  · have HR := Lib.hid hR
    clear hR
    go_wp2_with fail
    refine (HPUT.out _ _ (put_one q HR.out)).mono ?_
    rintro e w5 ⟨rfl, hb5⟩
    have p5 := (p3.below hb3).below hb5
    have hB5 := bch (bal hB3 (.cells #[.bool q.isText, .int .u64 q.num, .string ⟨q.text.toArray⟩] 29)) hb5
    have HTK : Hid (takeR ((⟨(saysL q).toArray⟩ : ByteArray) ++ ⟨b.toArray⟩).data.toList = .ok q b) := Lib.hid (by rw [cat_data]; exact take_says q b HR.out hqn (by omega))
    have hz : ((⟨(saysL q).toArray⟩ : ByteArray) ++ ⟨b.toArray⟩).size ≤ 140737488355328 := by
      have : ((⟨(saysL q).toArray⟩ : ByteArray) ++ ⟨b.toArray⟩).data.toList.length = ((⟨(saysL q).toArray⟩ : ByteArray) ++ ⟨b.toArray⟩).size := rfl
      rw [← this, cat_data, List.length_append]
      omega
    have HZ := Lib.hid hz
    clear hz e0 e1 e2
    go_wp2_with fail
    refine (take_w_ok _ HZ.out q b HTK.out _).mono ?_
    rintro e w6 ⟨rfl, hb6⟩
    have p6 := p5.below hb6
    have hB6 := bch hB5 hb6
    have p7 := p6.below (bal (Below.refl _ w6) (.cells #[.bool q.isText, .int .u64 q.num, .string ⟨q.text.toArray⟩] 29))
    have g0 := p6.c0; have g1 := p6.c1; have g2 := p6.c2
    have hgd := guard29
    have hne := neq29 q.isText q.num ⟨q.text.toArray⟩
    have hlt := p6.lt
    have hpos := saysL_len q
    have HTS : Hid (takeR ((⟨(saysL q).toArray⟩ : ByteArray).extract 0 ((saysL q).length - 1)).data.toList = .no 7) := Lib.hid (by
      rw [Lib.extract_data, List.drop_zero, Nat.sub_zero, ← List.dropLast_eq_take]
      exact take_short q HR.out hqn (by omega))
    have hz2 : ((⟨(saysL q).toArray⟩ : ByteArray).extract 0 ((saysL q).length - 1)).size ≤ 140737488355328 := by
      have : ((⟨(saysL q).toArray⟩ : ByteArray).extract 0 ((saysL q).length - 1)).data.toList.length = ((⟨(saysL q).toArray⟩ : ByteArray).extract 0 ((saysL q).length - 1)).size := rfl
      rw [← this, Lib.extract_data, List.drop_zero, Nat.sub_zero, List.length_take]
      show min _ (saysL q).length ≤ _
      omega
    have HZ2 := Lib.hid hz2
    clear hz2
    go_wp2_with fail
    refine (take_w_no _ HZ2.out 7 HTS.out _).mono ?_
    rintro e w7 ⟨rfl, hb7⟩
    go_wp2_with fail
    go_ret
    exact ⟨rfl, bch (bal hB6 _) hb7⟩
  · have HR := Lib.hid (Bool.eq_false_iff.2 hR)
    clear hR
    go_wp2_with fail
    refine (HPUT.out _ _ (put_one_no q HR.out)).mono ?_
    rintro e w5 ⟨rfl, hb5⟩
    have p5 := (p3.below hb3).below hb5
    have hB5 := bch (bal hB3 (.cells #[.bool q.isText, .int .u64 q.num, .string ⟨q.text.toArray⟩] 29)) hb5
    have HE : Hid (errC q = 2) := Lib.hid (by unfold errC; rw [HR.out]; rfl)
    clear e0 e1 e2
    have e0 := p5.c0; have e1 := p5.c1; have e2 := p5.c2
    go_wp2_with fail
    refine (check_any q _).mono ?_
    rintro e w6 ⟨rfl, hb6⟩
    rw [HE.out]
    go_wp2_with fail
    go_ret
    exact ⟨rfl, bch hB5 hb6⟩
end Go.Proofs.YtmamolhclohniaaDoor
