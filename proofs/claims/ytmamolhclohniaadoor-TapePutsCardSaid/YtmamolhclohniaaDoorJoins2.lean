/- Proved here: TapeJoins of puncheonlaw02 returns true, whatever two rows of parts it is called with. -/
import Derived.Test.YtmamolhclohniaaDoorJoins
namespace Go.Proofs.YtmamolhclohniaaDoor
open Go.RowKit Go.Shelf

theorem cat_eq (a b : Str) : ((⟨a.toArray⟩ : ByteArray) ++ ⟨b.toArray⟩) = ⟨(a ++ b).toArray⟩ := by
  have h := cat_data a b
  have : ((⟨a.toArray⟩ : ByteArray) ++ ⟨b.toArray⟩).data = (a ++ b).toArray := by rw [← h]
  exact congrArg ByteArray.mk this

set_option maxRecDepth 100000 in
set_option maxHeartbeats 2000000 in
theorem joins_any (la lb : List Part) (va vb : Value) (w : World) (ha : RdP w va la) (hb : RdP w vb lb) (fa : ∀ p ∈ la, p.num < 18446744073709551616) (fb : ∀ p ∈ lb, p.num < 18446744073709551616) (hT : TabW w) : Calls Tryd.prog 7 #[va, vb] w fun e w' => e = .returned (.bool true) ∧ Below w.heap.size w w' := by
  have HA := Lib.hid ha
  have HB := Lib.hid hb
  have HFA := Lib.hid (few_num la fa)
  have HFB := Lib.hid (few_num lb fb)
  have HLA := Lib.hid (few_len la fa)
  have HLB := Lib.hid (few_len lb fb)
  have FA := Lib.hid (few_any la va)
  have FB := Lib.hid (few_any lb vb)
  clear ha hb fa fb
  obtain ⟨a, hqa⟩ : ∃ a, a = fewL la := ⟨_, rfl⟩
  obtain ⟨b, hqb⟩ : ∃ b, b = fewL lb := ⟨_, rfl⟩
  have HQA := Lib.hid hqa
  have HQB := Lib.hid hqb
  rw [← hqa] at HFA HLA
  rw [← hqb] at HFB HLB
  clear hqa hqb
  have hla : a.length ≤ 20001 := by have := HLA.out; omega
  have hlb : b.length ≤ 20001 := by have := HLB.out; omega
  have HM := Lib.hid (joins_math a b (by have := HLA.out; omega) (by have := HLB.out; omega))
  go_enter Tryd.func7, Tryd.ntmps7
  go_wp2_with fail
  refine (wakes_any _ hT).mono ?_
  rintro e w1 ⟨rfl, hb1⟩
  go_wp2_with fail
  refine (FA.out w1 (HA.out.below hb1 (Nat.le_refl _))).mono ?_
  rintro e w2 ⟨v1, rfl, ho1, hb2⟩
  rw [← HQA.out] at ho1
  have hB2 := bch hb1 hb2
  obtain ⟨a1, c1, rfl⟩ := own_len3 ho1
  have HO1 := Lib.hid ho1
  clear ho1
  go_wp2_with fail
  refine (FB.out w2 (HB.out.below hB2 (Nat.le_refl _))).mono ?_
  rintro e w3 ⟨v2, rfl, ho2, hb3⟩
  rw [← HQB.out] at ho2
  have hB3 := bch hB2 hb3
  obtain ⟨a2, c2, rfl⟩ := own_len3 ho2
  have HO2 := Lib.hid ho2
  clear ho2
  have HO1' := Lib.hid (owns_below3 HO1.out hb3)
  have hsA : a.length ≤ 20000 → (rowL a).length ≤ 140737488355328 := by have := HLA.out; omega
  have hsB : b.length ≤ 20000 → (rowL b).length ≤ 140737488355328 := by have := HLB.out; omega
  have hsC : (a ++ b).length ≤ 20000 → (rowL (a ++ b)).length ≤ 140737488355328 := by
    intro h
    rw [List.length_append] at h
    rw [rowL_append, List.length_append]
    have := HLA.out
    have := HLB.out
    omega
  have HSA := Lib.hid hsA
  have HSB := Lib.hid hsB
  have HSC := Lib.hid hsC
  clear hsA hsB hsC
  have hfAB : ∀ p ∈ a ++ b, p.num < 18446744073709551616 := fun p hp => by
    rcases List.mem_append.1 hp with hp | hp
    · exact HFA.out p hp
    · exact HFB.out p hp
  have HFAB := Lib.hid hfAB
  clear hfAB
  obtain ⟨x, e, hx⟩ : ∃ x e, putRes a = (x, e) := ⟨_, _, rfl⟩
  obtain ⟨y, f, hy⟩ : ∃ y f, putRes b = (y, f) := ⟨_, _, rfl⟩
  obtain ⟨z, g, hz⟩ : ∃ z g, putRes (a ++ b) = (z, g) := ⟨_, _, rfl⟩
  have HX := Lib.hid hx
  have HY := Lib.hid hy
  have HZ := Lib.hid hz
  clear hx hy hz
  go_wp2_with fail
  refine (put_w a _ _ (RdP.of_own HO1'.out) HFA.out HSA.out (hT.below hB3) x e HX.out).mono ?_
  rintro e' w4 ⟨rfl, hb4⟩
  have hB4 := bch hB3 hb4
  have HO2' := Lib.hid (owns_below3 HO2.out hb4)
  have HO14 := Lib.hid (owns_below3 HO1'.out hb4)
  go_wp2_with fail
  refine (put_w b _ _ (RdP.of_own HO2'.out) HFB.out HSB.out (hT.below hB4) y f HY.out).mono ?_
  rintro e' w5 ⟨rfl, hb5⟩
  have hB5 := bch hB4 hb5
  have HO25 := Lib.hid (owns_below3 HO2'.out hb5)
  have HO15 := Lib.hid (owns_below3 HO14.out hb5)
  go_wp2_with fail
  refine (clone_any a _ _ (RdP.of_own HO15.out) (by omega)).mono ?_
  rintro e' w6 ⟨vc, rfl, hoc, hb6⟩
  have hB6 := bch hB5 hb6
  have HO26 := Lib.hid (owns_below3 HO25.out hb6)
  have HOC := Lib.hid hoc
  have hs6 := hb6.size
  clear hoc
  go_wp2_with (at_builtin; refine wpList_append_both rfl _ _ rfl w5.heap.size w2.heap.size vc _ a b rfl HOC.out rfl HO26.out hs6 (by omega) ?_; intro vj w7 hoj hb7; refine Hid.out ?_)
  refine Lib.hid ?_
  have hB7 : Below w.heap.size w w7 := hB6.trans (hb7.mono hB5.size)
  have HOJ := Lib.hid hoj
  clear hoj
  go_wp2_with fail
  refine (put_w (a ++ b) _ _ (RdP.of_own HOJ.out) HFAB.out HSC.out (hT.below hB7) z g HZ.out).mono ?_
  rintro e' w8 ⟨rfl, hb8⟩
  have hB8 := bch hB7 hb8
  rcases HM.out with ⟨h1, h2, h3, h4, h5⟩ | ⟨x', y', e', f', g', h1, h2, h3, h4, h5⟩
  · have k1 := HX.out.symm.trans h1
    have k2 := HY.out.symm.trans h2
    have k3 := HZ.out.symm.trans h3
    cases k1; cases k2; cases k3
    clear h1 h2 h3
    have i1 : (a.length : Int) ≤ 100 := by omega
    have i2 : (b.length : Int) ≤ 100 := by omega
    have j1 : (rowL a).length ≤ 40000 := by have := HLA.out; omega
    have j2 : (rowL b).length ≤ 40000 := by have := HLB.out; omega
    have hcat : ((⟨(rowL a).toArray⟩ : ByteArray) ++ ⟨(rowL b).toArray⟩) = ⟨(rowL a ++ rowL b).toArray⟩ := cat_eq _ _
    go_wp2
    all_goals first | (go_ret; exact ⟨rfl, hB8⟩) | (exfalso; omega) | trace_state
  · have k1 := HX.out.symm.trans h1
    have k2 := HY.out.symm.trans h2
    have k3 := HZ.out.symm.trans h3
    cases k1; cases k2; cases k3
    clear h1 h2 h3
    have t1 : (g != 0) = true := by rw [bne_iff_ne]; omega
    have t2 : (g == 0) = false := by rw [beq_eq_false_iff_ne]; omega
    by_cases he : e = 0
    · subst he
      have t3 : (f != 0) = true := by rw [bne_iff_ne]; omega
      clear h4 h5
      go_wp2
      all_goals (go_ret; exact ⟨rfl, hB8⟩)
    · have t3 : (e != 0) = true := by rw [bne_iff_ne]; exact he
      clear h4 h5 he
      go_wp2
      all_goals (go_ret; exact ⟨rfl, hB8⟩)
end Go.Proofs.YtmamolhclohniaaDoor
