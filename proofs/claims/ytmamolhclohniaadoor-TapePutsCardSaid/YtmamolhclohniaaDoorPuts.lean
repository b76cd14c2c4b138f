/- Proved here: TapePuts of puncheonlaw02 returns true, whatever a row of parts, numbers and texts it is called with. -/
import Derived.Test.YtmamolhclohniaaDoorRefW
import Derived.Test.YtmamolhclohniaaDoorBack
import Derived.Test.YtmamolhclohniaaDoorTakesLaw
namespace Go.Proofs.YtmamolhclohniaaDoor
open Go.RowKit Go.Shelf

/-- The slice reads as these numbers. -/
def RdN (w : World) (v : Value) (l : List Nat) : Prop :=
  ∃ (a : Option Addr) (cap : Nat), v = .slice a l.length cap ∧ l.length ≤ cap ∧ cap ≤ maxLen ∧
    (0 < l.length → ∃ g o, a = some ⟨g, o, none⟩ ∧ g < w.heap.size ∧ ∀ (j : Nat) (n : Nat), l[j]? = some n → w.cell? ⟨g, o + j, none⟩ = some (.int .u64 n))

theorem rright_w (p : Part) (b : Bool) (h : rightB p = b) (w : World) : Calls Tryd.prog 10 #[.agg #[.bool p.isText, .int .u64 p.num, .string ⟨p.text.toArray⟩]] w fun e w' => e = .returned (.bool b) ∧ Below w.heap.size w w' := by
  subst h
  exact rright_any p w
theorem check_w (p : Part) (e0 : Int) (h : errC p = e0) (w : World) : Calls Tryd.prog 11 #[.agg #[.bool p.isText, .int .u64 p.num, .string ⟨p.text.toArray⟩]] w fun e w' => e = .returned (.int .i64 e0) ∧ Below w.heap.size w w' := by
  subst h
  exact check_any p w
theorem number_w (n : Nat) (w : World) : Calls Tryd.prog 15 #[.int .u64 n] w fun e w' => e = .returned (.agg #[.bool false, .int .u64 n, .string ⟨#[]⟩]) ∧ Below w.heap.size w w' := number_any n w

theorem all_take {l : List Part} {k : Nat} {p : Part} (h : l[k]? = some p) : (l.take (k + 1)).all rightB = ((l.take k).all rightB && rightB p) := by
  rw [List.take_add_one, h, List.all_append]
  simp

set_option linter.unusedSimpArgs false in
set_option maxRecDepth 100000 in
set_option maxHeartbeats 4000000 in
theorem puts_any (la : List Part) (ns : List Nat) (ts : List ByteArray) (va vn vt : Value) (w : World) (ha : RdP w va la) (hn : RdN w vn ns) (ht : RdT w vt ts) (fa : ∀ p ∈ la, p.num < 18446744073709551616) (hT : TabW w) : Calls Tryd.prog 3 #[va, vn, vt] w fun e w' => e = .returned (.bool true) ∧ Below w.heap.size w w' := by
  obtain ⟨an, cn, rfl, hlcn, hcmn, hcelln⟩ := hn
  obtain ⟨at', ct, rfl, hlct, hcmt, _, hcellt⟩ := ht
  unfold maxLen at hcmn hcmt
  have HA := Lib.hid ha
  have HFA := Lib.hid (few_num la fa)
  have HLA := Lib.hid (few_len la fa)
  have HSM := Lib.hid (few_small la fa)
  have FA := Lib.hid (few_any la va)
  clear ha fa
  obtain ⟨a, hqa⟩ : ∃ a, a = fewL la := ⟨_, rfl⟩
  have HQA := Lib.hid hqa
  rw [← hqa] at HFA HLA HSM
  clear hqa
  have hla : a.length ≤ 20001 := by have := HLA.out; omega
  obtain ⟨nn, hnn⟩ : ∃ nn, nn = ns.length := ⟨_, rfl⟩
  obtain ⟨nt, hnt⟩ : ∃ nt, nt = ts.length := ⟨_, rfl⟩
  rw [← hnn] at hlcn hcelln
  rw [← hnt] at hlct hcellt
  rw [← hnn, ← hnt]
  have HNN := Lib.hid hnn
  have HNT := Lib.hid hnt
  have HCN := Lib.hid hcelln
  have HCT := Lib.hid hcellt
  clear hnn hnt hcelln hcellt
  go_enter Tryd.func3, Tryd.ntmps3
  go_wp2_with fail
  refine (wakes_any _ hT).mono ?_
  rintro e w1 ⟨rfl, hb1⟩
  go_wp2_with fail
  refine (FA.out w1 (HA.out.below hb1 (Nat.le_refl _))).mono ?_
  rintro e w2 ⟨v1, rfl, ho1, hb2⟩
  rw [← HQA.out] at ho1
  have hB2 := bch hb1 hb2
  obtain ⟨a1, c1, hv1, hlc1, hcm1, hcell1⟩ := RdP.of_own ho1
  have HO1 := Lib.hid ho1
  clear ho1
  subst hv1
  unfold maxLen at hcm1
  obtain ⟨n, hnq⟩ : ∃ n, n = a.length := ⟨_, rfl⟩
  rw [← hnq] at hlc1 hcell1 HO1 hla
  rw [← hnq]
  have HNQ := Lib.hid hnq
  have HC1 := Lib.hid hcell1
  clear hnq hcell1
  go_wp2_with fail
  go_loopw [7, 9, 10, 11, 25, 26, 27, 28, 29, 30, 31, 32, 33, 34, 35, 36, 37, 38, 39, 40, 41, 42, 43, 44, 45, 46, 47, 48, 49] (fun f _ _ _ i _ _ _ _ _ _ _ _ _ _ _ _ _ _ _ _ _ _ _ _ _ _ _ _ wr => ∃ k : Nat, k ≤ n ∧ f = .bool ((a.take k).all rightB) ∧ i = .int .i64 k ∧ Below w2.heap.size w2 wr) (fun _ _ _ _ i _ _ _ _ _ _ _ _ _ _ _ _ _ _ _ _ _ _ _ _ _ _ _ _ _ => n - (Lib.intOf i).toNat)
  case atStart => exact ⟨0, Nat.zero_le _, by simp, rfl, Below.refl _ _⟩
  case round =>
    obtain ⟨k, hk, rfl, rfl, hB⟩ := hrel
    by_cases hlt : k < n
    · obtain ⟨p, hp⟩ : ∃ p, a[k]? = some p := ⟨_, List.getElem?_eq_getElem (by have := HNQ.out; omega)⟩
      obtain ⟨g, o, rfl, hg, hc⟩ := HC1.out (by omega)
      obtain ⟨q0, q1, q2⟩ := hc k p hp
      have r0 := (hB.cell (p := ⟨g, _, none⟩) hg).trans q0
      have r1 := (hB.cell (p := ⟨g, _, none⟩) hg).trans q1
      have r2 := (hB.cell (p := ⟨g, _, none⟩) hg).trans q2
      have HAT := Lib.hid (all_take hp)
      clear q0 q1 q2 hc hp
      obtain ⟨f, hf⟩ : ∃ f, (a.take k).all rightB = f := ⟨_, rfl⟩
      rw [hf] at HAT
      rw [hf]
      clear hf
      obtain ⟨b, hb⟩ : ∃ b, rightB p = b := ⟨_, rfl⟩
      rw [hb] at HAT
      have HRB := Lib.hid hb
      clear hb
      have p0 : PBox (wr.alloc (.cells #[.bool p.isText, .int .u64 p.num, .string ⟨p.text.toArray⟩] 29)) wr.heap.size p := heap_alloc_new wr _
      go_wp2_with fail
      refine (rright_w p b HRB.out _).mono ?_
      rintro e w3 ⟨rfl, hb3⟩
      have p3 := p0.below hb3
      have c0 := p3.c0; have c1 := p3.c1; have c2 := p3.c2
      have hlt3 := p3.lt
      obtain ⟨e0, he0⟩ : ∃ e0, errC p = e0 := ⟨_, rfl⟩
      have HE0 := Lib.hid he0
      clear he0
      go_wp2_with fail
      refine (check_w p e0 HE0.out _).mono ?_
      rintro e w4 ⟨rfl, hb4⟩
      have hB4 := bch (bch (bal hB (.cells #[.bool p.isText, .int .u64 p.num, .string ⟨p.text.toArray⟩] 29)) hb3) hb4
      have hee : e0 = if b then 0 else 2 := by rw [← HE0.out, errC, HRB.out]
      subst hee
      clear c0 c1 c2 hlt3 r0 r1 r2
      cases b <;> cases f
      all_goals
        simp only [Bool.false_eq_true, if_true, if_false]
        simp only [Bool.and_true, Bool.and_false] at HAT
        go_wp2_with fail
        go_roundw
        case rel => exact ⟨k + 1, hlt, by rw [HAT.out], by go_num, hB4⟩
        case measure => simp [Lib.intOf]; omega
    · have HTK : Hid (a.take k = a) := Lib.hid (List.take_of_length_le (by have := HNQ.out; omega))
      rw [HTK.out]
      have hBa := hB2.trans (hB.mono hB2.size)
      have HO2 := Lib.hid (owns_below3 HO1.out hB)
      have hra : RdP wr (.slice a1 n c1) a := by rw [HNQ.out] at HO2 ⊢; exact RdP.of_own HO2.out
      have HRA := Lib.hid hra
      clear hra
      obtain ⟨f, hf⟩ : ∃ f, a.all rightB = f := ⟨_, rfl⟩
      rw [hf]
      have HF := Lib.hid hf
      clear hf
      go_wp2_with fail
      refine (clone_any a _ _ HRA.out (by have := HNQ.out; omega)).mono ?_
      rintro e w3 ⟨vc, rfl, hoc, hb3⟩
      have hB3 := hBa.trans (hb3.mono hBa.size)
      have HOC := Lib.hid hoc
      have HRC := Lib.hid (RdP.of_own hoc)
      have HRA3 := Lib.hid (HRA.out.below hb3 (Nat.le_refl _))
      clear hoc
      obtain ⟨x, e0, hx⟩ : ∃ x e0, putRes a = (x, e0) := ⟨_, _, rfl⟩
      have HX := Lib.hid hx
      clear hx
      have HSA : Hid (a.length ≤ 20000 → (rowL a).length ≤ 140737488355328) := Lib.hid (fun h => by have := (HSM.out h).1; omega)
      go_wp2_with fail
      refine (put_w a _ _ HRA3.out HFA.out HSA.out (hT.below hB3) x e0 HX.out).mono ?_
      rintro e w5 ⟨rfl, hb5⟩
      have hB5 := bch hB3 hb5
      have HRC5 := Lib.hid (HRC.out.below hb5 (Nat.le_refl _))
      have HRA5 := Lib.hid (HRA3.out.below hb5 (Nat.le_refl _))
      have hcs : (f = false ∧ x = [] ∧ e0 = 2) ∨ (f = true ∧ 20000 < n ∧ x = [] ∧ e0 = 3) ∨ (f = true ∧ n ≤ 20000 ∧ x = rowL a ∧ e0 = 0) := by
        cases f with
        | false =>
          left
          have h1 := HX.out
          unfold putRes at h1
          rw [HF.out] at h1
          cases h1
          exact ⟨rfl, rfl, rfl⟩
        | true =>
          right
          by_cases h20 : 20000 < n
          · left
            have h1 := HX.out.symm.trans (putRes_long HF.out (by have := HNQ.out; omega))
            cases h1
            exact ⟨rfl, h20, rfl, rfl⟩
          · right
            have h1 := HX.out.symm.trans (putRes_good HF.out (by have := HNQ.out; omega))
            cases h1
            exact ⟨rfl, by omega, rfl, rfl⟩
      rcases hcs with ⟨rfl, rfl, rfl⟩ | ⟨rfl, h20, rfl, rfl⟩ | ⟨rfl, h20, rfl, rfl⟩
      case' inl =>
        have hB7 : Below w5.heap.size w5 w5 := Below.refl _ _
        go_wp2_with fail
      case' inr.inl =>
        have h21 : (20000 : Int) < (n : Int) := by omega
        have hB7 : Below w5.heap.size w5 w5 := Below.refl _ _
        go_wp2_with fail
      case' inr.inr =>
        have h21 : (n : Int) ≤ 20000 := by omega
        have hsm := HSM.out (by have := HNQ.out; omega)
        go_wp2_with fail
        refine (rrow_any a _ _ HRC5.out HFA.out hsm.2 (by omega)).mono ?_
        rintro e w7 ⟨rfl, hB7⟩
        go_wp2_with fail
      all_goals
        clear hB hb3
        obtain ⟨wq, rfl⟩ : ∃ x, x = wr := ⟨_, rfl⟩
        go_loopw [15, 16, 87, 88, 89, 90, 91, 92, 93, 94, 95, 96, 97, 98, 99, 100, 101] (fun _ _ i _ _ _ _ _ _ _ _ _ _ _ _ _ _ wr => ∃ k : Nat, k ≤ nn ∧ i = .int .i64 k ∧ Below w5.heap.size w5 wr) (fun _ _ i _ _ _ _ _ _ _ _ _ _ _ _ _ _ _ => nn - (Lib.intOf i).toNat)
        case atStart => exact ⟨0, Nat.zero_le _, rfl, hB7⟩
        case round =>
          obtain ⟨k2, hk2, rfl, hB⟩ := hrel
          have hBw := hB5.trans (hB.mono hB5.size)
          by_cases hlt2 : k2 < nn
          · obtain ⟨m, hm⟩ : ∃ m, ns[k2]? = some m := ⟨_, List.getElem?_eq_getElem (by have := HNN.out; omega)⟩
            obtain ⟨g, o, rfl, hg, hc⟩ := HCN.out (by omega)
            have r0 := (hBw.cell (p := ⟨g, _, none⟩) hg).trans (hc k2 m hm)
            clear hc hm
            have hne := neq29 false m ⟨#[]⟩
            have hgd := guard29
            by_cases h8 : k2 < 8
            · have q8 : decide ((k2 : Int) < 8) = true := decide_eq_true (by omega)
              clear h8
              go_wp2_with fail
              refine (number_w m _).mono ?_
              rintro e w8 ⟨rfl, hb8⟩
              go_wp2_with fail
              go_roundw
              case rel => exact ⟨k2 + 1, hlt2, by go_num, bch hB hb8⟩
              case measure => simp [Lib.intOf]; omega
            · have q8 : decide ((k2 : Int) < 8) = false := decide_eq_false (by omega)
              clear h8
              go_wp2_with fail
              go_roundw
              case rel => exact ⟨k2 + 1, hlt2, by go_num, hB⟩
              case measure => simp [Lib.intOf]; omega
          · go_wp2_with fail
            clear hlt2 hBw hB7
            obtain ⟨wq, rfl⟩ : ∃ x, x = wr := ⟨_, rfl⟩
            go_loopw [17, 18, 104, 105, 106, 107, 108, 109, 110, 111, 112, 113, 114, 115, 116, 117, 118] (fun _ _ i _ _ _ _ _ _ _ _ _ _ _ _ _ _ wr => ∃ k : Nat, k ≤ nt ∧ i = .int .i64 k ∧ Below w5.heap.size w5 wr) (fun _ _ i _ _ _ _ _ _ _ _ _ _ _ _ _ _ _ => nt - (Lib.intOf i).toNat)
            case atStart => exact ⟨0, Nat.zero_le _, rfl, hB⟩
            case round =>
              clear hB
              obtain ⟨k3, hk3, rfl, hB⟩ := hrel
              have hBw := hB5.trans (hB.mono hB5.size)
              by_cases hlt3 : k3 < nt
              · obtain ⟨t, ht⟩ : ∃ t, ts[k3]? = some t := ⟨_, List.getElem?_eq_getElem (by have := HNT.out; omega)⟩
                obtain ⟨g, o, rfl, hg, hc⟩ := HCT.out (by omega)
                have r0 := (hBw.cell (p := ⟨g, _, none⟩) hg).trans (hc k3 t ht)
                clear hc ht
                have hne := neq29 true 0 t
                have hgd := guard29
                by_cases h8 : k3 < 8
                · have q8 : decide ((k3 : Int) < 8) = true := decide_eq_true (by omega)
                  clear h8
                  go_wp2_with fail
                  refine (texts_any t _).mono ?_
                  rintro e w8 ⟨rfl, hb8⟩
                  go_wp2_with fail
                  go_roundw
                  case rel => exact ⟨k3 + 1, hlt3, by go_num, bch hB hb8⟩
                  case measure => simp [Lib.intOf]; omega
                · have q8 : decide ((k3 : Int) < 8) = false := decide_eq_false (by omega)
                  clear h8
                  go_wp2_with fail
                  go_roundw
                  case rel => exact ⟨k3 + 1, hlt3, by go_num, hB⟩
                  case measure => simp [Lib.intOf]; omega
              · go_wp2_with fail
                refine (equal_any a _ _ _ (HRA5.out.below hB (Nat.le_refl _)) (HRC5.out.below hB (Nat.le_refl _))).mono ?_
                rintro e w9 ⟨rfl, hb9⟩
                go_wp2_with fail
                go_ret
                exact ⟨rfl, bch hBw hb9⟩
end Go.Proofs.YtmamolhclohniaaDoor
