/- Proved here: RightBound and Right of puncheonref05: may a bound be, may a span be. | Proved here: Same of puncheonref05 tells whether two spans are one. | Proved here: Both of puncheonref05: the rows that each row comes to with each of the other one, and whether they may be. | Proved here: Either of puncheonref05: the rows of both, and whether they may be. | Proved here: what SpanJoins of puncheonlaw05 wants: rows of the call's own whose kinds are counted up in place; what Both and Either hand back, told apart. | Proved here: an element of an array of two spans. -/
import Derived.Test.YtlfehjjnepiljaaGreatDoorMSets1
namespace Go.Proofs.YtlfehjjnepiljaaGreatDoor
open Go.RowKit Go.Shelf

theorem rrights_of {v : Ver} {o : Bool} (h : o = v.ok) (W : World) : Calls Tryz.prog 21 #[.agg v.arr] W fun e w' => e = .returned (.bool o) ∧ Below W.heap.size W w' := by
  rw [h]; exact right_any v W
theorem span_row_no {r : List (List Bd)} {l : List Bd} (h : l ∈ r) (hl : 4 < l.length) : spanOk r = false := by
  cases he : spanOk r with
  | false => rfl
  | true =>
    have := (row_ok ((span_ok he).2 l h)).1
    omega

set_option maxRecDepth 100000 in
set_option maxHeartbeats 1000000 in
theorem rbound_any (b : Bd) (w : World) : Calls Tryz.prog 34 #[.agg b.arr] w fun e w' => e = .returned (.bool b.ok) ∧ Below w.heap.size w w' := by
  have X : Box (w.alloc (.cells b.arr 57)) w.heap.size 57 b.arr := box_new
  obtain ⟨c0, c1, c2, c3, c4, c5, c6, c7⟩ := X.bd
  have hB := Lib.hid (below_new w (.cells b.arr 57))
  have XX := Lib.hid X
  clear X
  by_cases k1 : b.kind < 1
  · have d1 : decide (b.kind ≥ 1) = false := decide_eq_false (by omega)
    have HF := Lib.hid (bd_no (.inl k1))
    go_enter Tryz.func34, Tryz.ntmps34
    go_wp2_with fail
    go_ret
    exact ⟨ret_bool HF.out.symm, hB.out⟩
  · have d1 : decide (b.kind ≥ 1) = true := decide_eq_true (by omega)
    by_cases k7 : b.kind > 7
    · have d7 : decide (b.kind ≤ 7) = false := decide_eq_false (by omega)
      have HF := Lib.hid (bd_no (.inr (.inl k7)))
      go_enter Tryz.func34, Tryz.ntmps34
      go_wp2_with fail
      go_ret
      exact ⟨ret_bool HF.out.symm, hB.out⟩
    · have d7 : decide (b.kind ≤ 7) = true := decide_eq_true (by omega)
      obtain ⟨o, ho⟩ : ∃ o, o = b.ver.ok := ⟨_, rfl⟩
      have HA := Lib.hid (fun W => rrights_of ho W)
      have HO := Lib.hid ho
      clear ho
      cases o with
      | false =>
        have HF : Hid (b.ok = false) := Lib.hid (bd_no (.inr (.inr (.inl HO.out.symm))))
        go_enter Tryz.func34, Tryz.ntmps34
        go_wp2_with fail
        refine (HA.out _).mono ?_
        rintro e w1 ⟨rfl, hb⟩
        have hB2 := Lib.hid (bch hB.out hb)
        go_wp2_with fail
        go_ret
        exact ⟨ret_bool HF.out.symm, hB2.out⟩
      | true =>
        by_cases e7 : b.kind = 7
        · have d8 : (b.kind != 7) = false := by simp [e7]
          by_cases ht : b.ver.tag.data.toList = []
          · have HF : Hid (b.ok = true) := Lib.hid (bd_yes (by omega) HO.out.symm (.inr ht))
            have hte := isEmpty_yes ht
            clear ht e7
            go_enter Tryz.func34, Tryz.ntmps34
            go_wp2_with fail
            refine (HA.out _).mono ?_
            rintro e w1 ⟨rfl, hb⟩
            have hB2 := Lib.hid (bch hB.out hb)
            obtain ⟨c0, c1, c2, c3, c4, c5, c6, c7⟩ := (XX.out.on hb).bd
            go_wp2_with fail
            go_ret
            exact ⟨ret_bool (by rw [HF.out, Lib.toList_data]; exact hte), hB2.out⟩
          · have HF : Hid (b.ok = false) := Lib.hid (bd_no (.inr (.inr (.inr ⟨e7, ht⟩))))
            have hte := isEmpty_no ht
            clear ht e7
            go_enter Tryz.func34, Tryz.ntmps34
            go_wp2_with fail
            refine (HA.out _).mono ?_
            rintro e w1 ⟨rfl, hb⟩
            have hB2 := Lib.hid (bch hB.out hb)
            obtain ⟨c0, c1, c2, c3, c4, c5, c6, c7⟩ := (XX.out.on hb).bd
            go_wp2_with fail
            go_ret
            exact ⟨ret_bool (by rw [HF.out, Lib.toList_data]; exact hte), hB2.out⟩
        · have d8 : (b.kind != 7) = true := by simp [e7]
          have HF : Hid (b.ok = true) := Lib.hid (bd_yes (by omega) HO.out.symm (.inl e7))
          clear e7
          go_enter Tryz.func34, Tryz.ntmps34
          go_wp2_with fail
          refine (HA.out _).mono ?_
          rintro e w1 ⟨rfl, hb⟩
          have hB2 := Lib.hid (bch hB.out hb)
          obtain ⟨c0, c1, c2, c3, c4, c5, c6, c7⟩ := (XX.out.on hb).bd
          go_wp2_with fail
          go_ret
          exact ⟨ret_bool HF.out.symm, hB2.out⟩
theorem rbounds_of {b : Bd} {o : Bool} (h : o = b.ok) (W : World) : Calls Tryz.prog 34 #[.agg b.arr] W fun e w' => e = .returned (.bool o) ∧ Below W.heap.size W w' := by
  rw [h]; exact rbound_any b W

set_option maxRecDepth 100000 in
set_option maxHeartbeats 4000000 in
theorem rright_any (ls : List (List Bd)) (x : Value) (w : World) (hx : RdR w x ls) : Calls Tryz.prog 11 #[.agg #[x]] w fun e w' => e = .returned (.bool (spanOk ls)) ∧ Below w.heap.size w w' := by
  have HX := Lib.hid hx
  obtain ⟨a, c, rfl, hlc, hcm, hcell⟩ := hx.open
  have HC := Lib.hid hcell
  obtain ⟨n, hn⟩ : ∃ n, n = ls.length := ⟨_, rfl⟩
  rw [← hn] at hlc HC HX ⊢
  have HN := Lib.hid hn
  unfold maxLen at hcm
  have X : Box (w.alloc (.cells #[.slice a n c] 27)) w.heap.size 27 #[.slice a n c] := box_new
  have XX := Lib.hid X
  have c0 : (w.alloc (.cells #[.slice a n c] 27)).cell? ⟨w.heap.size, 0, none⟩ = some (.slice a n c) := X.cell rfl
  have B0 := Lib.hid (below_new w (.cells #[.slice a n c] 27))
  clear hn hcell hx X
  go_enter Tryz.func11, Tryz.ntmps11
  go_wp2_with fail
  go_loopw [4, 6, 10, 11, 12, 13, 14, 15, 16, 17, 18, 19, 20, 21, 22, 23, 24, 25, 26, 27] (fun _ _ i _ _ _ _ _ _ _ _ _ _ _ _ _ _ _ _ _ W => ∃ k : Nat, k ≤ n ∧ i = .int .i64 k ∧ Hid (∀ (j : Nat) (l : List Bd), j < k → ls[j]? = some l → rowOk l = true) ∧ Hid (Box W w.heap.size 27 #[.slice a n c]) ∧ Hid (Below w.heap.size w W)) (fun _ _ i _ _ _ _ _ _ _ _ _ _ _ _ _ _ _ _ _ _ => n - (Lib.intOf i).toNat)
  case atStart => exact ⟨0, Nat.zero_le _, rfl, Lib.hid (fun j l h => absurd h (Nat.not_lt_zero _)), XX, B0⟩
  case round =>
    clear c0 B0 XX
    obtain ⟨k, hk, rfl, HK, XB, HB⟩ := hrel
    obtain ⟨wq, hwq⟩ : ∃ q, q = wr := ⟨_, rfl⟩
    rw [← hwq] at XB HB ⊢
    clear hwq
    by_cases hlt : k < n
    · obtain ⟨l, hl⟩ : ∃ v, ls[k]? = some v := ⟨_, List.getElem?_eq_getElem (by have := HN.out; omega)⟩
      obtain ⟨g, o, rfl, hg, hc⟩ := HC.out (by omega)
      obtain ⟨v, hv, hr⟩ := hc k l hl
      have r0 := (HB.out.cell (p := ⟨g, _, none⟩) hg).trans hv
      obtain ⟨a2, c2, rfl, hlc2, hcm2, hc2⟩ := hr.open
      obtain ⟨m, hm⟩ : ∃ m, m = l.length := ⟨_, rfl⟩
      rw [← hm] at hlc2 hc2 r0
      unfold maxLen at hcm2
      have HM := Lib.hid hm
      have HL := Lib.hid hl
      have HC2 := Lib.hid hc2
      have k1 : (k : Int) < (n : Int) := by omega
      have k2 : (0 : Int) ≤ (k : Int) := by omega
      have k4 : IntKind.i64.wrap ((k : Int) + 1) = (k : Int) + 1 := IntWalk.i64_in _ (by omega)
      clear hm hl hr hc hv hc2
      go_wp2_with fail
      go_loopw [6, 16, 17, 18, 19, 20, 21, 22, 23] (fun _ i _ _ _ _ _ _ _ W => ∃ j : Nat, j ≤ m ∧ i = .int .i64 j ∧ Hid (∀ (t : Nat) (b : Bd), t < j → l[t]? = some b → b.ok = true) ∧ Hid (Box W w.heap.size 27 #[.slice (some ⟨g, o, none⟩) n c]) ∧ Hid (Below w.heap.size w W)) (fun _ i _ _ _ _ _ _ _ _ => m - (Lib.intOf i).toNat)
      case atStart => exact ⟨0, Nat.zero_le _, rfl, Lib.hid (fun j l h => absurd h (Nat.not_lt_zero _)), XB, HB⟩
      case round =>
        clear HB XB r0
        obtain ⟨j, hj, rfl, HJ, XB, HB⟩ := hrel
        obtain ⟨wo, hwo⟩ : ∃ q, q = wr := ⟨_, rfl⟩
        rw [← hwo] at XB HB ⊢
        clear hwo
        by_cases jlt : j < m
        · obtain ⟨b, hb⟩ : ∃ v, l[j]? = some v := ⟨_, List.getElem?_eq_getElem (by have := HM.out; omega)⟩
          obtain ⟨g2, o2, rfl, hg2, hc2⟩ := HC2.out (by omega)
          obtain ⟨q0, q1, q2, q3, q4, q5, q6, q7⟩ := (hc2 j b hb).on hg2 HB.out
          have j1 : (j : Int) < (m : Int) := by omega
          have j2 : (0 : Int) ≤ (j : Int) := by omega
          have j4 : IntKind.i64.wrap ((j : Int) + 1) = (j : Int) + 1 := IntWalk.i64_in _ (by omega)
          have HBB := Lib.hid hb
          obtain ⟨ok, hok⟩ : ∃ ok, ok = b.ok := ⟨_, rfl⟩
          have HT := Lib.hid (fun W => rbounds_of hok W)
          have HOK := Lib.hid hok
          have X0 : Hid (Box (wo.alloc (.cells Bd.zero.arr 57)) wo.heap.size 57 Bd.zero.arr) := Lib.hid box_new
          obtain ⟨w2, hw2⟩ : ∃ q, q = (wo.alloc (.cells Bd.zero.arr 57)).setRow wo.heap.size b.arr := ⟨_, rfl⟩
          have X2 : Hid (Box w2 wo.heap.size 57 b.arr) := Lib.hid (by rw [hw2]; exact X0.out.row _)
          have B2 : Hid (Below w.heap.size w w2) := Lib.hid (by rw [hw2]; exact below_row (HB.out.alloc HB.out.size _) HB.out.size _)
          have XB2 : Hid (Box w2 w.heap.size 27 #[.slice (some ⟨g, o, none⟩) n c]) := Lib.hid (by have := XB.out.lt; rw [hw2]; exact (XB.out.alloc _).far_row (by omega) _)
          clear hb hok hc2
          go_upto_region 7 with (first
            | (with_reducible refine wpList_zero rfl 57 rfl Bd.zero.arr zero57 ?_)
            | (refine wpList_store_row rfl 57 (.tmp 6) (.tmp 19) rfl wo.heap.size b.arr rfl rfl 57 _ X0.out (info57 _) rfl (barr_one _) ?_))
          rw [← hw2]
          clear hw2 X0 q0 q1 q2 q3 q4 q5 q6 q7 HB XB
          go_wp2_with (refine wpList_load_row rfl 57 (.tmp 6) rfl wo.heap.size rfl 57 b.arr (0, 0) _ X2.out Tryz.underlying57 rfl (info57 _) ?_)
          refine (HT.out _).mono ?_
          rintro e w3 ⟨rfl, hb⟩
          have B3 := Lib.hid (bch B2.out hb)
          have XB3 := Lib.hid (XB2.out.on hb)
          clear X2 B2 XB2 HT hb
          cases ok with
          | true =>
            go_wp2_with fail
            go_roundw
            case rel =>
              refine ⟨j + 1, jlt, by go_num, Lib.hid (fun t y ht hy => ?_), XB3, B3⟩
              by_cases htj : t < j
              · exact HJ.out t y htj hy
              · obtain rfl : t = j := by omega
                obtain rfl := Option.some.inj (HBB.out.symm.trans hy)
                exact HOK.out.symm
            case measure => simp [Lib.intOf]; omega
          | false =>
            have HE : Hid (spanOk ls = false) := Lib.hid (span_no1 ⟨l, List.mem_of_getElem? HL.out, b, List.mem_of_getElem? HBB.out, HOK.out.symm⟩)
            go_wp2_with fail
            go_ret
            exact ⟨ret_bool HE.out.symm, B3.out⟩
        · have j1 : ¬ ((j : Int) < (m : Int)) := by omega
          have HALL : Hid (∀ b ∈ l, b.ok = true) := Lib.hid (fun b hb => by
            obtain ⟨i, hi⟩ := List.mem_iff_getElem?.1 hb
            have := (List.getElem?_eq_some_iff.1 hi).1
            exact HJ.out i b (by have := HM.out; omega) hi)
          by_cases m4 : m ≤ 4
          · have e4 : decide ((m : Int) > 4) = false := decide_eq_false (by omega)
            have HROW : Hid (rowOk l = true) := Lib.hid (by
              unfold rowOk
              rw [decide_eq_true (by have := HM.out; omega : l.length ≤ 4), Bool.true_and]
              exact List.all_eq_true.2 HALL.out)
            go_wp2_with fail
            go_roundw
            case rel =>
              refine ⟨k + 1, hlt, by go_num, Lib.hid (fun t y ht hy => ?_), XB, HB⟩
              by_cases htk : t < k
              · exact HK.out t y htk hy
              · obtain rfl : t = k := by omega
                obtain rfl := Option.some.inj (HL.out.symm.trans hy)
                exact HROW.out
            case measure => simp [Lib.intOf]; omega
          · have e4 : decide ((m : Int) > 4) = true := decide_eq_true (by omega)
            have HE : Hid (spanOk ls = false) := Lib.hid (span_row_no (List.mem_of_getElem? HL.out) (by have := HM.out; omega))
            go_wp2_with fail
            go_ret
            exact ⟨ret_bool HE.out.symm, HB.out⟩
    · have k1 : ¬ ((k : Int) < (n : Int)) := by omega
      have p0 := XB.out.cell (k := 0) rfl
      have HALL : Hid (ls.all rowOk = true) := Lib.hid (List.all_eq_true.2 fun l hl => by
        obtain ⟨i, hi⟩ := List.mem_iff_getElem?.1 hl
        have := (List.getElem?_eq_some_iff.1 hi).1
        exact HK.out i l (by have := HN.out; omega) hi)
      by_cases n1 : n ≥ 1
      · have d1 : decide ((n : Int) ≥ 1) = true := decide_eq_true (by omega)
        by_cases n4 : n ≤ 4
        · have d4 : decide ((n : Int) ≤ 4) = true := decide_eq_true (by omega)
          have HE : Hid (spanOk ls = true) := Lib.hid (by
            unfold spanOk
            rw [decide_eq_true (by have := HN.out; omega : 1 ≤ ls.length ∧ ls.length ≤ 4), HALL.out]; rfl)
          go_wp2_with fail
          go_ret
          exact ⟨ret_bool HE.out.symm, HB.out⟩
        · have d4 : decide ((n : Int) ≤ 4) = false := decide_eq_false (by omega)
          have HE : Hid (spanOk ls = false) := Lib.hid (by
            unfold spanOk
            rw [decide_eq_false (by have := HN.out; omega : ¬ (1 ≤ ls.length ∧ ls.length ≤ 4))]; rfl)
          go_wp2_with fail
          go_ret
          exact ⟨ret_bool HE.out.symm, HB.out⟩
      · have d1 : decide ((n : Int) ≥ 1) = false := decide_eq_false (by omega)
        have HE : Hid (spanOk ls = false) := Lib.hid (by
          unfold spanOk
          rw [decide_eq_false (by have := HN.out; omega : ¬ (1 ≤ ls.length ∧ ls.length ≤ 4))]; rfl)
        go_wp2_with fail
        go_ret
        exact ⟨ret_bool HE.out.symm, HB.out⟩
end Go.Proofs.YtlfehjjnepiljaaGreatDoor

namespace Go.Proofs.YtlfehjjnepiljaaGreatDoor
open Go.RowKit Go.Shelf

theorem not_same {ls ms : List (List Bd)} {k : Nat} {l t : List Bd} (h1 : ls[k]? = some l) (h2 : ms[k]? = some t) (h : l ≠ t) : decide (ls = ms) = false := decide_eq_false (fun e => by
  rw [e, h2] at h1
  exact h (Option.some.inj h1).symm)

set_option maxRecDepth 100000 in
set_option maxHeartbeats 8000000 in
theorem rsame_any (ls ms : List (List Bd)) (x y : Value) (w : World) (hx : RdR w x ls) (hy : RdR w y ms) : Calls Tryz.prog 16 #[.agg #[x], .agg #[y]] w fun e w' => e = .returned (.bool (decide (ls = ms))) ∧ Below w.heap.size w w' := by
  obtain ⟨ax, cx, rfl, hlx, hmx, hcx⟩ := hx.open
  obtain ⟨ay, cy, rfl, hly, hmy, hcy⟩ := hy.open
  have HCX := Lib.hid hcx
  have HCY := Lib.hid hcy
  obtain ⟨n, hn⟩ : ∃ n, n = ls.length := ⟨_, rfl⟩
  obtain ⟨p, hp⟩ : ∃ n, n = ms.length := ⟨_, rfl⟩
  rw [← hn] at hlx HCX ⊢
  rw [← hp] at hly HCY ⊢
  have HN := Lib.hid hn
  have HP := Lib.hid hp
  unfold maxLen at hmx hmy
  obtain ⟨w1, hw1⟩ : ∃ q, q = (w.alloc (.cells #[.slice ax n cx] 27)).alloc (.cells #[.slice ay p cy] 27) := ⟨_, rfl⟩
  have X1 : Hid (Box w1 w.heap.size 27 #[.slice ax n cx]) := Lib.hid (by rw [hw1]; exact box_new.alloc _)
  have X2 : Hid (Box w1 (w.heap.size + 1) 27 #[.slice ay p cy]) := Lib.hid (by rw [hw1]; exact heap_alloc2_new w _ _)
  have B1 : Hid (Below w.heap.size w w1) := Lib.hid (by rw [hw1]; exact ((Below.refl _ w).alloc (Nat.le_refl _) _).alloc (by simp) _)
  clear hn hp hcx hcy hx hy
  go_enter Tryz.func16, Tryz.ntmps16
  go_upto_region 1 with fail
  rw [← hw1]
  clear hw1
  have p0 := X1.out.cell (k := 0) rfl
  have p1 := X2.out.cell (k := 0) rfl
  by_cases hnp : n = p
  · have t0 : ((n : Int) != (p : Int)) = false := by simp [hnp]
    go_wp2_with fail
    go_loopw [5, 6, 17, 18, 19, 20, 21, 22, 23, 24, 25, 26, 27, 28, 29, 30, 31, 32, 33, 34, 35, 36, 37, 38, 39, 40, 41, 42, 43, 44, 45, 46, 47, 48, 49, 50, 51, 52, 53, 54, 55, 56, 57, 58, 59, 60] (fun _ _ i _ _ _ _ _ _ _ _ _ _ _ _ _ _ _ _ _ _ _ _ _ _ _ _ _ _ _ _ _ _ _ _ _ _ _ _ _ _ _ _ _ _ _ W => ∃ k : Nat, k ≤ n ∧ i = .int .i64 k ∧ Hid (ls.take k = ms.take k) ∧ Hid (Box W w.heap.size 27 #[.slice ax n cx]) ∧ Hid (Box W (w.heap.size + 1) 27 #[.slice ay p cy]) ∧ Hid (Below w.heap.size w W)) (fun _ _ i _ _ _ _ _ _ _ _ _ _ _ _ _ _ _ _ _ _ _ _ _ _ _ _ _ _ _ _ _ _ _ _ _ _ _ _ _ _ _ _ _ _ _ _ => n - (Lib.intOf i).toNat)
    case atStart => exact ⟨0, Nat.zero_le _, rfl, Lib.hid rfl, X1, X2, B1⟩
    case round =>
      clear p0 p1 X1 X2 B1
      obtain ⟨k, hk, rfl, HK, X1, X2, HB⟩ := hrel
      obtain ⟨wo, hwo⟩ : ∃ q, q = wr := ⟨_, rfl⟩
      rw [← hwo] at X1 X2 HB ⊢
      clear hwo
      by_cases hlt : k < n
      · obtain ⟨l, hl⟩ : ∃ v, ls[k]? = some v := ⟨_, List.getElem?_eq_getElem (by have := HN.out; omega)⟩
        obtain ⟨t, ht⟩ : ∃ v, ms[k]? = some v := ⟨_, List.getElem?_eq_getElem (by have := HP.out; omega)⟩
        obtain ⟨g, o, rfl, hg, hc⟩ := HCX.out (by omega)
        obtain ⟨g', o', rfl, hg', hc'⟩ := HCY.out (by omega)
        obtain ⟨v, hv, hr⟩ := hc k l hl
        obtain ⟨v', hv', hr'⟩ := hc' k t ht
        obtain ⟨a2, c2, rfl, hlc2, hcm2, hc2⟩ := hr.open
        obtain ⟨a3, c3, rfl, hlc3, hcm3, hc3⟩ := hr'.open
        obtain ⟨m1, hm1⟩ : ∃ m, m = l.length := ⟨_, rfl⟩
        obtain ⟨m2, hm2⟩ : ∃ m, m = t.length := ⟨_, rfl⟩
        rw [← hm1] at hlc2 hc2 hv
        rw [← hm2] at hlc3 hc3 hv'
        unfold maxLen at hcm2 hcm3
        have r0 := (HB.out.cell (p := ⟨g, _, none⟩) hg).trans hv
        have s0 := (HB.out.cell (p := ⟨g', _, none⟩) hg').trans hv'
        have p0 := X1.out.cell (k := 0) rfl
        have p1 := X2.out.cell (k := 0) rfl
        have HV := Lib.hid hv
        have HV' := Lib.hid hv'
        have HG := Lib.hid hg
        have HG' := Lib.hid hg'
        have HM1 := Lib.hid hm1
        have HM2 := Lib.hid hm2
        have HL := Lib.hid hl
        have HT := Lib.hid ht
        have HC2 := Lib.hid hc2
        have HC3 := Lib.hid hc3
        have k1 : (k : Int) < (n : Int) := by omega
        have k1' : (k : Int) < (p : Int) := by omega
        have k2 : (0 : Int) ≤ (k : Int) := by omega
        have k4 : IntKind.i64.wrap ((k : Int) + 1) = (k : Int) + 1 := IntWalk.i64_in _ (by omega)
        clear hl ht hc hc' hv hv' hr hr' hc2 hc3 hm1 hm2 hg hg'
        by_cases hmm : m1 = m2
        · have t1 : ((m1 : Int) != (m2 : Int)) = false := by simp [hmm]
          go_wp2_with fail
          go_region
          go_wp2_with fail
          go_loopw [6, 39, 40, 41, 42, 43, 44, 45, 46, 47, 48, 49, 50, 51, 52, 53, 54, 55, 56, 57, 58, 59] (fun _ i _ _ _ _ _ _ _ _ _ _ _ _ _ _ _ _ _ _ _ _ W => ∃ j : Nat, j ≤ m1 ∧ i = .int .i64 j ∧ Hid (l.take j = t.take j) ∧ Hid (Box W w.heap.size 27 #[.slice (some ⟨g, o, none⟩) n cx]) ∧ Hid (Box W (w.heap.size + 1) 27 #[.slice (some ⟨g', o', none⟩) p cy]) ∧ Hid (Below w.heap.size w W)) (fun _ i _ _ _ _ _ _ _ _ _ _ _ _ _ _ _ _ _ _ _ _ _ => m1 - (Lib.intOf i).toNat)
          case atStart => exact ⟨0, Nat.zero_le _, rfl, Lib.hid rfl, Lib.hid X1.out.drew, Lib.hid X2.out.drew, Lib.hid HB.out.drew⟩
          case round =>
            clear p0 p1 r0 s0 X1 X2 HB
            obtain ⟨j, hj, rfl, HJ, X1, X2, HB⟩ := hrel
            obtain ⟨wi, hwi⟩ : ∃ q, q = wr := ⟨_, rfl⟩
            rw [← hwi] at X1 X2 HB ⊢
            clear hwi
            by_cases jlt : j < m1
            · obtain ⟨b, hb⟩ : ∃ v, l[j]? = some v := ⟨_, List.getElem?_eq_getElem (by have := HM1.out; omega)⟩
              obtain ⟨d, hd⟩ : ∃ v, t[j]? = some v := ⟨_, List.getElem?_eq_getElem (by have := HM2.out; omega)⟩
              obtain ⟨g1, o1, rfl, hg1, hcc1⟩ := HC2.out (by omega)
              obtain ⟨g2, o2, rfl, hg2, hcc2⟩ := HC3.out (by omega)
              obtain ⟨p0, p1, p2, p3, p4, p5, p6, p7⟩ := (hcc1 j b hb).on hg1 HB.out
              obtain ⟨q0, q1, q2, q3, q4, q5, q6, q7⟩ := (hcc2 j d hd).on hg2 HB.out
              have r0 := (HB.out.cell (p := ⟨g, _, none⟩) HG.out).trans HV.out
              have s0 := (HB.out.cell (p := ⟨g', _, none⟩) HG'.out).trans HV'.out
              have x0 := X1.out.cell (k := 0) rfl
              have x1 := X2.out.cell (k := 0) rfl
              have HBB := Lib.hid hb
              have HDD := Lib.hid hd
              obtain ⟨ne, ho⟩ : ∃ o, o = !decide (b = d) := ⟨_, rfl⟩
              have hne := fun W => ne57 ho W
              have hgd := guard57
              have HO := Lib.hid ho
              have j1 : (j : Int) < (m1 : Int) := by omega
              have j1' : (j : Int) < (m2 : Int) := by omega
              have j2 : (0 : Int) ≤ (j : Int) := by omega
              have j4 : IntKind.i64.wrap ((j : Int) + 1) = (j : Int) + 1 := IntWalk.i64_in _ (by omega)
              clear hb hd hcc1 hcc2 ho
              cases ne with
              | false =>
                have HE : Hid (b = d) := Lib.hid (by have := HO.out; simpa using this)
                go_wp2_with fail
                go_region
                go_wp2_with fail
                go_roundw
                case rel => exact ⟨j + 1, jlt, by go_num, Lib.hid (by rw [List.take_add_one, List.take_add_one, HJ.out, HBB.out, HDD.out, HE.out]), Lib.hid X1.out.drew, Lib.hid X2.out.drew, Lib.hid HB.out.drew⟩
                case measure => simp [Lib.intOf]; omega
              | true =>
                have HE : Hid (decide (ls = ms) = false) := Lib.hid (not_same HL.out HT.out (fun e => by
                  have h1 := HBB.out
                  rw [e, HDD.out] at h1
                  have := HO.out
                  rw [Option.some.inj h1] at this
                  simp at this))
                go_wp2_with fail
                go_region
                go_wp2_with fail
                go_ret
                exact ⟨ret_bool HE.out.symm, HB.out.drew⟩
            · have j1 : ¬ ((j : Int) < (m1 : Int)) := by omega
              have HE : Hid (l = t) := Lib.hid (by
                have h1 := HJ.out
                rw [List.take_of_length_le (by have := HM1.out; omega), List.take_of_length_le (by have := HM2.out; omega)] at h1
                exact h1)
              go_wp2_with fail
              go_roundw
              case rel => exact ⟨k + 1, hlt, by go_num, Lib.hid (by rw [List.take_add_one, List.take_add_one, HK.out, HL.out, HT.out, HE.out]), X1, X2, HB⟩
              case measure => simp [Lib.intOf]; omega
        · have t1 : ((m1 : Int) != (m2 : Int)) = true := by simp; omega
          have HE : Hid (decide (ls = ms) = false) := Lib.hid (not_same HL.out HT.out (fun e => by
            have h1 := HM1.out
            rw [e] at h1
            exact hmm (h1.trans HM2.out.symm)))
          go_wp2_with fail
          go_region
          go_wp2_with fail
          go_ret
          exact ⟨ret_bool HE.out.symm, HB.out.drew⟩
      · have k1 : ¬ ((k : Int) < (n : Int)) := by omega
        have HE : Hid (decide (ls = ms) = true) := Lib.hid (decide_eq_true (by
          have h1 := HK.out
          rw [List.take_of_length_le (by have := HN.out; omega), List.take_of_length_le (by have := HP.out; omega)] at h1
          exact h1))
        go_wp2_with fail
        go_ret
        exact ⟨ret_bool HE.out.symm, HB.out⟩
  · have t0 : ((n : Int) != (p : Int)) = true := by simp; omega
    have HE : Hid (decide (ls = ms) = false) := Lib.hid (decide_eq_false (fun e => by
      have h1 := HN.out
      have h2 := HP.out
      rw [e] at h1
      omega))
    clear hnp
    go_wp2_with fail
    go_ret
    exact ⟨ret_bool HE.out.symm, B1.out⟩
end Go.Proofs.YtlfehjjnepiljaaGreatDoor

namespace Go.Proofs.YtlfehjjnepiljaaGreatDoor
open Go.RowKit Go.Shelf


/-- append of what can just be read to a row of the call's own. -/
theorem run_append_ownrd {P : Program} (w : World) (base : Nat) (t ty e : TypeId) (i : TypeInfo) (z : Value) (size bytes : Nat) (h1 : P.underlying t = some (.slice e)) (h2 : P.info? e = some i) (h3 : i.zero = some z) (h4 : i.size = size) (h5 : i.bytes = bytes) (h6 : z.cells.size = size) (h7 : 0 < size)
    (v : Value) (n : Nat) (xs : List Value) (hown : w.ownsRow base e size v n xs) (y : Value) (m : Nat) (ys : List Value) (hy : RdF w y m ys) (hyl : ys.length = m * size) (h1c : ∀ u ∈ ys, u.oneCell' = true)
    (b1 : n + m ≤ maxLen) (b2 : (n + m) * bytes ≤ 140737488355328) (hb : base ≤ w.heap.size) :
    ∃ v' w', (Builtin.append_ #[t, t] ty #[v, y]).run P w = .ok v' w' ∧ w'.ownsRow base e size v' (n + m) (xs ++ ys) ∧ w.grownBy w' v.ownBlock := by
  obtain ⟨a', c', rfl, hmc, hcm, hcell⟩ := hy
  rcases Nat.eq_zero_or_pos m with h | h
  · subst h
    have e1 : ys = [] := List.eq_nil_of_length_eq_zero (by omega)
    subst e1
    have hv : ∃ a c, v = .slice a n c ∧ n ≤ c := by
      rcases hown.2 with ⟨rfl, rfl⟩ | ⟨g, c, cur, rfl, _, _, hn, _⟩
      · exact ⟨none, 0, rfl, Nat.le_refl _⟩
      · exact ⟨_, c, rfl, hn⟩
    obtain ⟨a, c, rfl, hnc⟩ := hv
    exact ⟨_, w, run_append_empty t ty e i h1 h2 a n c hnc a' c', by rw [List.append_nil]; exact hown, ⟨rfl, rfl, rfl, Nat.le_refl _, fun _ _ _ => rfl⟩⟩
  · obtain ⟨g', o', rfl, hg', hc'⟩ := hcell h
    obtain ⟨v', w', hr, k1, k2, _⟩ := run_append_own (P := P) w base t ty e i z size bytes h1 h2 h3 h4 h5 h6 h7 v n xs hown ⟨g', o', none⟩ m c' ys hyl (fun j u hu => by rw [add_to]; exact hc' j u hu) h1c b1 b2 hb
    exact ⟨v', w', hr, k1, k2⟩
theorem wp_append_ownrd {P : Program} {op : Oper} {ac : Act} {w : World} {K : Act → World → Prop} {Q : Exit → Act → World → Prop} {ops : Array Oper} (hw : Region.wanted op (yielded ops ac.tmps) = true) (s x : Operand) {t : TypeId} (hop : op.op = Op.call { callee := Callee.builtin Builtin.append, args := #[s, x], argTypes := #[t, t] })
    (base : Nat) (e : TypeId) (i : TypeInfo) (z : Value) (size bytes : Nat) (h1 : P.underlying t = some (.slice e)) (h2 : P.info? e = some i) (h3 : i.zero = some z) (h4 : i.size = size) (h5 : i.bytes = bytes) (h6 : z.cells.size = size) (h7 : 0 < size)
    (v : Value) (n : Nat) (xs : List Value) (hs : ac.eval s = v) (hown : w.ownsRow base e size v n xs) (y : Value) (m : Nat) (ys : List Value) (hx : ac.eval x = y) (hy : RdF w y m ys) (hyl : ys.length = m * size) (h1c : ∀ u ∈ ys, u.oneCell' = true)
    (b1 : n + m ≤ maxLen) (b2 : (n + m) * bytes ≤ 140737488355328) (hb : base ≤ w.heap.size)
    (h : ∀ v' w', w'.ownsRow base e size v' (n + m) (xs ++ ys) → w.grownBy w' v.ownBlock → K (ac.put op.dst v') w') : if Region.wanted op (yielded ops ac.tmps) = true then op.wp P ac w K Q else K (ac.put op.dst undef) w := by
  rw [if_pos hw]
  obtain ⟨v', w', hr, k1, k2⟩ := run_append_ownrd (P := P) w base t op.type e i z size bytes h1 h2 h3 h4 h5 h6 h7 v n xs hown y m ys hy hyl h1c b1 b2 hb
  unfold Oper.wp execOp
  simp only [hop, resolve, invoke, builtin, Sem.run_bind, Sem.run_pure, Result.andThen_ok, List.map_toArray, List.map_cons, List.map_nil, hs, hx, hr]
  exact h v' w' k1 k2
theorem wpList_append_ownrd {P : Program} {w : World} {ops : Array Oper} {rest : List Oper} {o : Oper} {ac : Act} {Q : Exit → Act → World → Prop} (hg : o.guard = none) (s x : Operand) (t : TypeId) (hop : o.op = Op.call { callee := Callee.builtin Builtin.append, args := #[s, x], argTypes := #[t, t] })
    (base : Nat) (e : TypeId) (i : TypeInfo) (z : Value) (size bytes : Nat) (h1 : P.underlying t = some (.slice e)) (h2 : P.info? e = some i) (h3 : i.zero = some z) (h4 : i.size = size) (h5 : i.bytes = bytes) (h6 : z.cells.size = size) (h7 : 0 < size)
    (v : Value) (n : Nat) (xs : List Value) (hs : ac.eval s = v) (hown : w.ownsRow base e size v n xs) (y : Value) (m : Nat) (ys : List Value) (hx : ac.eval x = y) (hy : RdF w y m ys) (hyl : ys.length = m * size) (h1c : ∀ u ∈ ys, u.oneCell' = true)
    (b1 : n + m ≤ maxLen) (b2 : (n + m) * bytes ≤ 140737488355328) (hb : base ≤ w.heap.size)
    (h : ∀ v' w', w'.ownsRow base e size v' (n + m) (xs ++ ys) → w.grownBy w' v.ownBlock → wpList P ops Q rest (ac.put o.dst v') w') : wpList P ops Q (o :: rest) ac w := by
  refine wpList_plain hg fun K hK' => ?_
  obtain ⟨v', w', hr, k1, k2⟩ := run_append_ownrd (P := P) w base t o.type e i z size bytes h1 h2 h3 h4 h5 h6 h7 v n xs hown y m ys hy hyl h1c b1 b2 hb
  unfold Oper.wp execOp
  simp only [hop, resolve, invoke, builtin, Sem.run_bind, Sem.run_pure, Result.andThen_ok, List.map_toArray, List.map_cons, List.map_nil, hs, hx, hr]
  exact hK' _ _ (h v' w' k1 k2)
theorem flatB_app (l m : List Bd) : flatB (l ++ m) = flatB l ++ flatB m := by
  unfold flatB
  rw [List.flatMap_append]

set_option maxRecDepth 100000 in
set_option maxHeartbeats 8000000 in
theorem rboth_any (a b : List (List Bd)) (x y : Value) (w : World) (hx : RdR w x a) (hy : RdR w y b) (ha : spanOk a = true) (hb : spanOk b = true) : Calls Tryz.prog 28 #[.agg #[x], .agg #[y]] w fun e w' => ∃ x', e = .returned (.tuple #[.agg #[x'], .bool (spanOk (bothL a b))]) ∧ OwnR w' w.heap.size x' (bothL a b) ∧ Below w.heap.size w w' := by
  obtain ⟨ax, cx, rfl, hlx, hmx, hcx⟩ := id hx.open
  obtain ⟨ay, cy, rfl, hly, hmy, hcy⟩ := id hy.open
  have HCX := Lib.hid hcx
  have HCY := Lib.hid hcy
  obtain ⟨n, hn⟩ : ∃ n, n = a.length := ⟨_, rfl⟩
  obtain ⟨m, hm⟩ : ∃ n, n = b.length := ⟨_, rfl⟩
  rw [← hn] at hlx HCX ⊢
  rw [← hm] at hly HCY ⊢
  have HN := Lib.hid hn
  have HM := Lib.hid hm
  unfold maxLen at hmx hmy
  have hn4 : n ≤ 4 := by rw [hn]; exact (span_ok ha).1.2
  have hm4 : m ≤ 4 := by rw [hm]; exact (span_ok hb).1.2
  have HOA := Lib.hid ha
  have HOB := Lib.hid hb
  obtain ⟨i0, hi, hz0, hz1, hz2⟩ := info_parts info57z
  have HI := Lib.hid hi
  have HZ0 := Lib.hid hz0
  have HZ1 := Lib.hid hz1
  have HZ2 := Lib.hid hz2
  clear hx hy hcx hcy hn hm ha hb hi hz0 hz1 hz2
  obtain ⟨w1, hw1⟩ : ∃ q, q = (((w.alloc (.cells #[.slice ax n cx] 27)).alloc (.cells #[.slice ay m cy] 27)).alloc (.cells #[.slice none 0 0] 27)).alloc (.cells #[.slice none 0 0] 27) := ⟨_, rfl⟩
  have X1 : Hid (Box w1 w.heap.size 27 #[.slice ax n cx]) := Lib.hid (by rw [hw1]; exact ((box_new.alloc _).alloc _).alloc _)
  have X2 : Hid (Box w1 (w.heap.size + 1) 27 #[.slice ay m cy]) := Lib.hid (by rw [hw1]; exact Box.alloc (Box.alloc (heap_alloc2_new w _ _) _) _)
  have X3 : Hid (Box w1 (w.heap.size + 2) 27 #[.slice none 0 0]) := Lib.hid (by
    have := box_new (w := (w.alloc (.cells #[.slice ax n cx] 27)).alloc (.cells #[.slice ay m cy] 27)) (t := 27) (cs := #[.slice none 0 0])
    simp only [World.size_alloc] at this
    rw [hw1]; exact Box.alloc this _)
  have X4 : Hid (Box w1 (w.heap.size + 3) 27 #[.slice none 0 0]) := Lib.hid (by
    have := box_new (w := ((w.alloc (.cells #[.slice ax n cx] 27)).alloc (.cells #[.slice ay m cy] 27)).alloc (.cells #[.slice none 0 0] 27)) (t := 27) (cs := #[.slice none 0 0])
    simp only [World.size_alloc] at this
    rw [hw1]; exact this)
  have B1 : Hid (Below w.heap.size w w1) := Lib.hid (by rw [hw1]; exact ((((Below.refl _ w).alloc (Nat.le_refl _) _).alloc (by simp) _).alloc (by simp; omega) _).alloc (by simp; omega) _)
  go_enter Tryz.func28, Tryz.ntmps28
  go_upto_region 2 with fail
  rw [← hw1]
  clear hw1
  have p0 := X1.out.cell (k := 0) rfl
  go_wp2_with fail
  go_loopw [8, 10, 11, 15, 16, 17, 18, 19, 20, 21, 22, 23, 24, 25, 26, 27, 28, 29, 30, 31, 32, 33, 34, 35, 36, 37, 38] (fun _ _ _ i _ _ _ _ _ _ _ _ _ _ _ _ _ _ _ _ _ _ _ _ _ _ _ W => ∃ (k : Nat) (xr : Value), k ≤ n ∧ i = .int .i64 k ∧ Hid (Box W (w.heap.size + 3) 27 #[xr]) ∧ Hid (OwnR W (w.heap.size + 4) xr (bothL (a.take k) b)) ∧ Hid (Box W (w.heap.size + 1) 27 #[.slice ay m cy]) ∧ Hid (Box W (w.heap.size + 2) 27 #[.slice none 0 0]) ∧ Hid (Below w.heap.size w W)) (fun _ _ _ i _ _ _ _ _ _ _ _ _ _ _ _ _ _ _ _ _ _ _ _ _ _ _ _ => n - (Lib.intOf i).toNat)
  case atStart => exact ⟨0, _, Nat.zero_le _, rfl, X4, Lib.hid (OwnR.nil _ _), X2, X3, B1⟩
  case round =>
    clear p0 X1 X2 X3 X4 B1
    obtain ⟨k, xr, hk, rfl, XB, RO, Z2, Z3, HBW⟩ := hrel
    obtain ⟨wq, hwq⟩ : ∃ q, q = wr := ⟨_, rfl⟩
    rw [← hwq] at XB RO Z2 Z3 HBW ⊢
    clear hwq
    by_cases hlt : k < n
    · obtain ⟨l, hl⟩ : ∃ v, a[k]? = some v := ⟨_, List.getElem?_eq_getElem (by have := HN.out; omega)⟩
      obtain ⟨g, o, rfl, hg, hc⟩ := HCX.out (by omega)
      obtain ⟨v, hv, hr⟩ := hc k l hl
      have r0 := (HBW.out.cell (p := ⟨g, _, none⟩) hg).trans hv
      have HRL := Lib.hid hr
      obtain ⟨a2, c2, rfl, _⟩ := hr.open
      obtain ⟨n2, hn2⟩ : ∃ t, t = l.length := ⟨_, rfl⟩
      rw [← hn2] at r0 HRL
      have HN2 := Lib.hid hn2
      have p1 := Z2.out.cell (k := 0) rfl
      have HL := Lib.hid hl
      have k1 : (k : Int) < (n : Int) := by omega
      have k2 : (0 : Int) ≤ (k : Int) := by omega
      have k4 : IntKind.i64.wrap ((k : Int) + 1) = (k : Int) + 1 := IntWalk.i64_in _ (by omega)
      clear hl hc hv hr hn2
      go_wp2_with fail
      go_loopw [10, 11, 22, 23, 24, 25, 26, 27, 28, 29, 30, 31, 32, 33, 34, 35, 36, 37] (fun _ _ i _ _ _ _ _ _ _ _ _ _ _ _ _ _ _ W => ∃ (j : Nat) (xr : Value), j ≤ m ∧ i = .int .i64 j ∧ Hid (Box W (w.heap.size + 3) 27 #[xr]) ∧ Hid (OwnR W (w.heap.size + 4) xr (bothK a b k j)) ∧ Hid (Box W (w.heap.size + 1) 27 #[.slice ay m cy]) ∧ Hid (Box W (w.heap.size + 2) 27 #[.slice none 0 0]) ∧ Hid (Below w.heap.size w W)) (fun _ _ i _ _ _ _ _ _ _ _ _ _ _ _ _ _ _ _ => m - (Lib.intOf i).toNat)
      case atStart => exact ⟨0, _, Nat.zero_le _, rfl, XB, by rw [both_zero]; exact RO, Z2, Z3, HBW⟩
      case round =>
        clear XB RO Z2 Z3 HBW r0 p1
        obtain ⟨j, xr, hj, rfl, XB, RO, Z2, Z3, HBW⟩ := hrel
        obtain ⟨wo, hwo⟩ : ∃ q, q = wr := ⟨_, rfl⟩
        rw [← hwo] at XB RO Z2 Z3 HBW ⊢
        clear hwo
        by_cases jlt : j < m
        · obtain ⟨t, ht⟩ : ∃ v, b[j]? = some v := ⟨_, List.getElem?_eq_getElem (by have := HM.out; omega)⟩
          obtain ⟨g5', o5', rfl, hg5, hc5⟩ := HCY.out (by omega)
          obtain ⟨v5, hv5, hr5⟩ := hc5 j t ht
          have r0 := (HBW.out.cell (p := ⟨g5', _, none⟩) hg5).trans hv5
          have HRT := Lib.hid (hr5.on HBW.out)
          obtain ⟨a5, c5, rfl, _⟩ := hr5.open
          have j1 : (j : Int) < (m : Int) := by omega
          have j2 : (0 : Int) ≤ (j : Int) := by omega
          have j4 : IntKind.i64.wrap ((j : Int) + 1) = (j : Int) + 1 := IntWalk.i64_in _ (by omega)
          have HNX := Lib.hid (both_next HL.out ht)
          have hsl : n2 ≤ 4 := by rw [HN2.out]; exact (row_ok ((span_ok HOA.out).2 l (List.mem_of_getElem? HL.out))).1
          have hst : t.length ≤ 4 := (row_ok ((span_ok HOB.out).2 t (List.mem_of_getElem? ht))).1
          obtain ⟨r, hr9⟩ : ∃ r, r = bothK a b k j := ⟨_, rfl⟩
          have hr20 : r.length ≤ 20 := by rw [hr9]; exact both_size a b k j (by have := HN.out; omega) (by have := HM.out; omega)
          have HR20 := Lib.hid hr20
          rw [← hr9] at RO HNX
          have HR9 := Lib.hid hr9.symm
          obtain ⟨n5, hn5⟩ : ∃ z, z = t.length := ⟨_, rfl⟩
          rw [← hn5] at r0 HRT hst
          have HN5 := Lib.hid hn5
          obtain ⟨ay9, cy9, rfl⟩ := RO.out.form
          obtain ⟨m9, hm9⟩ : ∃ z, z = r.length := ⟨_, rfl⟩
          rw [← hm9] at RO XB
          have HRLf : Hid (RdF wo (.slice a2 n2 c2) n2 (flatB l)) := Lib.hid (by have h := HRL.out.on HBW.out; unfold RdB at h; rw [← HN2.out] at h; exact h)
          have HFL : Hid ((flatB l).length = n2 * 8) := Lib.hid (by rw [HN2.out]; exact flatB_len l)
          have HRTf : Hid (RdF wo (.slice a5 n5 c5) n5 (flatB t)) := Lib.hid (by have h := HRT.out; unfold RdB at h; rw [← HN5.out] at h; exact h)
          have HFT : Hid ((flatB t).length = n5 * 8) := Lib.hid (by rw [HN5.out]; exact flatB_len t)
          have HBS : Hid (Below w.heap.size w wo) := HBW
          have HBS4 : Hid (w.heap.size + 4 ≤ wo.heap.size) := Lib.hid (by have := XB.out.lt; omega)
          clear ht hc5 hv5 hr5 hr9 hn5 hr20 hm9
          go_upto_region 10 with (at_builtin; refine wpList_append_ownrd rfl _ _ 55 rfl wo.heap.size 57 i0 (.agg Bd.zero.arr) 8 72 Tryz.underlying55 HI.out HZ0.out HZ1.out HZ2.out rfl (by decide) (.slice none 0 0) 0 [] rfl (World.ownsRow_nil _ _ _ _) (.slice a2 n2 c2) n2 (flatB l) rfl HRLf.out HFL.out (flatB_one l) (by unfold maxLen; omega) (by omega) (Nat.le_refl _) ?_; intro v1 w2 own1 grow1)
          have O1 : Hid (w2.ownsRow wo.heap.size 57 8 v1 n2 (flatB l)) := Lib.hid (by rw [Nat.zero_add, List.nil_append] at own1; exact own1)
          obtain ⟨a1, c1, rfl⟩ := ownF_form O1.out
          have b12 : Below wo.heap.size wo w2 := (Below.refl _ wo).grown grow1 (Nat.le_refl _) (fun k e => by cases e)
          clear own1 grow1 r0
          obtain ⟨v0, hv0⟩ : ∃ q, q = World.drew w2 := ⟨_, rfl⟩
          replace O1 : Hid (v0.ownsRow wo.heap.size 57 8 (.slice a1 n2 c1) n2 (flatB l)) := Lib.hid (by rw [hv0]; exact O1.out)
          have HBO : Hid (Below wo.heap.size wo v0) := Lib.hid (by rw [hv0]; exact b12.drew)
          refine wp_region_held_drew (S := fun w' => Below w.heap.size w w') (by kernel_rfl) (bch HBW.out b12).drew (fun hHeld => ?_)
          rw [← hv0] at hHeld ⊢
          clear hv0 b12
          refine wpAnyH_take (i := 0) (oi := { dst := some 29, op := Op.fieldAddr 27 (Operand.tmp 6) 0, type := 0, pos := "ref.go:170", after := #[], guard := none }) (v := ?_) rfl (by kernel_rfl) (by kernel_rfl) (by kernel_rfl) (fun _ _ _ h => h) (Or.inl ⟨by rfl, ?_⟩) hHeld ?_
          rotate_left
          · (intro w hSw; go_simp; try with_reducible rfl)
          (try simp only [Act.put, List.setIfInBounds_toArray, List.set_cons_zero, List.set_cons_succ])
          refine wpAnyH_take (i := 2) (oi := { dst := some 31, op := Op.move (Operand.tmp 11), type := 55, pos := "ref.go:170", after := #[], guard := none }) (v := ?_) rfl (by kernel_rfl) (by kernel_rfl) (by kernel_rfl) (fun _ _ _ h => h) (Or.inl ⟨by rfl, ?_⟩) hHeld ?_
          rotate_left
          · (intro w hSw; go_simp; try with_reducible rfl)
          (try simp only [Act.put, List.setIfInBounds_toArray, List.set_cons_zero, List.set_cons_succ])
          refine wpAnyH_take (i := 3) (oi := { dst := some 32, op := Op.move (Operand.tmp 10), type := 55, pos := "ref.go:170", after := #[], guard := none }) (v := ?_) rfl (by kernel_rfl) (by kernel_rfl) (by kernel_rfl) (fun _ _ _ h => h) (Or.inl ⟨by rfl, ?_⟩) hHeld ?_
          rotate_left
          · (intro w hSw; go_simp; try with_reducible rfl)
          (try simp only [Act.put, List.setIfInBounds_toArray, List.set_cons_zero, List.set_cons_succ])
          refine wpAnyH_ready (rs := [1, 4]) (by kernel_rfl) (by simp) (AllReadyH.cons (o := { dst := some 30, op := Op.load 25 (Operand.tmp 29), type := 25, pos := "ref.go:170", after := #[{ on := 0, ground := Ground.data }], guard := none }) rfl (fun K hK => ?_) (AllReadyH.cons (o := { dst := some 33, op := Op.call { callee := Callee.builtin Builtin.append, args := #[Operand.tmp 31, Operand.tmp 32], argTypes := #[55, 55] }, type := 55, pos := "ref.go:170", after := #[{ on := 2, ground := Ground.data }, { on := 3, ground := Ground.data }], guard := none }) rfl (fun K hK => ?_) AllReadyH.nil))
          · have p0 := (XB.out.on HBO.out).cell (k := 0) rfl
            go_simp
            refine hK.out _ _ hHeld (fun hHeld => ?_)
            clear p0
            (try simp only [Act.put, List.setIfInBounds_toArray, List.set_cons_zero, List.set_cons_succ])
            refine wpAnyH_ready (rs := [4]) (by kernel_rfl) (by simp) (AllReadyH.cons (o := { dst := some 33, op := Op.call { callee := Callee.builtin Builtin.append, args := #[Operand.tmp 31, Operand.tmp 32], argTypes := #[55, 55] }, type := 55, pos := "ref.go:170", after := #[{ on := 2, ground := Ground.data }, { on := 3, ground := Ground.data }], guard := none }) rfl (fun K hK => ?_) AllReadyH.nil)
            · refine wp_append_ownrd (by rfl) (.tmp 31) (.tmp 32) rfl wo.heap.size 57 i0 (.agg Bd.zero.arr) 8 72 Tryz.underlying55 HI.out HZ0.out HZ1.out HZ2.out rfl (by decide) _ n2 (flatB l) rfl O1.out (.slice a5 n5 c5) n5 (flatB t) rfl (HRTf.out.on HBO.out) HFT.out (flatB_one t) (by unfold maxLen; omega) (by omega) HBO.out.size ?_
              intro v9 v4 own9 grow9
              have O9 := Lib.hid own9
              have HBO := Lib.hid (HBO.out.grown grow9 HBO.out.size (fun k e => (O1.out.lt k e).1))
              refine hK.out _ _ (hHeld.grown grow9 hHeld.size (fun k e => Nat.le_trans HBS.out.size (O1.out.lt k e).1)) (fun hHeld => ?_)
              obtain ⟨a9, c9, rfl⟩ := ownF_form own9
              clear own9 grow9
              obtain ⟨n9, hn9⟩ : ∃ z, z = n2 + n5 := ⟨_, rfl⟩
              rw [← hn9] at O9 ⊢
              have HN9 := Lib.hid hn9
              clear hn9
              (try simp only [Act.put, List.setIfInBounds_toArray, List.set_cons_zero, List.set_cons_succ])
              refine wpAnyH_ready (rs := [5]) (by kernel_rfl) (by simp) (AllReadyH.cons (o := { dst := some 34, op := Op.buildSlice 25 1 #[(0, Operand.tmp 33)], type := 25, pos := "ref.go:170", after := #[{ on := 4, ground := Ground.data }], guard := none }) rfl (fun K hK => ?_) AllReadyH.nil)
              · go_simp
                have O9 := Lib.hid (owns_below O9.out (below_new v4 (.cells #[.slice a9 n9 c9] 55)))
                have HBO := Lib.hid (bch HBO.out (below_new v4 (.cells #[.slice a9 n9 c9] 55)))
                have G5 : Hid ((v4.alloc (.cells #[.slice a9 n9 c9] 55)).cell? ⟨v4.heap.size, 0, none⟩ = some (.slice a9 n9 c9)) := Lib.hid (World.cell?_alloc_new v4 _ _ 0)
                have GB : Hid (wo.heap.size ≤ (v4.alloc (.cells #[.slice a9 n9 c9] 55)).heap.size) := Lib.hid HBO.out.size
                refine hK.out _ _ (hHeld.alloc hHeld.size _) (fun hHeld => ?_)
                obtain ⟨v5, hv5⟩ : ∃ q, q = v4.alloc (.cells #[.slice a9 n9 c9] 55) := ⟨_, rfl⟩
                rw [← hv5] at O9 HBO G5 GB hHeld ⊢
                clear hv5
                obtain ⟨g5, hg5⟩ : ∃ q, q = v4.heap.size := ⟨_, rfl⟩
                rw [← hg5] at G5 ⊢
                clear hg5
                (try simp only [Act.put, List.setIfInBounds_toArray, List.set_cons_zero, List.set_cons_succ])
                refine wpAnyH_ready (rs := [6]) (by kernel_rfl) (by simp) (AllReadyH.cons (o := { dst := some 35, op := Op.call { callee := Callee.builtin Builtin.append, args := #[Operand.tmp 30, Operand.tmp 34], argTypes := #[25, 25] }, type := 25, pos := "ref.go:170", after := #[{ on := 1, ground := Ground.data }, { on := 5, ground := Ground.data }, { on := 4, ground := Ground.chain }], guard := none }) rfl (fun K hK => ?_) AllReadyH.nil)
                · refine wp_append_row (by rfl) (.tmp 30) (.tmp 34) rfl (w.heap.size + 4) (.slice ay9 m9 cy9) r (l ++ t) rfl (RO.out.on HBO.out) g5 (.slice a9 n9 c9) rfl G5.out (by rw [flatB_app, List.length_append, ← HN2.out, ← HN5.out, ← HN9.out]; exact own_base O9.out HBS4.out) (by have := HR20.out; omega) (Nat.le_trans HBS4.out GB.out) ?_
                  intro v9 v6 own6 grow6
                  have lown : ∀ j, (Value.slice ay9 m9 cy9).ownBlock = some j → w.heap.size + 4 ≤ j := fun j e => ((RO.out.on HBO.out).lt j e).1
                  have XB6 : Hid (Box v6 (w.heap.size + 3) 27 #[.slice ay9 m9 cy9]) := Lib.hid ((grow6.block _ (XB.out.on HBO.out).lt (fun e => by have := lown _ e.symm; omega)).trans (XB.out.on HBO.out))
                  have Z26 : Hid (Box v6 (w.heap.size + 1) 27 #[.slice (some ⟨g5', o5', none⟩) m cy]) := Lib.hid ((grow6.block _ (Z2.out.on HBO.out).lt (fun e => by have := lown _ e.symm; omega)).trans (Z2.out.on HBO.out))
                  have Z36 : Hid (Box v6 (w.heap.size + 2) 27 #[.slice none 0 0]) := Lib.hid ((grow6.block _ (Z3.out.on HBO.out).lt (fun e => by have := lown _ e.symm; omega)).trans (Z3.out.on HBO.out))
                  have O6 := Lib.hid own6
                  refine hK.out _ _ (hHeld.grown grow6 hHeld.size (fun j e => by have := lown j e; omega)) (fun hHeld => ?_)
                  obtain ⟨a6, c6, h6⟩ := own6.form
                  obtain ⟨n6, hn6⟩ : ∃ z, z = (r ++ [l ++ t]).length := ⟨_, rfl⟩
                  rw [← hn6] at h6
                  subst h6
                  clear hn6 grow6 lown own6
                  (try simp only [Act.put, List.setIfInBounds_toArray, List.set_cons_zero, List.set_cons_succ])
                  refine wpAnyH_take (i := 7) (oi := { dst := some 36, op := Op.fieldAddr 27 (Operand.tmp 6) 0, type := 0, pos := "ref.go:170", after := #[{ on := 0, ground := Ground.phase }, { on := 1, ground := Ground.phase }, { on := 2, ground := Ground.phase }, { on := 3, ground := Ground.phase }, { on := 4, ground := Ground.phase }, { on := 5, ground := Ground.phase }, { on := 6, ground := Ground.phase }], guard := none }) (v := ?_) rfl (by kernel_rfl) (by kernel_rfl) (by kernel_rfl) (fun _ _ _ h => h) (Or.inl ⟨by rfl, ?_⟩) hHeld ?_
                  rotate_left
                  · (intro w hSw; go_simp; try with_reducible rfl)
                  (try simp only [Act.put, List.setIfInBounds_toArray, List.set_cons_zero, List.set_cons_succ])
                  refine wpAnyH_ready (rs := [8]) (by kernel_rfl) (by simp) (AllReadyH.cons (o := { dst := none, op := Op.store 25 (Operand.tmp 36) (Operand.tmp 35), type := 0, pos := "ref.go:170", after := #[{ on := 7, ground := Ground.data }, { on := 6, ground := Ground.data }, { on := 6, ground := Ground.chain }, { on := 0, ground := Ground.phase }, { on := 1, ground := Ground.phase }, { on := 2, ground := Ground.phase }, { on := 3, ground := Ground.phase }, { on := 4, ground := Ground.phase }, { on := 5, ground := Ground.phase }, { on := 6, ground := Ground.phase }], guard := none }) rfl (fun K hK => ?_) AllReadyH.nil)
                  · have p0 := XB6.out.cell (k := 0) rfl
                    have f0 := frozen_of_row v6 _ 0 _ _ XB6.out
                    go_simp
                    refine hK.out _ _ (hHeld.setCell (p := ⟨w.heap.size + 3, 0, none⟩) (by show w.heap.size ≤ w.heap.size + 3; omega) _) (fun hHeld => ?_)
                    clear p0 f0
                    (try simp only [Act.put, List.setIfInBounds_toArray, List.set_cons_zero, List.set_cons_succ])
                    refine wpAnyH_done (by kernel_rfl) ?_ _
                    have HD := Lib.hid hHeld
                    clear hHeld
                    go_wp2_with fail
                    go_roundw
                    case rel => exact ⟨j + 1, _, jlt, by go_num, Lib.hid (XB6.out.set _), Lib.hid (by rw [HNX.out]; exact O6.out.apart (grownBy_setCell' v6 (w.heap.size + 3) _) (fun j e => by cases e; omega)), Lib.hid (Z26.out.far (by show w.heap.size + 1 ≠ w.heap.size + 3; omega) _), Lib.hid (Z36.out.far (by show w.heap.size + 2 ≠ w.heap.size + 3; omega) _), HD⟩
                    case measure => simp [Lib.intOf]; omega
          · refine wp_append_ownrd (by rfl) (.tmp 31) (.tmp 32) rfl wo.heap.size 57 i0 (.agg Bd.zero.arr) 8 72 Tryz.underlying55 HI.out HZ0.out HZ1.out HZ2.out rfl (by decide) _ n2 (flatB l) rfl O1.out (.slice a5 n5 c5) n5 (flatB t) rfl (HRTf.out.on HBO.out) HFT.out (flatB_one t) (by unfold maxLen; omega) (by omega) HBO.out.size ?_
            intro v9 v4 own9 grow9
            have O9 := Lib.hid own9
            have HBO := Lib.hid (HBO.out.grown grow9 HBO.out.size (fun k e => (O1.out.lt k e).1))
            refine hK.out _ _ (hHeld.grown grow9 hHeld.size (fun k e => Nat.le_trans HBS.out.size (O1.out.lt k e).1)) (fun hHeld => ?_)
            obtain ⟨a9, c9, rfl⟩ := ownF_form own9
            clear own9 grow9
            obtain ⟨n9, hn9⟩ : ∃ z, z = n2 + n5 := ⟨_, rfl⟩
            rw [← hn9] at O9 ⊢
            have HN9 := Lib.hid hn9
            clear hn9
            (try simp only [Act.put, List.setIfInBounds_toArray, List.set_cons_zero, List.set_cons_succ])
            refine wpAnyH_ready (rs := [1, 5]) (by kernel_rfl) (by simp) (AllReadyH.cons (o := { dst := some 30, op := Op.load 25 (Operand.tmp 29), type := 25, pos := "ref.go:170", after := #[{ on := 0, ground := Ground.data }], guard := none }) rfl (fun K hK => ?_) (AllReadyH.cons (o := { dst := some 34, op := Op.buildSlice 25 1 #[(0, Operand.tmp 33)], type := 25, pos := "ref.go:170", after := #[{ on := 4, ground := Ground.data }], guard := none }) rfl (fun K hK => ?_) AllReadyH.nil))
            · have p0 := (XB.out.on HBO.out).cell (k := 0) rfl
              go_simp
              refine hK.out _ _ hHeld (fun hHeld => ?_)
              clear p0
              (try simp only [Act.put, List.setIfInBounds_toArray, List.set_cons_zero, List.set_cons_succ])
              refine wpAnyH_ready (rs := [5]) (by kernel_rfl) (by simp) (AllReadyH.cons (o := { dst := some 34, op := Op.buildSlice 25 1 #[(0, Operand.tmp 33)], type := 25, pos := "ref.go:170", after := #[{ on := 4, ground := Ground.data }], guard := none }) rfl (fun K hK => ?_) AllReadyH.nil)
              · go_simp
                have O9 := Lib.hid (owns_below O9.out (below_new v4 (.cells #[.slice a9 n9 c9] 55)))
                have HBO := Lib.hid (bch HBO.out (below_new v4 (.cells #[.slice a9 n9 c9] 55)))
                have G5 : Hid ((v4.alloc (.cells #[.slice a9 n9 c9] 55)).cell? ⟨v4.heap.size, 0, none⟩ = some (.slice a9 n9 c9)) := Lib.hid (World.cell?_alloc_new v4 _ _ 0)
                have GB : Hid (wo.heap.size ≤ (v4.alloc (.cells #[.slice a9 n9 c9] 55)).heap.size) := Lib.hid HBO.out.size
                refine hK.out _ _ (hHeld.alloc hHeld.size _) (fun hHeld => ?_)
                obtain ⟨v5, hv5⟩ : ∃ q, q = v4.alloc (.cells #[.slice a9 n9 c9] 55) := ⟨_, rfl⟩
                rw [← hv5] at O9 HBO G5 GB hHeld ⊢
                clear hv5
                obtain ⟨g5, hg5⟩ : ∃ q, q = v4.heap.size := ⟨_, rfl⟩
                rw [← hg5] at G5 ⊢
                clear hg5
                (try simp only [Act.put, List.setIfInBounds_toArray, List.set_cons_zero, List.set_cons_succ])
                refine wpAnyH_ready (rs := [6]) (by kernel_rfl) (by simp) (AllReadyH.cons (o := { dst := some 35, op := Op.call { callee := Callee.builtin Builtin.append, args := #[Operand.tmp 30, Operand.tmp 34], argTypes := #[25, 25] }, type := 25, pos := "ref.go:170", after := #[{ on := 1, ground := Ground.data }, { on := 5, ground := Ground.data }, { on := 4, ground := Ground.chain }], guard := none }) rfl (fun K hK => ?_) AllReadyH.nil)
                · refine wp_append_row (by rfl) (.tmp 30) (.tmp 34) rfl (w.heap.size + 4) (.slice ay9 m9 cy9) r (l ++ t) rfl (RO.out.on HBO.out) g5 (.slice a9 n9 c9) rfl G5.out (by rw [flatB_app, List.length_append, ← HN2.out, ← HN5.out, ← HN9.out]; exact own_base O9.out HBS4.out) (by have := HR20.out; omega) (Nat.le_trans HBS4.out GB.out) ?_
                  intro v9 v6 own6 grow6
                  have lown : ∀ j, (Value.slice ay9 m9 cy9).ownBlock = some j → w.heap.size + 4 ≤ j := fun j e => ((RO.out.on HBO.out).lt j e).1
                  have XB6 : Hid (Box v6 (w.heap.size + 3) 27 #[.slice ay9 m9 cy9]) := Lib.hid ((grow6.block _ (XB.out.on HBO.out).lt (fun e => by have := lown _ e.symm; omega)).trans (XB.out.on HBO.out))
                  have Z26 : Hid (Box v6 (w.heap.size + 1) 27 #[.slice (some ⟨g5', o5', none⟩) m cy]) := Lib.hid ((grow6.block _ (Z2.out.on HBO.out).lt (fun e => by have := lown _ e.symm; omega)).trans (Z2.out.on HBO.out))
                  have Z36 : Hid (Box v6 (w.heap.size + 2) 27 #[.slice none 0 0]) := Lib.hid ((grow6.block _ (Z3.out.on HBO.out).lt (fun e => by have := lown _ e.symm; omega)).trans (Z3.out.on HBO.out))
                  have O6 := Lib.hid own6
                  refine hK.out _ _ (hHeld.grown grow6 hHeld.size (fun j e => by have := lown j e; omega)) (fun hHeld => ?_)
                  obtain ⟨a6, c6, h6⟩ := own6.form
                  obtain ⟨n6, hn6⟩ : ∃ z, z = (r ++ [l ++ t]).length := ⟨_, rfl⟩
                  rw [← hn6] at h6
                  subst h6
                  clear hn6 grow6 lown own6
                  (try simp only [Act.put, List.setIfInBounds_toArray, List.set_cons_zero, List.set_cons_succ])
                  refine wpAnyH_take (i := 7) (oi := { dst := some 36, op := Op.fieldAddr 27 (Operand.tmp 6) 0, type := 0, pos := "ref.go:170", after := #[{ on := 0, ground := Ground.phase }, { on := 1, ground := Ground.phase }, { on := 2, ground := Ground.phase }, { on := 3, ground := Ground.phase }, { on := 4, ground := Ground.phase }, { on := 5, ground := Ground.phase }, { on := 6, ground := Ground.phase }], guard := none }) (v := ?_) rfl (by kernel_rfl) (by kernel_rfl) (by kernel_rfl) (fun _ _ _ h => h) (Or.inl ⟨by rfl, ?_⟩) hHeld ?_
                  rotate_left
                  · (intro w hSw; go_simp; try with_reducible rfl)
                  (try simp only [Act.put, List.setIfInBounds_toArray, List.set_cons_zero, List.set_cons_succ])
                  refine wpAnyH_ready (rs := [8]) (by kernel_rfl) (by simp) (AllReadyH.cons (o := { dst := none, op := Op.store 25 (Operand.tmp 36) (Operand.tmp 35), type := 0, pos := "ref.go:170", after := #[{ on := 7, ground := Ground.data }, { on := 6, ground := Ground.data }, { on := 6, ground := Ground.chain }, { on := 0, ground := Ground.phase }, { on := 1, ground := Ground.phase }, { on := 2, ground := Ground.phase }, { on := 3, ground := Ground.phase }, { on := 4, ground := Ground.phase }, { on := 5, ground := Ground.phase }, { on := 6, ground := Ground.phase }], guard := none }) rfl (fun K hK => ?_) AllReadyH.nil)
                  · have p0 := XB6.out.cell (k := 0) rfl
                    have f0 := frozen_of_row v6 _ 0 _ _ XB6.out
                    go_simp
                    refine hK.out _ _ (hHeld.setCell (p := ⟨w.heap.size + 3, 0, none⟩) (by show w.heap.size ≤ w.heap.size + 3; omega) _) (fun hHeld => ?_)
                    clear p0 f0
                    (try simp only [Act.put, List.setIfInBounds_toArray, List.set_cons_zero, List.set_cons_succ])
                    refine wpAnyH_done (by kernel_rfl) ?_ _
                    have HD := Lib.hid hHeld
                    clear hHeld
                    go_wp2_with fail
                    go_roundw
                    case rel => exact ⟨j + 1, _, jlt, by go_num, Lib.hid (XB6.out.set _), Lib.hid (by rw [HNX.out]; exact O6.out.apart (grownBy_setCell' v6 (w.heap.size + 3) _) (fun j e => by cases e; omega)), Lib.hid (Z26.out.far (by show w.heap.size + 1 ≠ w.heap.size + 3; omega) _), Lib.hid (Z36.out.far (by show w.heap.size + 2 ≠ w.heap.size + 3; omega) _), HD⟩
                    case measure => simp [Lib.intOf]; omega
            · go_simp
              have O9 := Lib.hid (owns_below O9.out (below_new v4 (.cells #[.slice a9 n9 c9] 55)))
              have HBO := Lib.hid (bch HBO.out (below_new v4 (.cells #[.slice a9 n9 c9] 55)))
              have G5 : Hid ((v4.alloc (.cells #[.slice a9 n9 c9] 55)).cell? ⟨v4.heap.size, 0, none⟩ = some (.slice a9 n9 c9)) := Lib.hid (World.cell?_alloc_new v4 _ _ 0)
              have GB : Hid (wo.heap.size ≤ (v4.alloc (.cells #[.slice a9 n9 c9] 55)).heap.size) := Lib.hid HBO.out.size
              refine hK.out _ _ (hHeld.alloc hHeld.size _) (fun hHeld => ?_)
              obtain ⟨v5, hv5⟩ : ∃ q, q = v4.alloc (.cells #[.slice a9 n9 c9] 55) := ⟨_, rfl⟩
              rw [← hv5] at O9 HBO G5 GB hHeld ⊢
              clear hv5
              obtain ⟨g5, hg5⟩ : ∃ q, q = v4.heap.size := ⟨_, rfl⟩
              rw [← hg5] at G5 ⊢
              clear hg5
              (try simp only [Act.put, List.setIfInBounds_toArray, List.set_cons_zero, List.set_cons_succ])
              refine wpAnyH_ready (rs := [1]) (by kernel_rfl) (by simp) (AllReadyH.cons (o := { dst := some 30, op := Op.load 25 (Operand.tmp 29), type := 25, pos := "ref.go:170", after := #[{ on := 0, ground := Ground.data }], guard := none }) rfl (fun K hK => ?_) AllReadyH.nil)
              · have p0 := (XB.out.on HBO.out).cell (k := 0) rfl
                go_simp
                refine hK.out _ _ hHeld (fun hHeld => ?_)
                clear p0
                (try simp only [Act.put, List.setIfInBounds_toArray, List.set_cons_zero, List.set_cons_succ])
                refine wpAnyH_ready (rs := [6]) (by kernel_rfl) (by simp) (AllReadyH.cons (o := { dst := some 35, op := Op.call { callee := Callee.builtin Builtin.append, args := #[Operand.tmp 30, Operand.tmp 34], argTypes := #[25, 25] }, type := 25, pos := "ref.go:170", after := #[{ on := 1, ground := Ground.data }, { on := 5, ground := Ground.data }, { on := 4, ground := Ground.chain }], guard := none }) rfl (fun K hK => ?_) AllReadyH.nil)
                · refine wp_append_row (by rfl) (.tmp 30) (.tmp 34) rfl (w.heap.size + 4) (.slice ay9 m9 cy9) r (l ++ t) rfl (RO.out.on HBO.out) g5 (.slice a9 n9 c9) rfl G5.out (by rw [flatB_app, List.length_append, ← HN2.out, ← HN5.out, ← HN9.out]; exact own_base O9.out HBS4.out) (by have := HR20.out; omega) (Nat.le_trans HBS4.out GB.out) ?_
                  intro v9 v6 own6 grow6
                  have lown : ∀ j, (Value.slice ay9 m9 cy9).ownBlock = some j → w.heap.size + 4 ≤ j := fun j e => ((RO.out.on HBO.out).lt j e).1
                  have XB6 : Hid (Box v6 (w.heap.size + 3) 27 #[.slice ay9 m9 cy9]) := Lib.hid ((grow6.block _ (XB.out.on HBO.out).lt (fun e => by have := lown _ e.symm; omega)).trans (XB.out.on HBO.out))
                  have Z26 : Hid (Box v6 (w.heap.size + 1) 27 #[.slice (some ⟨g5', o5', none⟩) m cy]) := Lib.hid ((grow6.block _ (Z2.out.on HBO.out).lt (fun e => by have := lown _ e.symm; omega)).trans (Z2.out.on HBO.out))
                  have Z36 : Hid (Box v6 (w.heap.size + 2) 27 #[.slice none 0 0]) := Lib.hid ((grow6.block _ (Z3.out.on HBO.out).lt (fun e => by have := lown _ e.symm; omega)).trans (Z3.out.on HBO.out))
                  have O6 := Lib.hid own6
                  refine hK.out _ _ (hHeld.grown grow6 hHeld.size (fun j e => by have := lown j e; omega)) (fun hHeld => ?_)
                  obtain ⟨a6, c6, h6⟩ := own6.form
                  obtain ⟨n6, hn6⟩ : ∃ z, z = (r ++ [l ++ t]).length := ⟨_, rfl⟩
                  rw [← hn6] at h6
                  subst h6
                  clear hn6 grow6 lown own6
                  (try simp only [Act.put, List.setIfInBounds_toArray, List.set_cons_zero, List.set_cons_succ])
                  refine wpAnyH_take (i := 7) (oi := { dst := some 36, op := Op.fieldAddr 27 (Operand.tmp 6) 0, type := 0, pos := "ref.go:170", after := #[{ on := 0, ground := Ground.phase }, { on := 1, ground := Ground.phase }, { on := 2, ground := Ground.phase }, { on := 3, ground := Ground.phase }, { on := 4, ground := Ground.phase }, { on := 5, ground := Ground.phase }, { on := 6, ground := Ground.phase }], guard := none }) (v := ?_) rfl (by kernel_rfl) (by kernel_rfl) (by kernel_rfl) (fun _ _ _ h => h) (Or.inl ⟨by rfl, ?_⟩) hHeld ?_
                  rotate_left
                  · (intro w hSw; go_simp; try with_reducible rfl)
                  (try simp only [Act.put, List.setIfInBounds_toArray, List.set_cons_zero, List.set_cons_succ])
                  refine wpAnyH_ready (rs := [8]) (by kernel_rfl) (by simp) (AllReadyH.cons (o := { dst := none, op := Op.store 25 (Operand.tmp 36) (Operand.tmp 35), type := 0, pos := "ref.go:170", after := #[{ on := 7, ground := Ground.data }, { on := 6, ground := Ground.data }, { on := 6, ground := Ground.chain }, { on := 0, ground := Ground.phase }, { on := 1, ground := Ground.phase }, { on := 2, ground := Ground.phase }, { on := 3, ground := Ground.phase }, { on := 4, ground := Ground.phase }, { on := 5, ground := Ground.phase }, { on := 6, ground := Ground.phase }], guard := none }) rfl (fun K hK => ?_) AllReadyH.nil)
                  · have p0 := XB6.out.cell (k := 0) rfl
                    have f0 := frozen_of_row v6 _ 0 _ _ XB6.out
                    go_simp
                    refine hK.out _ _ (hHeld.setCell (p := ⟨w.heap.size + 3, 0, none⟩) (by show w.heap.size ≤ w.heap.size + 3; omega) _) (fun hHeld => ?_)
                    clear p0 f0
                    (try simp only [Act.put, List.setIfInBounds_toArray, List.set_cons_zero, List.set_cons_succ])
                    refine wpAnyH_done (by kernel_rfl) ?_ _
                    have HD := Lib.hid hHeld
                    clear hHeld
                    go_wp2_with fail
                    go_roundw
                    case rel => exact ⟨j + 1, _, jlt, by go_num, Lib.hid (XB6.out.set _), Lib.hid (by rw [HNX.out]; exact O6.out.apart (grownBy_setCell' v6 (w.heap.size + 3) _) (fun j e => by cases e; omega)), Lib.hid (Z26.out.far (by show w.heap.size + 1 ≠ w.heap.size + 3; omega) _), Lib.hid (Z36.out.far (by show w.heap.size + 2 ≠ w.heap.size + 3; omega) _), HD⟩
                    case measure => simp [Lib.intOf]; omega
        · have j1 : ¬ ((j : Int) < (m : Int)) := by omega
          have HRW := Lib.hid (both_row HL.out j (b := b) (by have := HM.out; omega))
          rw [HRW.out] at RO
          go_wp2_with fail
          go_roundw
          case rel => exact ⟨k + 1, _, hlt, by go_num, XB, RO, Z2, Z3, HBW⟩
          case measure => simp [Lib.intOf]; omega
    · have k1 : ¬ ((k : Int) < (n : Int)) := by omega
      have HTF : Hid (a.take k = a) := Lib.hid (List.take_of_length_le (by have := HN.out; omega))
      rw [HTF.out] at RO
      go_upto_region 13 with fail
      obtain ⟨ar, cr, rfl⟩ := RO.out.form
      obtain ⟨r, hr9⟩ : ∃ r, r = bothL a b := ⟨_, rfl⟩
      rw [← hr9] at RO XB
      have HR9 := Lib.hid hr9.symm
      obtain ⟨nr, hnr⟩ : ∃ z, z = r.length := ⟨_, rfl⟩
      rw [← hnr] at RO XB
      clear hr9 hnr HTF Z2
      obtain ⟨v0, hv0⟩ : ∃ q, q = World.drew wq := ⟨_, rfl⟩
      replace RO : Hid (OwnR v0 (w.heap.size + 4) (.slice ar nr cr) r) := Lib.hid (by rw [hv0]; exact RO.out)
      replace Z3 : Hid (Box v0 (w.heap.size + 2) 27 #[.slice none 0 0]) := Lib.hid (by rw [hv0]; exact Z3.out)
      refine wp_region_held_drew (S := fun w' => Box w' (w.heap.size + 3) 27 #[.slice ar nr cr] ∧ Below w.heap.size w w') (by kernel_rfl) ⟨XB.out, HBW.out.drew⟩ (fun hHeld => ?_)
      rw [← hv0] at hHeld ⊢
      clear hv0 XB HBW
      refine wpAnyH_take (i := 0) (oi := { dst := some 39, op := Op.load 27 (Operand.tmp 6), type := 27, pos := "ref.go:173", after := #[], guard := none }) (v := ?_) rfl (by kernel_rfl) (by kernel_rfl) (by kernel_rfl) (fun _ _ _ h => h) (Or.inl ⟨by rfl, ?_⟩) hHeld ?_
      rotate_left
      · (intro w hSw; have p0 := hSw.1.cell (k := 0) rfl; go_simp; try with_reducible rfl)
      (try simp only [Act.put, List.setIfInBounds_toArray, List.set_cons_zero, List.set_cons_succ])
      refine wpAnyH_take (i := 1) (oi := { dst := some 40, op := Op.load 27 (Operand.tmp 6), type := 27, pos := "ref.go:173", after := #[], guard := none }) (v := ?_) rfl (by kernel_rfl) (by kernel_rfl) (by kernel_rfl) (fun _ _ _ h => h) (Or.inl ⟨by rfl, ?_⟩) hHeld ?_
      rotate_left
      · (intro w hSw; have p0 := hSw.1.cell (k := 0) rfl; go_simp; try with_reducible rfl)
      (try simp only [Act.put, List.setIfInBounds_toArray, List.set_cons_zero, List.set_cons_succ])
      refine wpAnyH_ready (rs := [2]) (by kernel_rfl) (by simp) (AllReadyH.cons (o := { dst := some 41, op := Op.call { callee := Callee.value (Operand.func 11), args := #[Operand.tmp 40], argTypes := #[27] }, type := 4, pos := "ref.go:173", after := #[{ on := 1, ground := Ground.data }], guard := none }) rfl (fun K hK => ?_) AllReadyH.nil)
      · go_simp
        refine (rright_any r _ v0 RO.out.rd).mono ?_
        rintro e va ⟨rfl, hba⟩
        replace RO := Lib.hid (RO.out.on hba)
        replace Z3 := Lib.hid (Z3.out.on hba)
        refine hK.out _ _ ⟨hHeld.1.on hba, bch hHeld.2 hba⟩ (fun hHeld => ?_)
        clear hba
        (try simp only [Act.put, List.setIfInBounds_toArray, List.set_cons_zero, List.set_cons_succ])
        refine wpAnyH_ready (rs := [3]) (by kernel_rfl) (by simp) (AllReadyH.cons (o := { dst := none, op := Op.store 27 (Operand.tmp 4) (Operand.tmp 39), type := 0, pos := "ref.go:173", after := #[{ on := 0, ground := Ground.data }, { on := 2, ground := Ground.chain }, { on := 0, ground := Ground.phase }, { on := 1, ground := Ground.textOnly Departure.lateStores }, { on := 2, ground := Ground.textOnly Departure.lateStoresUnsure }], guard := none }) rfl (fun K hK => ?_) AllReadyH.nil)
        · have p0 := Z3.out.cell (k := 0) rfl
          have f0 := frozen_of_row va _ 0 _ _ Z3.out
          go_simp
          replace RO := Lib.hid (RO.out.apart (grownBy_setCell' va (w.heap.size + 2) (.slice ar nr cr)) (fun j e => by cases e; omega))
          replace Z3 := Lib.hid (Z3.out.set (k := 0) (.slice ar nr cr))
          refine hK.out _ _ ⟨hHeld.1.far (p := ⟨w.heap.size + 2, 0, none⟩) (by show w.heap.size + 3 ≠ w.heap.size + 2; omega) _, hHeld.2.setCell (p := ⟨w.heap.size + 2, 0, none⟩) (by show w.heap.size ≤ w.heap.size + 2; omega) _⟩ (fun hHeld => ?_)
          clear p0 f0
          obtain ⟨vs, hvs⟩ : ∃ q, q = va.setCell ⟨w.heap.size + 2, 0, none⟩ (.slice ar nr cr) := ⟨_, rfl⟩
          rw [← hvs] at RO Z3 hHeld ⊢
          clear hvs
          (try simp only [Act.put, List.setIfInBounds_toArray, List.set_cons_zero, List.set_cons_succ])
          refine wpAnyH_take (i := 4) (oi := { dst := some 5, op := Op.assign (Operand.tmp 41), type := 4, pos := "ref.go:173", after := #[{ on := 2, ground := Ground.data }, { on := 3, ground := Ground.chain }, { on := 0, ground := Ground.phase }, { on := 1, ground := Ground.phase }, { on := 2, ground := Ground.phase }, { on := 3, ground := Ground.phase }], guard := none }) (v := ?_) rfl (by kernel_rfl) (by kernel_rfl) (by kernel_rfl) (fun _ _ _ h => h) (Or.inl ⟨by rfl, ?_⟩) hHeld ?_
          rotate_left
          · (intro w hSw; go_simp; try with_reducible rfl)
          (try simp only [Act.put, List.setIfInBounds_toArray, List.set_cons_zero, List.set_cons_succ])
          refine wpAnyH_done (by kernel_rfl) ?_ _
          have HD := Lib.hid hHeld.2
          clear hHeld
          go_wp2_with fail
          refine bodyPost_ret (results_ver rfl _ _ (w.heap.size + 2) rfl #[.slice ar nr cr] (run_loadVar_row _ (w.heap.size + 2) 27 27 #[.slice ar nr cr] (0, 0) _ Z3.out Tryz.underlying27 rfl (info27 _))) rfl ⟨.slice ar nr cr, by rw [HR9.out]; rfl, by rw [HR9.out]; exact RO.out.base (by omega), HD.out⟩

end Go.Proofs.YtlfehjjnepiljaaGreatDoor

namespace Go.Proofs.YtlfehjjnepiljaaGreatDoor
open Go.RowKit Go.Shelf

theorem rdR_half {w W : World} {B n : Nat} {x : Value} {vs : List Value} {ls : List (List Bd)} (ho : W.ownsRow B 55 1 x n vs) (hl : n = vs.length ∧ vs.length = ls.length) (hr : ∀ (i : Nat) (v : Value) (l : List Bd), vs[i]? = some v → ls[i]? = some l → RdB w v l) (hb : Below w.heap.size w W) : RdR W x ls := by
  obtain ⟨rfl, h2⟩ := hl
  exact ⟨vs, RdF.of_own ho, h2, fun i v l hv hl => (hr i v l hv hl).on hb⟩

set_option maxRecDepth 100000 in
set_option maxHeartbeats 8000000 in
theorem reither_any (a b : List (List Bd)) (x y : Value) (w0 w : World) (hx : RdR w0 x a) (hy : RdR w0 y b) (hbw : Below w0.heap.size w0 w) (ha : spanOk a = true) (hb : spanOk b = true) : Calls Tryz.prog 29 #[.agg #[x], .agg #[y]] w fun e w' => ∃ x', e = .returned (.tuple #[.agg #[x'], .bool (spanOk (a ++ b))]) ∧ HalfR w0 w' w.heap.size x' (a ++ b) ∧ Below w.heap.size w w' := by
  obtain ⟨vs, hv1, hv2, hv3⟩ := hx
  obtain ⟨us, hu1, hu2, hu3⟩ := hy
  replace hv1 := hv1.on hbw
  replace hu1 := hu1.on hbw
  have HBW := Lib.hid hbw
  obtain ⟨ax, cx, rfl, hlx, hmx, _⟩ := id hv1
  obtain ⟨ay, cy, rfl, hly, hmy, _⟩ := id hu1
  obtain ⟨i0, hi, hz0, hz1, hz2⟩ := info_parts info55z
  have HI := Lib.hid hi
  have HZ0 := Lib.hid hz0
  have HZ1 := Lib.hid hz1
  have HZ2 := Lib.hid hz2
  have HU1 := Lib.hid (rd_cells hv2 hv3)
  have HU2 := Lib.hid (rd_cells hu2 hu3)
  have HV2 : Hid (∀ (i : Nat) (v : Value) (l : List Bd), (vs ++ us)[i]? = some v → (a ++ b)[i]? = some l → RdB w0 v l) := Lib.hid (fun i v t hv ht => by
    by_cases hi' : i < vs.length
    · rw [List.getElem?_append_left hi'] at hv
      rw [List.getElem?_append_left (by omega)] at ht
      exact hv3 i v t hv ht
    · rw [List.getElem?_append_right (by omega)] at hv
      rw [List.getElem?_append_right (by omega), ← hv2] at ht
      exact hu3 _ v t hv ht)
  obtain ⟨n, hn⟩ : ∃ n, n = vs.length := ⟨_, rfl⟩
  obtain ⟨m, hm⟩ : ∃ n, n = us.length := ⟨_, rfl⟩
  rw [← hn] at hlx hv1 ⊢
  rw [← hm] at hly hu1 ⊢
  have hn4 : n ≤ 4 := by rw [hn, hv2]; exact (span_ok ha).1.2
  have hm4 : m ≤ 4 := by rw [hm, hu2]; exact (span_ok hb).1.2
  have HX := Lib.hid hv1
  have HY := Lib.hid hu1
  have HLN : Hid (vs.length = n * 1) := Lib.hid (by omega)
  have HLM : Hid (us.length = m * 1) := Lib.hid (by omega)
  obtain ⟨q, hq⟩ : ∃ z, z = n + m := ⟨_, rfl⟩
  have HQ := Lib.hid hq
  obtain ⟨r, hr9⟩ : ∃ r, r = a ++ b := ⟨_, rfl⟩
  rw [← hr9] at HV2
  have HR9 := Lib.hid hr9.symm
  have HLL : Hid (q = (vs ++ us).length ∧ (vs ++ us).length = r.length) := Lib.hid (by rw [hr9, List.length_append, List.length_append]; omega)
  unfold maxLen at hmx hmy
  clear hbw hv1 hv2 hv3 hu1 hu2 hu3 hn hm ha hb hi hz0 hz1 hz2 hq hr9
  obtain ⟨w1, hw1⟩ : ∃ q, q = (((w.alloc (.cells #[.slice ax n cx] 27)).alloc (.cells #[.slice ay m cy] 27)).alloc (.cells #[.slice none 0 0] 27)).alloc (.cells #[.slice none 0 0] 27) := ⟨_, rfl⟩
  have X1 : Hid (Box w1 w.heap.size 27 #[.slice ax n cx]) := Lib.hid (by rw [hw1]; exact ((box_new.alloc _).alloc _).alloc _)
  have X2 : Hid (Box w1 (w.heap.size + 1) 27 #[.slice ay m cy]) := Lib.hid (by rw [hw1]; exact Box.alloc (Box.alloc (heap_alloc2_new w _ _) _) _)
  have X3 : Hid (Box w1 (w.heap.size + 2) 27 #[.slice none 0 0]) := Lib.hid (by
    have := box_new (w := (w.alloc (.cells #[.slice ax n cx] 27)).alloc (.cells #[.slice ay m cy] 27)) (t := 27) (cs := #[.slice none 0 0])
    simp only [World.size_alloc] at this
    rw [hw1]; exact Box.alloc this _)
  have X4 : Hid (Box w1 (w.heap.size + 3) 27 #[.slice none 0 0]) := Lib.hid (by
    have := box_new (w := ((w.alloc (.cells #[.slice ax n cx] 27)).alloc (.cells #[.slice ay m cy] 27)).alloc (.cells #[.slice none 0 0] 27)) (t := 27) (cs := #[.slice none 0 0])
    simp only [World.size_alloc] at this
    rw [hw1]; exact this)
  have B1 : Hid (Below w.heap.size w w1) := Lib.hid (by rw [hw1]; exact ((((Below.refl _ w).alloc (Nat.le_refl _) _).alloc (by simp) _).alloc (by simp; omega) _).alloc (by simp; omega) _)
  go_enter Tryz.func29, Tryz.ntmps29
  go_upto_region 2 with fail
  rw [← hw1]
  clear hw1
  have p0 := X1.out.cell (k := 0) rfl
  have p1 := X4.out.cell (k := 0) rfl
  go_upto_region 3 with (at_builtin; refine wpList_append_ownrd rfl _ _ 25 rfl (w.heap.size + 4) 55 i0 (.slice none 0 0) 1 24 Tryz.underlying25 HI.out HZ0.out HZ1.out HZ2.out rfl (by decide) (.slice none 0 0) 0 [] rfl (World.ownsRow_nil _ _ _ _) (.slice ax n cx) n vs rfl (HX.out.on B1.out) HLN.out HU1.out (by unfold maxLen; omega) (by omega) (by have := X4.out.lt; omega) ?_; intro v1 w2 own1 grow1; have O1 := Lib.hid own1; have G1 := Lib.hid grow1; have Y4 := Lib.hid (X4.out.kept grow1 (fun e => by cases e)); have q4 := Y4.out.cell (k := 0) rfl; have f4 := frozen_of_row w2 _ 0 _ _ Y4.out; obtain ⟨a1, c1, rfl⟩ := ownF_form own1; clear own1 grow1)
  obtain ⟨w3, hw3⟩ : ∃ q, q = w2.setCell ⟨w.heap.size + 1 + 1 + 1, 0, none⟩ (.slice a1 n c1) := ⟨_, rfl⟩
  have O3 : Hid (w3.ownsRow (w.heap.size + 4) 55 1 (.slice a1 n c1) n vs) := Lib.hid (by
    have h := O1.out
    rw [Nat.zero_add, List.nil_append] at h
    rw [hw3]
    exact ownsRow_setCell_below h (a := ⟨w.heap.size + 1 + 1 + 1, 0, none⟩) (by show w.heap.size + 1 + 1 + 1 < w.heap.size + 4; omega) _)
  have Z4 : Hid (Box w3 (w.heap.size + 3) 27 #[.slice a1 n c1]) := Lib.hid (by rw [hw3]; exact Y4.out.set (k := 0) _)
  have Z2 : Hid (Box w3 (w.heap.size + 1) 27 #[.slice ay m cy]) := Lib.hid (by rw [hw3]; exact (X2.out.kept G1.out (fun e => by cases e)).far (p := ⟨w.heap.size + 3, 0, none⟩) (by show w.heap.size + 1 ≠ w.heap.size + 3; omega) _)
  have Z3 : Hid (Box w3 (w.heap.size + 2) 27 #[.slice none 0 0]) := Lib.hid (by rw [hw3]; exact (X3.out.kept G1.out (fun e => by cases e)).far (p := ⟨w.heap.size + 3, 0, none⟩) (by show w.heap.size + 2 ≠ w.heap.size + 3; omega) _)
  have B3 : Hid (Below w.heap.size w w3) := Lib.hid (by rw [hw3]; exact (B1.out.grown G1.out B1.out.size (fun k e => by cases e)).setCell (p := ⟨w.heap.size + 3, 0, none⟩) (by show w.heap.size ≤ w.heap.size + 3; omega) _)
  rw [← hw3]
  clear hw3 O1 G1 Y4 q4 f4 p0 p1 X1 X2 X3 X4 B1
  have p0 := Z2.out.cell (k := 0) rfl
  have p1 := Z4.out.cell (k := 0) rfl
  go_upto_region 4 with (at_builtin; refine wpList_append_ownrd rfl _ _ 25 rfl (w.heap.size + 4) 55 i0 (.slice none 0 0) 1 24 Tryz.underlying25 HI.out HZ0.out HZ1.out HZ2.out rfl (by decide) (.slice a1 n c1) n vs rfl O3.out (.slice ay m cy) m us rfl (HY.out.on B3.out) HLM.out HU2.out (by unfold maxLen; omega) (by omega) (by have := Z4.out.lt; omega) ?_; intro v1 w4 own1 grow1; have O1 := Lib.hid own1; have G1 := Lib.hid grow1; have Y4 := Lib.hid (Z4.out.kept grow1 (fun e => by have := (O3.out.lt _ e.symm).1; omega)); have q4 := Y4.out.cell (k := 0) rfl; have f4 := frozen_of_row w4 _ 0 _ _ Y4.out; obtain ⟨a2, c2, rfl⟩ := ownF_form own1; clear own1 grow1)
  rw [← HQ.out] at O1 ⊢
  obtain ⟨w5, hw5⟩ : ∃ z, z = w4.setCell ⟨w.heap.size + 1 + 1 + 1, 0, none⟩ (.slice a2 q c2) := ⟨_, rfl⟩
  rw [← hw5]
  have OR : Hid (w5.drew.ownsRow (w.heap.size + 4) 55 1 (.slice a2 q c2) q (vs ++ us)) := Lib.hid (by
    show w5.ownsRow (w.heap.size + 4) 55 1 (.slice a2 q c2) q (vs ++ us)
    rw [hw5]
    exact ownsRow_setCell_below O1.out (a := ⟨w.heap.size + 1 + 1 + 1, 0, none⟩) (by show w.heap.size + 1 + 1 + 1 < w.heap.size + 4; omega) _)
  have Z4' : Hid (Box w5 (w.heap.size + 3) 27 #[.slice a2 q c2]) := Lib.hid (by rw [hw5]; exact Y4.out.set (k := 0) _)
  replace Z3 : Hid (Box w5.drew (w.heap.size + 2) 27 #[.slice none 0 0]) := Lib.hid (by
    show Box w5 (w.heap.size + 2) 27 #[.slice none 0 0]
    rw [hw5]; exact (Z3.out.kept G1.out (fun e => by have := (O3.out.lt _ e.symm).1; omega)).far (p := ⟨w.heap.size + 3, 0, none⟩) (by show w.heap.size + 2 ≠ w.heap.size + 3; omega) _)
  have B5 : Hid (Below w.heap.size w w5) := Lib.hid (by rw [hw5]; exact (B3.out.grown G1.out B3.out.size (fun k e => by have := (O3.out.lt _ e).1; omega)).setCell (p := ⟨w.heap.size + 3, 0, none⟩) (by show w.heap.size ≤ w.heap.size + 3; omega) _)
  clear hw5 O1 G1 Y4 q4 f4 p0 p1 Z2 Z4 B3 O3
  obtain ⟨v0, hv0⟩ : ∃ q, q = World.drew w5 := ⟨_, rfl⟩
  rw [← hv0] at OR Z3
  refine wp_region_held_drew (S := fun w' => Box w' (w.heap.size + 3) 27 #[.slice a2 q c2] ∧ Below w.heap.size w w') (by kernel_rfl) ⟨Z4'.out, B5.out.drew⟩ (fun hHeld => ?_)
  rw [← hv0] at hHeld ⊢
  clear hv0 Z4' B5
  refine wpAnyH_take (i := 0) (oi := { dst := some 19, op := Op.load 27 (Operand.tmp 6), type := 27, pos := "ref.go:181", after := #[], guard := none }) (v := ?_) rfl (by kernel_rfl) (by kernel_rfl) (by kernel_rfl) (fun _ _ _ h => h) (Or.inl ⟨by rfl, ?_⟩) hHeld ?_
  rotate_left
  · (intro w hSw; have p0 := hSw.1.cell (k := 0) rfl; go_simp; try with_reducible rfl)
  (try simp only [Act.put, List.setIfInBounds_toArray, List.set_cons_zero, List.set_cons_succ])
  refine wpAnyH_take (i := 1) (oi := { dst := some 20, op := Op.load 27 (Operand.tmp 6), type := 27, pos := "ref.go:181", after := #[], guard := none }) (v := ?_) rfl (by kernel_rfl) (by kernel_rfl) (by kernel_rfl) (fun _ _ _ h => h) (Or.inl ⟨by rfl, ?_⟩) hHeld ?_
  rotate_left
  · (intro w hSw; have p0 := hSw.1.cell (k := 0) rfl; go_simp; try with_reducible rfl)
  (try simp only [Act.put, List.setIfInBounds_toArray, List.set_cons_zero, List.set_cons_succ])
  refine wpAnyH_ready (rs := [2]) (by kernel_rfl) (by simp) (AllReadyH.cons (o := { dst := some 21, op := Op.call { callee := Callee.value (Operand.func 11), args := #[Operand.tmp 20], argTypes := #[27] }, type := 4, pos := "ref.go:181", after := #[{ on := 1, ground := Ground.data }], guard := none }) rfl (fun K hK => ?_) AllReadyH.nil)
  · go_simp
    refine (rright_any r _ v0 (rdR_half OR.out HLL.out HV2.out (bch HBW.out hHeld.2))).mono ?_
    rintro e va ⟨rfl, hba⟩
    replace OR := Lib.hid (owns_below OR.out hba)
    replace Z3 := Lib.hid (Z3.out.on hba)
    refine hK.out _ _ ⟨hHeld.1.on hba, bch hHeld.2 hba⟩ (fun hHeld => ?_)
    clear hba
    (try simp only [Act.put, List.setIfInBounds_toArray, List.set_cons_zero, List.set_cons_succ])
    refine wpAnyH_ready (rs := [3]) (by kernel_rfl) (by simp) (AllReadyH.cons (o := { dst := none, op := Op.store 27 (Operand.tmp 4) (Operand.tmp 19), type := 0, pos := "ref.go:181", after := #[{ on := 0, ground := Ground.data }, { on := 2, ground := Ground.chain }, { on := 0, ground := Ground.phase }, { on := 1, ground := Ground.textOnly Departure.lateStores }, { on := 2, ground := Ground.textOnly Departure.lateStoresUnsure }], guard := none }) rfl (fun K hK => ?_) AllReadyH.nil)
    · have p0 := Z3.out.cell (k := 0) rfl
      have f0 := frozen_of_row va _ 0 _ _ Z3.out
      go_simp
      replace OR := Lib.hid (ownsRow_setCell_below OR.out (a := ⟨w.heap.size + 2, 0, none⟩) (by show w.heap.size + 2 < w.heap.size + 4; omega) (.slice a2 q c2))
      replace Z3 := Lib.hid (Z3.out.set (k := 0) (.slice a2 q c2))
      refine hK.out _ _ ⟨hHeld.1.far (p := ⟨w.heap.size + 2, 0, none⟩) (by show w.heap.size + 3 ≠ w.heap.size + 2; omega) _, hHeld.2.setCell (p := ⟨w.heap.size + 2, 0, none⟩) (by show w.heap.size ≤ w.heap.size + 2; omega) _⟩ (fun hHeld => ?_)
      clear p0 f0
      obtain ⟨vs3, hvs3⟩ : ∃ ww, ww = va.setCell ⟨w.heap.size + 2, 0, none⟩ (.slice a2 q c2) := ⟨_, rfl⟩
      rw [← hvs3] at OR Z3 hHeld ⊢
      clear hvs3
      (try simp only [Act.put, List.setIfInBounds_toArray, List.set_cons_zero, List.set_cons_succ])
      refine wpAnyH_take (i := 4) (oi := { dst := some 5, op := Op.assign (Operand.tmp 21), type := 4, pos := "ref.go:181", after := #[{ on := 2, ground := Ground.data }, { on := 3, ground := Ground.chain }, { on := 0, ground := Ground.phase }, { on := 1, ground := Ground.phase }, { on := 2, ground := Ground.phase }, { on := 3, ground := Ground.phase }], guard := none }) (v := ?_) rfl (by kernel_rfl) (by kernel_rfl) (by kernel_rfl) (fun _ _ _ h => h) (Or.inl ⟨by rfl, ?_⟩) hHeld ?_
      rotate_left
      · (intro w hSw; go_simp; try with_reducible rfl)
      (try simp only [Act.put, List.setIfInBounds_toArray, List.set_cons_zero, List.set_cons_succ])
      refine wpAnyH_done (by kernel_rfl) ?_ _
      have HD := Lib.hid hHeld.2
      clear hHeld
      go_wp2_with fail
      refine bodyPost_ret (results_ver rfl _ _ (w.heap.size + 2) rfl #[.slice a2 q c2] (run_loadVar_row _ (w.heap.size + 2) 27 27 #[.slice a2 q c2] (0, 0) _ Z3.out Tryz.underlying27 rfl (info27 _))) rfl ⟨.slice a2 q c2, by rw [HR9.out]; rfl, by rw [HR9.out]; exact ⟨vs ++ us, by rw [← HLL.out.1]; exact own_base OR.out (by omega), HLL.out.2, HV2.out⟩, HD.out⟩
end Go.Proofs.YtlfehjjnepiljaaGreatDoor

namespace Go.Proofs.YtlfehjjnepiljaaGreatDoor
open Go.RowKit Go.Shelf

theorem own_boxT {w : World} {B s n g : Nat} {e t : TypeId} {x : Value} {xs : List Value} {cs : Array Value} (h : w.ownsRow B e s x n xs) (hb : Box w g t cs) (hne : e ≠ t) (k : Nat) (v : Value) : (w.setCell ⟨g, k, none⟩ v).ownsRow B e s x n xs := by
  refine ownsRow_setCell_other h ?_ v
  rcases h.2 with ⟨rfl, _⟩ | ⟨g', c, cur, rfl, _, hh, _⟩
  · exact fun e => by cases e
  · intro e2
    have : g' = g := by simpa [Value.ownBlock] using e2
    subst this
    unfold Box at hb
    rw [hh] at hb
    cases hb
    exact hne rfl
/-- The kind of the j-th bound is written. -/
def kindAt (l : List Bd) (j : Nat) (z : Int) : List Bd := l.modify j fun b => ⟨z, b.ver⟩
theorem kindAt_len (l : List Bd) (j : Nat) (z : Int) : (kindAt l j z).length = l.length := List.length_modify ..
theorem flatB_kind (z : Int) : ∀ (l : List Bd) (j : Nat), (flatB l).set (j * 8) (.int .i64 z) = flatB (kindAt l j z)
  | [], j => by simp [flatB, kindAt]
  | b :: l, 0 => by
    unfold kindAt
    rw [List.modify_zero_cons, flatB_cons, flatB_cons]
    rfl
  | b :: l, j + 1 => by
    have ih := flatB_kind z l j
    unfold kindAt at ih ⊢
    rw [List.modify_succ_cons, flatB_cons, flatB_cons, ← ih]
    have e : b.cells.length = 8 := rfl
    rw [List.set_append_right _ _ (by rw [e]; omega), e]
    congr 2
    omega
/-- Rows of bounds in memory of the call's own: the outer cells are these. -/
def MV (w : World) (B : Nat) (x : Value) (vs : List Value) : Prop := w.ownsRow B 55 1 x vs.length vs ∧ ∀ v ∈ vs, ∃ l : List Bd, w.ownsRow B 57 8 v l.length (flatB l)
theorem OwnR.mv {w : World} {B : Nat} {x : Value} {ls : List (List Bd)} (h : OwnR w B x ls) : ∃ vs, MV w B x vs ∧ vs.length = ls.length := by
  obtain ⟨vs, h1, h2, h4, h3⟩ := h
  refine ⟨vs, ⟨h1, fun v hv => ?_⟩, h2⟩
  obtain ⟨i, hi⟩ := List.mem_iff_getElem?.1 hv
  have hlt := (List.getElem?_eq_some_iff.1 hi).1
  obtain ⟨l, hl⟩ : ∃ l, ls[i]? = some l := ⟨_, List.getElem?_eq_getElem (by omega)⟩
  exact ⟨l, h3 i v l hi hl⟩
theorem MV.on {w w' : World} {B : Nat} {x : Value} {vs : List Value} (h : MV w B x vs) (hb : Below w.heap.size w w') : MV w' B x vs :=
  ⟨owns_below h.1 hb, fun v hv => by obtain ⟨l, hl⟩ := h.2 v hv; exact ⟨l, owns_below hl hb⟩⟩
theorem MV.base {w : World} {B B' : Nat} {x : Value} {vs : List Value} (h : MV w B x vs) (hB : B' ≤ B) : MV w B' x vs :=
  ⟨own_base h.1 hB, fun v hv => by obtain ⟨l, hl⟩ := h.2 v hv; exact ⟨l, own_base hl hB⟩⟩
theorem MV.store {w : World} {B g : Nat} {x : Value} {vs : List Value} {cur : Array Value} (h : MV w B x vs) (hb : Box w g 57 cur) (j : Nat) (z : Int) : MV (w.setCell ⟨g, j * 8, none⟩ (.int .i64 z)) B x vs := by
  refine ⟨own_boxT h.1 hb (by decide) _ _, fun v hv => ?_⟩
  obtain ⟨l, h1, h2⟩ := h.2 v hv
  rcases h2 with ⟨rfl, h0⟩ | ⟨g', c, cur', rfl, hB, hh, hn, hm, hs, ht⟩
  · exact ⟨l, h1, .inl ⟨rfl, h0⟩⟩
  · by_cases e : g' = g
    · subst e
      refine ⟨kindAt l j z, by rw [← flatB_kind, List.length_set, kindAt_len]; exact h1, .inr ⟨g', c, cur'.setIfInBounds (j * 8) (.int .i64 z), by rw [kindAt_len], hB, heap_setCell_same w g' _ cur' 57 _ hh, by rw [kindAt_len]; exact hn, hm, by rw [Array.size_setIfInBounds]; exact hs, ?_⟩⟩
      rw [Array.toList_setIfInBounds, List.take_set, kindAt_len, ht, flatB_kind]
    · exact ⟨l, h1, .inr ⟨g', c, cur', rfl, hB, (heap_setCell_other w ⟨g, j * 8, none⟩ g' _ e).trans hh, hn, hm, hs, ht⟩⟩
/-- A row of it, to be walked. -/
theorem MV.row {w : World} {B : Nat} {x : Value} {vs : List Value} {k : Nat} {v : Value} (h : MV w B x vs) (hk : vs[k]? = some v) : ∃ (g c : Nat) (cur : Array Value), x = .slice (some ⟨g, 0, none⟩) vs.length c ∧ vs.length ≤ c ∧ c ≤ maxLen ∧ Box w g 55 cur ∧ cur[k]? = some v := by
  have hlt := (List.getElem?_eq_some_iff.1 hk).1
  obtain ⟨g, c, cur, e, _, hb, hn, hm, hc⟩ := own_box h.1 (by omega)
  exact ⟨g, c, cur, e, hn, hm, hb, hc k v hk⟩
theorem MV.form {w : World} {B : Nat} {x : Value} {vs : List Value} (h : MV w B x vs) {k : Nat} {v : Value} (hk : vs[k]? = some v) : ∃ a n c, v = .slice a n c ∧ n ≤ c ∧ c ≤ maxLen := by
  obtain ⟨l, h1, h2⟩ := h.2 v (List.mem_of_getElem? hk)
  rcases h2 with ⟨rfl, h0⟩ | ⟨g', c, cur', rfl, hB, hh, hn, hm, hs, ht⟩
  · exact ⟨none, 0, 0, rfl, Nat.le_refl _, Nat.zero_le _⟩
  · exact ⟨_, _, c, rfl, hn, hm⟩
theorem MV.cell {w : World} {B : Nat} {x : Value} {vs : List Value} (h : MV w B x vs) {k n c : Nat} {a : Option Addr} (hk : vs[k]? = some (.slice a n c)) {j : Nat} (hj : j < n) : ∃ (g : Nat) (cur : Array Value) (z : Int), a = some ⟨g, 0, none⟩ ∧ B ≤ g ∧ Box w g 57 cur ∧ cur[j * 8]? = some (.int .i64 z) := by
  obtain ⟨l, h1, h2⟩ := h.2 _ (List.mem_of_getElem? hk)
  rcases h2 with ⟨e, h0⟩ | ⟨g', c', cur', e, hB, hh, hn, hm, hs, ht⟩
  · cases e
    omega
  · cases e
    obtain ⟨b, hb⟩ : ∃ b, l[j]? = some b := ⟨_, List.getElem?_eq_getElem hj⟩
    have hf := flat8 l j 0 (by omega)
    rw [hb] at hf
    have hc : cur'[j * 8]? = some (.int .i64 b.kind) := by
      have e1 : (flatB l)[j * 8]? = some (.int .i64 b.kind) := hf
      rw [← ht, List.getElem?_take] at e1
      split at e1
      · simpa using e1
      · cases e1
    exact ⟨g', cur', b.kind, rfl, hB, hh, hc⟩
theorem joinV_no {r : List (List Bd)} {w w' : World} {e : Ending} (h : JoinV false r w e w') : e = .returned (.tuple #[.agg #[.slice none 0 0], .int .i64 150]) ∧ Below w.heap.size w w' := by
  obtain ⟨x, z, rfl, hz, hb⟩ := h
  rcases hz with ⟨h1, _⟩ | ⟨h1, _⟩ | ⟨_, h3, h4⟩
  · cases h1
  · cases h1
  · subst h3 h4
    exact ⟨rfl, hb⟩
/-- The rows where they fit, else none. -/
def fitL (r : List (List Bd)) : List (List Bd) := if fitsB r = true then r else []
def fitZ (o : Bool) : Int := if o = true then 0 else 3
theorem joinV_yes {r : List (List Bd)} {w w' : World} {e : Ending} (h : JoinV true r w e w') : ∃ (a : Option Addr) (n c : Nat), e = .returned (.tuple #[.agg #[.slice a n c], .int .i64 (fitZ (fitsB r))]) ∧ OwnR w' w.heap.size (.slice a n c) (fitL r) ∧ Below w.heap.size w w' := by
  obtain ⟨x, z, rfl, hz, hb⟩ := h
  unfold fitL fitZ
  rcases hz with ⟨_, h2, h3, h4⟩ | ⟨_, h2, h3, h4⟩ | ⟨h1, _⟩
  · subst h3
    obtain ⟨a, c, rfl⟩ := h4.form
    rw [h2]
    exact ⟨a, _, c, rfl, h4, hb⟩
  · subst h3 h4
    rw [h2]
    exact ⟨_, _, _, rfl, OwnR.nil _ _, hb⟩
  · cases h1
theorem ok_both {a b : List (List Bd)} (ha : spanOk a = true) (hb : spanOk b = true) : spanOk (bothL a b) = fitsB (bothL a b) := by
  cases h : fitsB (bothL a b) with
  | true => exact both_ok ha hb h
  | false => exact span_nofit h
theorem ok_either {a b : List (List Bd)} (ha : spanOk a = true) (hb : spanOk b = true) : spanOk (a ++ b) = fitsB (a ++ b) := by
  cases h : fitsB (a ++ b) with
  | true => exact either_ok ha hb h
  | false => exact span_nofit h
theorem rsame_self {ls ms : List (List Bd)} (h : ls = ms) {x y : Value} (W : World) (hx : RdR W x ls) (hy : RdR W y ms) : Calls Tryz.prog 16 #[.agg #[x], .agg #[y]] W fun e w' => e = .returned (.bool true) ∧ Below W.heap.size W w' := by
  have := rsame_any ls ms x y W hx hy
  rw [decide_eq_true h] at this
  exact this
theorem HalfR.rd {w0 W : World} {B : Nat} {x : Value} {ls : List (List Bd)} (h : HalfR w0 W B x ls) (hb : Below w0.heap.size w0 W) : RdR W x ls := by
  obtain ⟨vs, h1, h2, h3⟩ := h
  exact ⟨vs, RdF.of_own h1, h2, fun i v l hv hl => (h3 i v l hv hl).on hb⟩
theorem HalfR.on {w0 W W' : World} {B : Nat} {x : Value} {ls : List (List Bd)} (h : HalfR w0 W B x ls) (hb : Below W.heap.size W W') : HalfR w0 W' B x ls := by
  obtain ⟨vs, h1, h2, h3⟩ := h
  exact ⟨vs, owns_below h1 hb, h2, h3⟩
theorem HalfR.box {w0 W : World} {B g : Nat} {x : Value} {ls : List (List Bd)} {cs : Array Value} (h : HalfR w0 W B x ls) (hb : Box W g 27 cs) (k : Nat) (v : Value) : HalfR w0 (W.setCell ⟨g, k, none⟩ v) B x ls := by
  obtain ⟨vs, h1, h2, h3⟩ := h
  exact ⟨vs, own_box27 h1 hb (by decide) k v, h2, h3⟩
theorem HalfR.form {w0 W : World} {B : Nat} {x : Value} {ls : List (List Bd)} (h : HalfR w0 W B x ls) : ∃ a c, x = .slice a ls.length c := by
  obtain ⟨vs, h1, h2, _⟩ := h
  obtain ⟨a, c, e⟩ := ownF_form h1
  exact ⟨a, c, by rw [e, h2]⟩
theorem HalfR.nil (w0 W : World) (B : Nat) : HalfR w0 W B (.slice none 0 0) [] := ⟨[], World.ownsRow_nil _ _ _ _, rfl, fun i v l h => by cases h⟩
theorem fitL_yes {r : List (List Bd)} (h : true = fitsB r) : fitL r = r := if_pos h.symm
theorem fitL_no {r : List (List Bd)} (h : false = fitsB r) : fitL r = [] := if_neg (by rw [← h]; decide)
theorem size27 : (Tryz.prog.types[27]'(by decide +kernel)).size = 1 := by kernel_rfl
theorem extract0 (a b : Value) : (#[a, b] : Array Value).extract (Int.toNat 0 * (Tryz.prog.types[27]'(by decide +kernel)).size) (Int.toNat 0 * (Tryz.prog.types[27]'(by decide +kernel)).size + (Tryz.prog.types[27]'(by decide +kernel)).size) = #[a] := by rw [size27]; rfl
theorem extract1 (a b : Value) : (#[a, b] : Array Value).extract (Int.toNat 1 * (Tryz.prog.types[27]'(by decide +kernel)).size) (Int.toNat 1 * (Tryz.prog.types[27]'(by decide +kernel)).size + (Tryz.prog.types[27]'(by decide +kernel)).size) = #[b] := by rw [size27]; rfl
theorem box_ne {w : World} {g g' : Nat} {t t' : TypeId} {cs cs' : Array Value} (h : Box w g t cs) (h' : Box w g' t' cs') (hne : t ≠ t') : g ≠ g' := by
  intro e
  subst e
  unfold Box at h h'
  rw [h] at h'
  cases h'
  exact hne rfl
end Go.Proofs.YtlfehjjnepiljaaGreatDoor

namespace Go.Proofs.YtlfehjjnepiljaaGreatDoor
open Go.RowKit Go.Shelf
theorem index54_0 (a b : Value) (w : World) : (Instr.index 54 (.agg #[a, b]) (.int .i64 0)).run Tryz.prog w = .ok (.agg #[a]) w := by kernel_rfl
theorem index54_1 (a b : Value) (w : World) : (Instr.index 54 (.agg #[a, b]) (.int .i64 1)).run Tryz.prog w = .ok (.agg #[b]) w := by kernel_rfl
theorem wpList_index54 {ops : Array Oper} {rest : List Oper} {o : Oper} {ac : Act} {w : World} {Q : Exit → Act → World → Prop} (hg : o.guard = none) (x y : Operand) (ho : o.op = .index 54 x y) (v i c : Value) (hx : ac.eval x = v) (hy : ac.eval y = i) (hr : (Instr.index 54 v i).run Tryz.prog w = .ok c w)
    (h : wpList Tryz.prog ops Q rest (ac.put o.dst c) w) : wpList Tryz.prog ops Q (o :: rest) ac w := by
  refine wpList_plain hg fun K hK => ?_
  unfold Oper.wp execOp
  simp only [ho, hx, hy, Sem.run_bind, Sem.run_pure, hr, Result.andThen_ok]
  exact hK _ _ h
end Go.Proofs.YtlfehjjnepiljaaGreatDoor
