/- Proved here: meets and Has of puncheonref05, at bounds of the seven kinds. -/
import Derived.Test.YtlfehjjnepiljaaGreatDoorSPick2
namespace Go.Proofs.YtlfehjjnepiljaaGreatDoor
open Go.RowKit Go.Shelf

set_option maxRecDepth 100000 in
set_option maxHeartbeats 4000000 in
theorem rmeets_any (b : Bd) (v : Ver) (hb : 1 ≤ b.kind ∧ b.kind ≤ 7) (w : World) : Calls Tryz.prog 47 #[.agg b.arr, .agg v.arr] w fun e w' => e = .returned (.bool (meetsB b v)) ∧ Below w.heap.size w w' := by
  obtain ⟨kd, u⟩ := b
  simp only at hb
  obtain ⟨w1, hw1⟩ : ∃ q, q = (w.alloc (.cells (Bd.arr ⟨kd, u⟩) 57)).alloc (.cells v.arr 45) := ⟨_, rfl⟩
  have X1 : Hid (Box w1 w.heap.size 57 (Bd.arr ⟨kd, u⟩)) := Lib.hid (by rw [hw1]; exact box_new.alloc _)
  have X2 : Hid (Box w1 (w.heap.size + 1) 45 v.arr) := Lib.hid (by rw [hw1]; exact heap_alloc2_new w _ _)
  have B1 : Hid (Below w.heap.size w w1) := Lib.hid (by rw [hw1]; exact ((Below.refl w.heap.size w).alloc (Nat.le_refl _) _).alloc (by simp) _)
  obtain ⟨c0, c1, c2, c3, c4, c5, c6, c7⟩ := X1.out.bd
  obtain ⟨p0, p1, p2, p3, p4, p5, p6⟩ := X2.out.ver
  obtain ⟨c, hc⟩ : ∃ c, c = cmpW v u := ⟨_, rfl⟩
  have HC : Hid (Calls Tryz.prog 53 #[.agg v.arr, .agg u.arr] w1 fun e w' => e = .returned (.int .i64 c) ∧ Below w1.heap.size w1 w') := Lib.hid (by rw [hc]; exact rcompare_any v u w1)
  have HCC := Lib.hid hc
  clear hc
  go_enter Tryz.func47, Tryz.ntmps47
  go_upto_region 1 with fail
  rw [← hw1]
  clear hw1
  go_wp2_with fail
  refine HC.out.mono ?_
  rintro e w2 ⟨rfl, hb2⟩
  have B2 := Lib.hid (bch B1.out hb2)
  replace X1 := Lib.hid (X1.out.on hb2)
  replace X2 := Lib.hid (X2.out.on hb2)
  clear c0 c1 c2 c3 c4 c5 c6 c7 p0 p1 p2 p3 p4 p5 p6 HC hb2 B1
  obtain ⟨c0, c1, c2, c3, c4, c5, c6, c7⟩ := X1.out.bd
  obtain ⟨p0, p1, p2, p3, p4, p5, p6⟩ := X2.out.ver
  clear X1 X2
  obtain rfl | rfl | rfl | rfl | rfl | rfl | rfl : kd = 1 ∨ kd = 2 ∨ kd = 3 ∨ kd = 4 ∨ kd = 5 ∨ kd = 6 ∨ kd = 7 := by omega
  · have heq := fun W => eq_spelt v u W
    have hgd := guard26
    have HR : Hid (decide (v = u) = meetsB ⟨1, u⟩ v) := Lib.hid rfl
    go_wp2_with fail
    go_ret
    exact ⟨ret_bool HR.out, B2.out⟩
  · have heq := fun W => ne_spelt v u W
    have HR : Hid ((!decide (v = u)) = meetsB ⟨2, u⟩ v) := Lib.hid rfl
    go_wp2_with fail
    go_ret
    exact ⟨ret_bool HR.out, B2.out⟩
  · have HR : Hid (decide (0 ≤ c) = meetsB ⟨3, u⟩ v) := Lib.hid (by rw [HCC.out]; rfl)
    go_wp2_with fail
    go_ret
    exact ⟨ret_bool HR.out, B2.out⟩
  · have HR : Hid (decide (0 < c) = meetsB ⟨4, u⟩ v) := Lib.hid (by rw [HCC.out]; rfl)
    go_wp2_with fail
    go_ret
    exact ⟨ret_bool HR.out, B2.out⟩
  · have HR : Hid (decide (c ≤ 0) = meetsB ⟨5, u⟩ v) := Lib.hid (by rw [HCC.out]; rfl)
    go_wp2_with fail
    go_ret
    exact ⟨ret_bool HR.out, B2.out⟩
  · have HR : Hid (decide (c < 0) = meetsB ⟨6, u⟩ v) := Lib.hid (by rw [HCC.out]; rfl)
    go_wp2_with fail
    go_ret
    exact ⟨ret_bool HR.out, B2.out⟩
  · have HBG := Lib.hid (rbegins_any v u w2)
    go_wp2_with fail
    refine HBG.out.mono ?_
    rintro e w3 ⟨rfl, hb3⟩
    have HR : Hid (v.begins u = meetsB ⟨7, u⟩ v) := Lib.hid rfl
    go_wp2_with fail
    go_ret
    exact ⟨ret_bool HR.out, bch B2.out hb3⟩
def RMeets (b : Bd) (v : Ver) (o : Bool) : Prop := ∀ W, Calls Tryz.prog 47 #[.agg b.arr, .agg v.arr] W fun e w' => e = .returned (.bool o) ∧ Below W.heap.size W w'
theorem rmeets_of {b : Bd} {v : Ver} {o : Bool} (h : o = meetsB b v) (hb : 1 ≤ b.kind ∧ b.kind ≤ 7) : RMeets b v o := fun W => by
  rw [h]; exact rmeets_any b v hb W
theorem meetsL_snoc {l : List Bd} {k : Nat} {b : Bd} {v : Ver} (h : l[k]? = some b) : meetsL (l.take (k + 1)) v = (meetsL (l.take k) v && meetsB b v) := by
  unfold meetsL
  rw [List.take_add_one, h, List.all_append]
  simp

set_option maxRecDepth 100000 in
set_option maxHeartbeats 4000000 in
theorem rhas_any (ls : List (List Bd)) (v : Ver) (x : Value) (w : World) (hx : RdR w x ls) (hk : ∀ l ∈ ls, Kinds l) : Calls Tryz.prog 22 #[.agg #[x], .agg v.arr] w fun e w' => e = .returned (.bool (hasL ls v)) ∧ Below w.heap.size w w' := by
  obtain ⟨a, c, rfl, hlc, hcm, hcell⟩ := hx.open
  have HC := Lib.hid hcell
  have HKD := Lib.hid hk
  obtain ⟨n, hn⟩ : ∃ n, n = ls.length := ⟨_, rfl⟩
  rw [← hn] at hlc HC ⊢
  have HN := Lib.hid hn
  unfold maxLen at hcm
  clear hn hcell hx hk
  obtain ⟨w1, hw1⟩ : ∃ q, q = (w.alloc (.cells #[.slice a n c] 27)).alloc (.cells v.arr 45) := ⟨_, rfl⟩
  have X1 : Hid (Box w1 w.heap.size 27 #[.slice a n c]) := Lib.hid (by rw [hw1]; exact box_new.alloc _)
  have X2 : Hid (Box w1 (w.heap.size + 1) 45 v.arr) := Lib.hid (by rw [hw1]; exact heap_alloc2_new w _ _)
  have B1 : Hid (Below w.heap.size w w1) := Lib.hid (by rw [hw1]; exact ((Below.refl w.heap.size w).alloc (Nat.le_refl _) _).alloc (by simp) _)
  go_enter Tryz.func22, Tryz.ntmps22
  go_upto_region 1 with fail
  rw [← hw1]
  clear hw1
  have p0 := X1.out.cell (k := 0) rfl
  go_wp2_with fail
  clear p0 X1
  go_loopw [13] (fun i W => ∃ k : Nat, k ≤ n ∧ i = .int .i64 k ∧ Hid (∀ (j : Nat) (l : List Bd), j < k → ls[j]? = some l → meetsL l v = false) ∧ Hid (Box W (w.heap.size + 1) 45 v.arr) ∧ Hid (Below w.heap.size w W)) (fun i _ => n - (Lib.intOf i).toNat)
  case atStart => exact ⟨0, Nat.zero_le _, rfl, Lib.hid (fun j l h => absurd h (Nat.not_lt_zero _)), X2, B1⟩
  case round =>
    clear X2 B1
    obtain ⟨k, hk, rfl, HK, X2, HB⟩ := hrel
    obtain ⟨wo, hwo⟩ : ∃ q, q = wr := ⟨_, rfl⟩
    rw [← hwo] at HB X2 ⊢
    clear hwo
    by_cases hlt : k < n
    · obtain ⟨l, hl⟩ : ∃ v, ls[k]? = some v := ⟨_, List.getElem?_eq_getElem (by have := HN.out; omega)⟩
      obtain ⟨g, o, rfl, hg, hc⟩ := HC.out (by omega)
      obtain ⟨y, hy, hr⟩ := hc k l hl
      have r0 := (HB.out.cell (p := ⟨g, _, none⟩) hg).trans hy
      have HKL := Lib.hid (HKD.out l (List.mem_of_getElem? hl))
      obtain ⟨a2, c2, rfl, hl2, hm2, hcell2⟩ := (hr.on HB.out).open
      obtain ⟨n2, hn2⟩ : ∃ q, q = l.length := ⟨_, rfl⟩
      rw [← hn2] at r0 hl2 hcell2
      have HN2 := Lib.hid hn2
      have HC2 := Lib.hid hcell2
      unfold maxLen at hm2
      have k1 : (k : Int) < (n : Int) := by omega
      have k2 : (0 : Int) ≤ (k : Int) := by omega
      have k4 : IntKind.i64.wrap ((k : Int) + 1) = (k : Int) + 1 := IntWalk.i64_in _ (by omega)
      have HL := Lib.hid hl
      clear hl hc hy hr hn2 hcell2
      go_wp2_with fail
      go_loopw [7, 19] (fun al i W => ∃ j : Nat, j ≤ n2 ∧ al = .bool (meetsL (l.take j) v) ∧ i = .int .i64 j ∧ Hid (Box W (w.heap.size + 1) 45 v.arr) ∧ Hid (Below wo.heap.size wo W)) (fun _ i _ => n2 - (Lib.intOf i).toNat)
      case atStart => exact ⟨0, Nat.zero_le _, rfl, rfl, X2, Lib.hid (Below.refl _ _)⟩
      case round =>
        clear X2 r0
        obtain ⟨j, hj, rfl, rfl, X2, HB2⟩ := hrel
        obtain ⟨wi, hwi⟩ : ∃ q, q = wr := ⟨_, rfl⟩
        rw [← hwi] at HB2 X2 ⊢
        clear hwi
        obtain ⟨al, hal⟩ : ∃ q, q = meetsL (l.take j) v := ⟨_, rfl⟩
        rw [← hal]
        have HAL := Lib.hid hal
        clear hal
        by_cases jlt : j < n2
        · obtain ⟨b, hb⟩ : ∃ v, l[j]? = some v := ⟨_, List.getElem?_eq_getElem (by have := HN2.out; omega)⟩
          obtain ⟨g2, o2, rfl, hg2, hc2⟩ := HC2.out (by omega)
          obtain ⟨q0, q1, q2, q3, q4, q5, q6, q7⟩ := (hc2 j b hb).on hg2 HB2.out
          have j1 : (j : Int) < (n2 : Int) := by omega
          have j2 : (0 : Int) ≤ (j : Int) := by omega
          have j4 : IntKind.i64.wrap ((j : Int) + 1) = (j : Int) + 1 := IntWalk.i64_in _ (by omega)
          obtain ⟨ok, hok⟩ : ∃ ok, ok = meetsB b v := ⟨_, rfl⟩
          have HT := Lib.hid (rmeets_of hok (HKL.out b (List.mem_of_getElem? hb)))
          have HS := Lib.hid (meetsL_snoc (v := v) hb)
          have HOK := Lib.hid hok
          have Y0 : Hid (Box (wi.alloc (.cells Bd.zero.arr 57)) wi.heap.size 57 Bd.zero.arr) := Lib.hid box_new
          obtain ⟨w2, hw2⟩ : ∃ q, q = (wi.alloc (.cells Bd.zero.arr 57)).setRow wi.heap.size b.arr := ⟨_, rfl⟩
          have Y2 : Hid (Box w2 wi.heap.size 57 b.arr) := Lib.hid (by rw [hw2]; exact Y0.out.row _)
          have b2 : Below wi.heap.size wi w2 := by rw [hw2]; exact below_row ((Below.refl _ _).alloc (Nat.le_refl _) _) (Nat.le_refl _) _
          replace X2 := Lib.hid (X2.out.on b2)
          have B2 : Hid (Below wo.heap.size wo w2) := Lib.hid (bch HB2.out b2)
          clear hb hok hc2 b2
          go_upto_region 8 with (first
            | (with_reducible refine wpList_zero rfl 57 rfl Bd.zero.arr zero57 ?_)
            | (refine wpList_store_row rfl 57 (.tmp 9) (.tmp 22) rfl wi.heap.size b.arr rfl rfl 57 _ Y0.out (info57 _) rfl (barr_one _) ?_))
          rw [← hw2]
          (try go_frame)
          clear hw2 Y0 q0 q1 q2 q3 q4 q5 q6 q7 HB2
          cases al with
          | false =>
            have HS2 : Hid (meetsL (l.take (j + 1)) v = false) := Lib.hid (by rw [HS.out, ← HAL.out]; rfl)
            clear HT HOK
            go_wp2_with fail
            go_roundw
            case rel => exact ⟨j + 1, jlt, by rw [HS2.out], by go_num, X2, B2⟩
            case measure => simp [Lib.intOf]; omega
          | true =>
            have HS2 : Hid (meetsL (l.take (j + 1)) v = ok) := Lib.hid (by rw [HS.out, ← HAL.out, HOK.out]; rfl)
            obtain ⟨c0, c1, c2, c3, c4, c5, c6, c7⟩ := Y2.out.bd
            obtain ⟨p0, p1, p2, p3, p4, p5, p6⟩ := X2.out.ver
            go_wp2_with fail
            refine (HT.out _).mono ?_
            rintro e w3 ⟨rfl, hb⟩
            have B3 := Lib.hid (bch B2.out hb)
            replace X2 := Lib.hid (X2.out.on hb)
            clear Y2 B2 HT hb HOK c0 c1 c2 c3 c4 c5 c6 c7 p0 p1 p2 p3 p4 p5 p6
            go_wp2_with fail
            go_roundw
            case rel => exact ⟨j + 1, jlt, by rw [HS2.out], by go_num, X2, B3⟩
            case measure => simp [Lib.intOf]; omega
        · have j1 : ¬ ((j : Int) < (n2 : Int)) := by omega
          have HM : Hid (al = meetsL l v) := Lib.hid (by
            have e : l.take j = l := List.take_of_length_le (by have := HN2.out; omega)
            have h := HAL.out
            rw [e] at h
            exact h)
          have HB3 := Lib.hid (bch HB.out HB2.out)
          clear HAL HB2
          cases al with
          | false =>
            go_wp2_with fail
            go_roundw
            case rel =>
              refine ⟨k + 1, hlt, by go_num, Lib.hid (fun t y ht hy => ?_), X2, HB3⟩
              by_cases htj : t < k
              · exact HK.out t y htj hy
              · obtain rfl : t = k := by omega
                obtain rfl := Option.some.inj (HL.out.symm.trans hy)
                exact HM.out.symm
            case measure => simp [Lib.intOf]; omega
          | true =>
            have HE : Hid (hasL ls v = true) := Lib.hid (hasL_yes (List.mem_of_getElem? HL.out) HM.out.symm)
            go_wp2_with fail
            go_ret
            exact ⟨ret_bool HE.out.symm, HB3.out⟩
    · have k1 : ¬ ((k : Int) < (n : Int)) := by omega
      have HE : Hid (hasL ls v = false) := Lib.hid (hasL_no (fun j b hj => HK.out j b (by have := (List.getElem?_eq_some_iff.1 hj).1; have := HN.out; omega) hj))
      go_wp2_with fail
      go_ret
      exact ⟨ret_bool HE.out.symm, HB.out⟩
end Go.Proofs.YtlfehjjnepiljaaGreatDoor
