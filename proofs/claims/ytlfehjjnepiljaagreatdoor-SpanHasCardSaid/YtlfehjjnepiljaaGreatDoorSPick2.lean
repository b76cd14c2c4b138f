/- Proved here: slices.Compact and slices.Reverse of a row of versions of the call's own, and Pick of package span. -/
import Derived.Test.YtlfehjjnepiljaaGreatDoorSPick
namespace Go.Proofs.YtlfehjjnepiljaaGreatDoor
open Go.RowKit Go.Shelf

abbrev Ver.spelt (v : Ver) : Value := .agg #[.int .i64 v.n0, .int .i64 v.n1, .int .i64 v.n2, .int .i64 v.n3, .int .i64 v.many, .string v.tag, .int .i64 v.step]
theorem eq_spelt (v u : Ver) (W : World) : (Op.equalIn 10000 45 (.agg #[.int .i64 v.n0, .int .i64 v.n1, .int .i64 v.n2, .int .i64 v.n3, .int .i64 v.many, .string v.tag, .int .i64 v.step]) (.agg #[.int .i64 u.n0, .int .i64 u.n1, .int .i64 u.n2, .int .i64 u.n3, .int .i64 u.many, .string u.tag, .int .i64 u.step])).run Tryz.prog W = .ok (decide (v = u)) W := eq26 v u W
theorem ne_spelt (v u : Ver) (W : World) : (binOp .neq 45 (.agg #[.int .i64 v.n0, .int .i64 v.n1, .int .i64 v.n2, .int .i64 v.n3, .int .i64 v.many, .string v.tag, .int .i64 v.step]) (.agg #[.int .i64 u.n0, .int .i64 u.n1, .int .i64 u.n2, .int .i64 u.n3, .int .i64 u.many, .string u.tag, .int .i64 u.step])).run Tryz.prog W = .ok (.bool (!decide (v = u))) W := by
  rw [run_neq_struct, eq_spelt]
  rfl

theorem rown_cell2 {B g n cap : Nat} {l : List Ver} {w : World} (h : RowN B g n cap l w) (hn : l.length = n) (k j : Nat) (v : Ver) (hj : l[k + j]? = some v) :
    w.cell? ⟨g, k * 7 + j * 7, none⟩ = some (.int .i64 v.n0) ∧ w.cell? ⟨g, k * 7 + j * 7 + 1, none⟩ = some (.int .i64 v.n1) ∧ w.cell? ⟨g, k * 7 + j * 7 + 2, none⟩ = some (.int .i64 v.n2) ∧ w.cell? ⟨g, k * 7 + j * 7 + 3, none⟩ = some (.int .i64 v.n3) ∧ w.cell? ⟨g, k * 7 + j * 7 + 4, none⟩ = some (.int .i64 v.many) ∧ w.cell? ⟨g, k * 7 + j * 7 + 5, none⟩ = some (.string v.tag) ∧ w.cell? ⟨g, k * 7 + j * 7 + 6, none⟩ = some (.int .i64 v.step) := by
  have := rown_cell h hn (k + j) v hj
  rw [Nat.add_mul] at this
  exact this

set_option maxRecDepth 100000 in
set_option maxHeartbeats 8000000 in
theorem vcompact_any (l : List Ver) (a : Option Addr) (n c : Nat) (w0 w : World) (hn : n = l.length) (ho : w.ownsRow w0.heap.size 45 7 (.slice a n c) n (flatV l)) (hb0 : Below w0.heap.size w0 w) :
    Calls Tryz.prog 51 #[.slice a n c] w (DelR w0.heap.size a c (dd l) w0) := by
  have HO := Lib.hid ho
  have HB := Lib.hid hb0
  have HN := Lib.hid hn
  have hgd := guard26
  have hnm : (n : Int) ≤ 9223372036854775807 := by
    rcases ho.2 with ⟨_, h0⟩ | ⟨g', c', cur, hv, _, _, hnc, hcm, _⟩
    · omega
    · unfold maxLen at hcm
      omega
  clear ho hb0 hn
  by_cases h2 : n < 2
  · have n1 : (n : Int) < 2 := by omega
    have HD : Hid (dd l = l) := Lib.hid (by
      have := HN.out
      match l, this with
      | [], _ => rfl
      | [v], _ => simp [dd, ddF]
      | _ :: _ :: _, h => simp at h; omega)
    go_enter Tryz.func51, Tryz.ntmps51
    go_wp2_with fail
    go_ret
    unfold DelR
    rw [HD.out, ← HN.out]
    exact ⟨rfl, HO.out, HB.out⟩
  have n1 : ¬ ((n : Int) < 2) := by omega
  obtain ⟨g, rfl⟩ : ∃ g, a = some ⟨g, 0, none⟩ := by
    rcases HO.out.2 with ⟨h0, hz⟩ | ⟨g', c', cur, hv, _⟩
    · omega
    · injection hv with e1
      exact ⟨g', e1⟩
  obtain ⟨hnc, hcm⟩ := own_room HO.out
  have HGB : Hid (w0.heap.size ≤ g) := Lib.hid (HO.out.lt g rfl).1
  unfold maxLen at hcm
  go_enter Tryz.func51, Tryz.ntmps51
  go_wp2_with fail
  go_loopw [3] (fun vk W => ∃ k : Nat, vk = .int .i64 k ∧ 1 ≤ k ∧ k ≤ n ∧ Hid (dd (l.take k) = l.take k) ∧ Hid (RowN w0.heap.size g n c l W) ∧ Hid (Below w0.heap.size w0 W)) (fun vk _ => n - (Lib.intOf vk).toNat)
  case atStart =>
    refine ⟨1, rfl, Nat.le_refl _, by omega, Lib.hid ?_, HO, HB⟩
    have := HN.out
    match l, this with
    | [], h => simp at h; omega
    | v :: _, _ => simp [dd, ddF]
  case round =>
    clear HO HB
    obtain ⟨k, rfl, hk1, hkn, HD, HR, HB⟩ := hrel
    obtain ⟨wq, hwq⟩ : ∃ q, q = wr := ⟨_, rfl⟩
    rw [← hwq] at HR HB ⊢
    clear hwq
    by_cases hlt : k < n
    · obtain ⟨m, rfl⟩ : ∃ m, k = m + 1 := ⟨k - 1, by omega⟩
      obtain ⟨v, hv⟩ : ∃ v, l[m + 1]? = some v := ⟨_, List.getElem?_eq_getElem (by have := HN.out; omega)⟩
      obtain ⟨u, hu⟩ : ∃ v, l[m]? = some v := ⟨_, List.getElem?_eq_getElem (by have := HN.out; omega)⟩
      obtain ⟨r0, r1, r2, r3, r4, r5, r6⟩ := rown_cell HR.out HN.out.symm (m + 1) v hv
      obtain ⟨q0, q1, q2, q3, q4, q5, q6⟩ := rown_cell HR.out HN.out.symm m u hu
      have HDD := Lib.hid (dd_take hu hv)
      obtain ⟨y, hy⟩ : ∃ y, y = decide (v = u) := ⟨_, rfl⟩
      have heq := fun W => eq_spelt v u W
      rw [← hy] at heq
      have HY := Lib.hid hy
      obtain ⟨k, hkm⟩ : ∃ k, k = m + 1 := ⟨_, rfl⟩
      rw [← hkm] at hk1 hkn hlt HD r0 r1 r2 r3 r4 r5 r6 ⊢
      have k1 : (k : Int) < (n : Int) := by omega
      have k2 : (0 : Int) ≤ (k : Int) := by omega
      have k4 : IntKind.i64.wrap ((k : Int) + 1) = (k : Int) + 1 := IntWalk.i64_in _ (by omega)
      have k5 : IntKind.i64.wrap ((k : Int) - 1) = (m : Int) := by rw [IntWalk.i64_in _ (by omega)]; omega
      have m1 : (m : Int) < (n : Int) := by omega
      have m2 : (0 : Int) ≤ (m : Int) := by omega
      have HKM := Lib.hid hkm
      have HLV := Lib.hid hv
      have HLU := Lib.hid hu
      clear hy hv hu hkm
      cases y with
      | false =>
        have HD2 : Hid (dd (l.take (k + 1)) = l.take (k + 1)) := Lib.hid (by
          have e := HKM.out
          subst e
          rw [HDD.out, if_neg (fun h => by have := HY.out; rw [h] at this; simp at this), HD.out, take_last HLV.out])
        go_wp2_with fail
        go_region
        go_wp2_with fail
        go_roundw
        case rel => exact ⟨k + 1, by go_num, by omega, hlt, HD2, HR, Lib.hid HB.out.drew⟩
        case measure => simp [Lib.intOf]; omega
      | true =>
        have HD2 : Hid (l.take k = dd (l.take (k + 1))) := Lib.hid (by
          have e := HKM.out
          subst e
          rw [HDD.out, if_pos (by have := HY.out; simp at this; exact this.symm), HD.out])
        have kc : ¬ (c = k) := by omega
        have n4 : (n : Int) - (k : Int) = ((n - k : Nat) : Int) := by omega
        have k6 : (k : Int) ≤ (n : Int) := by omega
        have k7 : (k : Int) ≤ (c : Int) := by omega
        go_wp2_with fail
        go_region
        go_wp2_with fail
        clear r0 r1 r2 r3 r4 r5 r6 q0 q1 q2 q3 q4 q5 q6 heq HD HDD HY HLV HLU
        obtain ⟨wd, hwd⟩ : ∃ q, q = wq.drew := ⟨_, rfl⟩
        have HR2 : Hid (RowN w0.heap.size g n c l wd) := Lib.hid (by rw [hwd]; exact HR.out)
        have HB2 : Hid (Below w0.heap.size w0 wd) := Lib.hid (by rw [hwd]; exact HB.out.drew)
        rw [← hwd]
        clear HR HB hwd
        obtain ⟨N, hN⟩ : ∃ q, q = n - k := ⟨_, rfl⟩
        obtain ⟨C2, hC2⟩ : ∃ q, q = c - k := ⟨_, rfl⟩
        rw [← hN, ← hC2]
        have hNC : N ≤ C2 := by omega
        have hNn : k + N = n := by omega
        have hCm : C2 ≤ 2 ^ 63 - 1 := by omega
        clear hC2 hN n4
        go_loopw [3, 5] (fun vk vj W => ∃ (q j : Nat) (l' : List Ver), vk = .int .i64 q ∧ vj = .int .i64 j ∧ 1 ≤ j ∧ j ≤ N ∧ q < k + j ∧ Hid (l'.length = n) ∧ Hid (l'.take q = dd (l.take (k + j))) ∧ Hid (∀ t, k + j ≤ t + 1 → l'[t]? = l[t]?) ∧ Hid (RowN w0.heap.size g n c l' W) ∧ Hid (Below w0.heap.size w0 W)) (fun _ vj _ => N - (Lib.intOf vj).toNat)
        case atStart => exact ⟨k, 1, l, rfl, rfl, Nat.le_refl _, by omega, by omega, Lib.hid HN.out.symm, HD2, Lib.hid (fun _ _ => rfl), HR2, HB2⟩
        case round =>
          clear HR2 HB2 HD2
          obtain ⟨q, j, l', rfl, rfl, hj1, hjN, hqj, HL, HT, HE, HR, HB⟩ := hrel
          obtain ⟨wq, hwq⟩ : ∃ q, q = wr := ⟨_, rfl⟩
          rw [← hwq] at HR HB ⊢
          clear hwq
          by_cases jlt : j < N
          · obtain ⟨p, hp⟩ : ∃ p, j = p + 1 := ⟨j - 1, by omega⟩
            obtain ⟨v, hv⟩ : ∃ v, l[k + p + 1]? = some v := ⟨_, List.getElem?_eq_getElem (by have := HN.out; omega)⟩
            obtain ⟨u, hu⟩ : ∃ v, l[k + p]? = some v := ⟨_, List.getElem?_eq_getElem (by have := HN.out; omega)⟩
            have hv' : l'[k + j]? = some v := by rw [HE.out (k + j) (by omega), ← hv, hp]; rfl
            have hu' : l'[k + p]? = some u := by rw [HE.out (k + p) (by omega), hu]
            obtain ⟨r0, r1, r2, r3, r4, r5, r6⟩ := rown_cell2 HR.out HL.out k j v hv'
            obtain ⟨q0, q1, q2, q3, q4, q5, q6⟩ := rown_cell2 HR.out HL.out k p u hu'
            have HDD := Lib.hid (dd_take hu hv)
            obtain ⟨y, hy⟩ : ∃ y, y = decide (v = u) := ⟨_, rfl⟩
            have heq := fun W => ne_spelt v u W
            rw [← hy] at heq
            have HY := Lib.hid hy
            have HP := Lib.hid hp
            have HV := Lib.hid hv'
            have j1 : (j : Int) < (N : Int) := by omega
            have j2 : (0 : Int) ≤ (j : Int) := by omega
            have j4 : IntKind.i64.wrap ((j : Int) + 1) = (j : Int) + 1 := IntWalk.i64_in _ (by omega)
            have j5 : IntKind.i64.wrap ((j : Int) - 1) = (p : Int) := by rw [IntWalk.i64_in _ (by omega)]; omega
            have p1 : (p : Int) < (N : Int) := by omega
            have p2 : (0 : Int) ≤ (p : Int) := by omega
            have q1' : (q : Int) < (n : Int) := by omega
            have q2' : (0 : Int) ≤ (q : Int) := by omega
            have q4' : IntKind.i64.wrap ((q : Int) + 1) = (q : Int) + 1 := IntWalk.i64_in _ (by omega)
            clear hy hv hu hv' hu' hp
            cases y with
            | true =>
              have HD3 : Hid (dd (l.take (k + (j + 1))) = dd (l.take (k + j))) := Lib.hid (by
                have e := HP.out
                subst e
                have h := HDD.out
                rw [if_pos (by have := HY.out; simp at this; exact this.symm)] at h
                exact h)
              go_wp2_with fail
              go_region
              go_wp2_with fail
              go_roundw
              case rel => exact ⟨q, j + 1, l', rfl, by go_num, by omega, jlt, by omega, HL, Lib.hid (by rw [HD3.out]; exact HT.out), Lib.hid (fun t ht => HE.out t (by omega)), HR, Lib.hid HB.out.drew⟩
              case measure => simp [Lib.intOf]; omega
            | false =>
              have HD3 : Hid (dd (l.take (k + (j + 1))) = dd (l.take (k + j)) ++ [v]) := Lib.hid (by
                have e := HP.out
                subst e
                have h := HDD.out
                rw [if_neg (fun h => by have := HY.out; rw [h] at this; simp at this)] at h
                exact h)
              go_wp2_with fail
              go_region
              go_upto_region 12 with fail
              obtain ⟨wd, hwd⟩ : ∃ q, q = wq.drew := ⟨_, rfl⟩
              have HR2 : Hid (RowN w0.heap.size g n c l' wd) := Lib.hid (by rw [hwd]; exact HR.out)
              have HB2 : Hid (Below w0.heap.size w0 wd) := Lib.hid (by rw [hwd]; exact HB.out.drew)
              rw [← hwd]
              clear HR HB hwd r0 r1 r2 r3 r4 r5 r6 q0 q1 q2 q3 q4 q5 q6
              obtain ⟨c0, c1, c2, c3, c4, c5, c6⟩ := rown_cell2 HR2.out HL.out k j v HV.out
              obtain ⟨z, hz⟩ : ∃ v, l'[q]? = some v := ⟨_, List.getElem?_eq_getElem (by have := HL.out; omega)⟩
              obtain ⟨d0, d1, d2, d3, d4, d5, d6⟩ := rown_cell HR2.out HL.out q z hz
              have f1 : ∀ r, wd.frozen? ⟨g, r, none⟩ = false := fun r => HR2.out.frozenAt r
              obtain ⟨w4, hw4⟩ : ∃ z, z = set7 wd g q v := ⟨_, rfl⟩
              have R4 : Hid (RowN w0.heap.size g n c (l'.set q v) w4) := Lib.hid (by rw [hw4]; exact rown_set HR2.out HL.out q v (by omega))
              have B4 : Hid (Below w0.heap.size w0 w4) := Lib.hid (by rw [hw4]; exact set7_below HB2.out HGB.out q v)
              unfold set7 at hw4
              clear hz HR2 HB2
              go_upto_region 13 with fail
              rw [← hw4]
              clear hw4 c0 c1 c2 c3 c4 c5 c6 d0 d1 d2 d3 d4 d5 d6 f1
              go_wp2_with fail
              go_roundw
              case rel => exact ⟨q + 1, j + 1, l'.set q v, by go_num, by go_num, by omega, jlt, by omega, Lib.hid (by rw [List.length_set]; exact HL.out), Lib.hid (by rw [HD3.out, take_set_one (by have := HL.out; omega), HT.out]), Lib.hid (fun t ht => by rw [List.getElem?_set_ne (by omega)]; exact HE.out t (by omega)), R4, B4⟩
              case measure => simp [Lib.intOf]; omega
          · have j1 : ¬ ((j : Int) < (N : Int)) := by omega
            have i1 : (q : Int) ≤ (n : Int) := by omega
            have i2 : (0 : Int) ≤ (q : Int) := by omega
            have i3 : (q : Int) ≤ (c : Int) := by omega
            have i5 : ¬ (c = q) := by omega
            obtain ⟨w2, hcl, hown, hbl⟩ := clear_own (k := q) HR.out HL.out.symm (by omega)
            have HCL := Lib.hid hcl
            have HFIN : Hid (dd l = l'.take q ∧ (dd l).length = q) := Lib.hid (by
              have e : l.take (k + j) = l := List.take_of_length_le (by have := HN.out; omega)
              have h := HT.out
              rw [e] at h
              exact ⟨h.symm, by rw [← h, List.length_take]; have := HL.out; omega⟩)
            have HOW := Lib.hid hown
            have HBL := Lib.hid (hbl _ _ (Nat.le_refl _) HGB.out HB.out)
            clear hcl hown hbl HR HB HT HE
            go_wp2_with (rw [HCL.out])
            go_ret
            unfold DelR
            rw [HFIN.out.2, HFIN.out.1]
            exact ⟨rfl, HOW.out, HBL.out⟩
    · have k1 : ¬ ((k : Int) < (n : Int)) := by omega
      have HDE : Hid (dd l = l) := Lib.hid (by
        have e : l.take k = l := List.take_of_length_le (by have := HN.out; omega)
        have h := HD.out
        rw [e] at h
        exact h)
      go_wp2_with fail
      go_ret
      unfold DelR
      rw [HDE.out, ← HN.out]
      exact ⟨rfl, HR.out, HB.out⟩

/-- So far turned: the first and last i of a row have changed places. -/
def Turned (l l' : List Ver) (i : Nat) : Prop := l'.length = l.length ∧ ∀ t, t < l.length → l'[t]? = if t < i ∨ l.length ≤ t + i then l[l.length - 1 - t]? else l[t]?
theorem turned_none (l : List Ver) : Turned l l 0 := ⟨rfl, fun t ht => by rw [if_neg (by omega)]⟩
theorem turned_step {l l' : List Ver} {i : Nat} {x y : Ver} (h : Turned l l' i) (hi : 2 * i + 1 < l.length) (hx : l[i]? = some x) (hy : l[l.length - 1 - i]? = some y) : Turned l ((l'.set i y).set (l.length - 1 - i) x) (i + 1) := by
  refine ⟨by rw [List.length_set, List.length_set, h.1], fun t ht => ?_⟩
  by_cases e1 : t = l.length - 1 - i
  · rw [e1, List.getElem?_set_self (by rw [List.length_set, h.1]; omega), if_pos (by omega), show l.length - 1 - (l.length - 1 - i) = i by omega, hx]
  · rw [List.getElem?_set_ne (by omega)]
    by_cases e2 : t = i
    · subst e2
      rw [List.getElem?_set_self (by rw [h.1]; omega), if_pos (by omega), hy]
    · rw [List.getElem?_set_ne (by omega), h.2 t ht]
      by_cases e3 : t < i ∨ l.length ≤ t + i
      · rw [if_pos e3, if_pos (by omega)]
      · rw [if_neg e3, if_neg (by omega)]
theorem turned_all {l l' : List Ver} {i : Nat} (h : Turned l l' i) (hi : l.length ≤ 2 * i + 1) : l' = l.reverse := by
  apply List.ext_getElem?
  intro t
  by_cases ht : t < l.length
  · rw [h.2 t ht, List.getElem?_reverse ht]
    split
    · rfl
    · rw [show l.length - 1 - t = t by omega]
  · rw [List.getElem?_eq_none (by rw [h.1]; omega), List.getElem?_eq_none (by rw [List.length_reverse]; omega)]
theorem turned_at {l l' : List Ver} {i t : Nat} (h : Turned l l' i) (h1 : i ≤ t) (h2 : t + i < l.length) : l'[t]? = l[t]? := by
  rw [h.2 t (by omega), if_neg (by omega)]

def RevR (B : Nat) (a : Option Addr) (c n : Nat) (l : List Ver) (w0 : World) (e : Ending) (w' : World) : Prop :=
  e = .returned (.tuple #[]) ∧ w'.ownsRow B 45 7 (.slice a n c) n (flatV l) ∧ Below B w0 w'

set_option maxRecDepth 100000 in
set_option maxHeartbeats 8000000 in
theorem vreverse_any (l : List Ver) (a : Option Addr) (n c : Nat) (w0 w : World) (hn : n = l.length) (ho : w.ownsRow w0.heap.size 45 7 (.slice a n c) n (flatV l)) (hb0 : Below w0.heap.size w0 w) :
    Calls Tryz.prog 52 #[.slice a n c] w (RevR w0.heap.size a c n l.reverse w0) := by
  have HO := Lib.hid ho
  have HB := Lib.hid hb0
  have HN := Lib.hid hn
  have hnm : (n : Int) ≤ 9223372036854775807 := by
    rcases ho.2 with ⟨_, h0⟩ | ⟨g', c', cur, hv, _, _, hnc, hcm, _⟩
    · omega
    · unfold maxLen at hcm
      omega
  clear ho hb0 hn
  have n1 : IntKind.i64.wrap ((n : Int) - 1) = (n : Int) - 1 := IntWalk.i64_in _ (by omega)
  go_enter Tryz.func52, Tryz.ntmps52
  go_wp2_with fail
  go_loopw [2, 3] (fun vi vj W => ∃ (i : Nat) (l' : List Ver), vi = .int .i64 i ∧ vj = .int .i64 ((n : Int) - 1 - (i : Int)) ∧ i ≤ n ∧ Hid (Turned l l' i) ∧ Hid (W.ownsRow w0.heap.size 45 7 (.slice a n c) n (flatV l')) ∧ Hid (Below w0.heap.size w0 W)) (fun vi _ _ => n - (Lib.intOf vi).toNat)
  case atStart => exact ⟨0, l, rfl, by go_num, Nat.zero_le _, Lib.hid (turned_none l), HO, HB⟩
  case round =>
    clear HO HB
    obtain ⟨i, l', rfl, rfl, hin, HT, HR, HB⟩ := hrel
    obtain ⟨wq, hwq⟩ : ∃ q, q = wr := ⟨_, rfl⟩
    rw [← hwq] at HR HB ⊢
    clear hwq
    by_cases hlt : 2 * i + 1 < n
    · obtain ⟨j, hj⟩ : ∃ j, j = n - 1 - i := ⟨_, rfl⟩
      have ej : (n : Int) - 1 - (i : Int) = (j : Int) := by omega
      rw [ej]
      obtain ⟨g, rfl⟩ : ∃ g, a = some ⟨g, 0, none⟩ := by
        rcases HR.out.2 with ⟨h0, hz⟩ | ⟨g', c', cur, hv, _⟩
        · omega
        · injection hv with e1
          exact ⟨g', e1⟩
      obtain ⟨hnc, hcm⟩ := own_room HR.out
      have HGB : Hid (w0.heap.size ≤ g) := Lib.hid (HR.out.lt g rfl).1
      unfold maxLen at hcm
      obtain ⟨x, hx⟩ : ∃ v, l[i]? = some v := ⟨_, List.getElem?_eq_getElem (by have := HN.out; omega)⟩
      obtain ⟨y, hy⟩ : ∃ v, l[j]? = some v := ⟨_, List.getElem?_eq_getElem (by have := HN.out; omega)⟩
      have hl : l'.length = n := by rw [HT.out.1, HN.out]
      have hx' : l'[i]? = some x := by rw [turned_at HT.out (Nat.le_refl _) (by have := HN.out; omega), hx]
      have hy' : l'[j]? = some y := by rw [turned_at HT.out (by omega) (by have := HN.out; omega), hy]
      have HST : Hid (Turned l ((l'.set i y).set j x) (i + 1)) := Lib.hid (by
        have e : j = l.length - 1 - i := by have := HN.out; omega
        rw [e] at hy ⊢
        exact turned_step HT.out (by have := HN.out; omega) hx hy)
      have hR : RowN w0.heap.size g n c l' wq := HR.out
      obtain ⟨c0, c1, c2, c3, c4, c5, c6⟩ := rown_cell hR hl i x hx'
      obtain ⟨d0, d1, d2, d3, d4, d5, d6⟩ := rown_cell hR hl j y hy'
      have e20 : (set7 wq g i y).cell? ⟨g, j * 7, none⟩ = some (.int .i64 y.n0) := by rw [set7_other wq g i y _ (by omega)]; exact d0
      have e21 : (set7 wq g i y).cell? ⟨g, j * 7 + 1, none⟩ = some (.int .i64 y.n1) := by rw [set7_other wq g i y _ (by omega)]; exact d1
      have e22 : (set7 wq g i y).cell? ⟨g, j * 7 + 2, none⟩ = some (.int .i64 y.n2) := by rw [set7_other wq g i y _ (by omega)]; exact d2
      have e23 : (set7 wq g i y).cell? ⟨g, j * 7 + 3, none⟩ = some (.int .i64 y.n3) := by rw [set7_other wq g i y _ (by omega)]; exact d3
      have e24 : (set7 wq g i y).cell? ⟨g, j * 7 + 4, none⟩ = some (.int .i64 y.many) := by rw [set7_other wq g i y _ (by omega)]; exact d4
      have e25 : (set7 wq g i y).cell? ⟨g, j * 7 + 5, none⟩ = some (.string y.tag) := by rw [set7_other wq g i y _ (by omega)]; exact d5
      have e26 : (set7 wq g i y).cell? ⟨g, j * 7 + 6, none⟩ = some (.int .i64 y.step) := by rw [set7_other wq g i y _ (by omega)]; exact d6
      unfold set7 at e20 e21 e22 e23 e24 e25 e26
      have f1 : ∀ r, wq.frozen? ⟨g, r, none⟩ = false := fun r => hR.frozenAt r
      obtain ⟨w6, hw6⟩ : ∃ q, q = set7 (set7 wq g i y) g j x := ⟨_, rfl⟩
      have R6 : Hid (w6.ownsRow w0.heap.size 45 7 (.slice (some ⟨g, 0, none⟩) n c) n (flatV ((l'.set i y).set j x))) := Lib.hid (by rw [hw6]; exact rown_set (rown_set hR hl i y (by omega)) (by rw [List.length_set]; exact hl) j x (by omega))
      have B6 : Hid (Below w0.heap.size w0 w6) := Lib.hid (by rw [hw6]; exact set7_below (set7_below HB.out HGB.out i y) HGB.out j x)
      unfold set7 at hw6
      have i1 : (i : Int) < (n : Int) := by omega
      have i2 : (0 : Int) ≤ (i : Int) := by omega
      have i3 : (i : Int) < (j : Int) := by omega
      have i4 : IntKind.i64.wrap ((i : Int) + 1) = (i : Int) + 1 := IntWalk.i64_in _ (by omega)
      have j1 : (j : Int) < (n : Int) := by omega
      have j2 : (0 : Int) ≤ (j : Int) := by omega
      have j4 : IntKind.i64.wrap ((j : Int) - 1) = (j : Int) - 1 := IntWalk.i64_in _ (by omega)
      have HJ := Lib.hid ej
      have hj9 : i + 1 ≤ n := by omega
      clear hx hy hx' hy' hR HR HB HT hj ej hl
      go_wp2_with fail
      go_region
      rw [← hw6]
      clear hw6 c0 c1 c2 c3 c4 c5 c6 d0 d1 d2 d3 d4 d5 d6 e20 e21 e22 e23 e24 e25 e26 f1
      go_wp2_with fail
      go_roundw
      case rel => exact ⟨i + 1, (l'.set i y).set j x, by go_num, by have := HJ.out; congr 1; push_cast; omega, hj9, HST, R6, Lib.hid B6.out.drew⟩
      case measure => simp [Lib.intOf]; omega
    · have i1 : ¬ ((i : Int) < (n : Int) - 1 - (i : Int)) := by omega
      have HL : Hid (l.reverse = l') := Lib.hid (turned_all HT.out (by have := HN.out; omega)).symm
      go_wp2_with fail
      go_end0
      unfold RevR
      rw [HL.out]
      exact ⟨rfl, HR.out, HB.out⟩
end Go.Proofs.YtlfehjjnepiljaaGreatDoor
