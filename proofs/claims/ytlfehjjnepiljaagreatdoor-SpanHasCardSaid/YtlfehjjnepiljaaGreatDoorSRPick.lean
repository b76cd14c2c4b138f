/- Proved here: Pick of puncheonref05, at a row of at most a thousand versions: those that the span has, each once, the last ones first. -/
import Derived.Test.YtlfehjjnepiljaaGreatDoorMJoins1
import Derived.Test.YtlfehjjnepiljaaGreatDoorSRHas
import Derived.Test.YtlfehjjnepiljaaGreatDoorSPicks
import Derived.Great.BuildSlice
namespace Go.Proofs.YtlfehjjnepiljaaGreatDoor
open Go.RowKit Go.Shelf

theorem fall_split (v : Ver) : ∀ O : List Ver, FallP O → ∃ A B, O = A ++ B ∧ (∀ x ∈ A, 0 < cmpV x v) ∧ (∀ x ∈ B, ¬ 0 < cmpV x v) ∧ (O.filter fun x => decide (0 < cmpV x v)).length = A.length
  | [], _ => ⟨[], [], rfl, fun x h => (by cases h), fun x h => (by cases h), rfl⟩
  | x :: r, h => by
    obtain ⟨h1, h2⟩ := List.pairwise_cons.1 h
    by_cases hx : 0 < cmpV x v
    · obtain ⟨A, B, e, hA, hB, hl⟩ := fall_split v r h2
      refine ⟨x :: A, B, by rw [e]; rfl, fun y hy => ?_, hB, ?_⟩
      · rcases List.mem_cons.1 hy with rfl | hy
        · exact hx
        · exact hA y hy
      · rw [List.filter_cons_of_pos (by simpa using hx), List.length_cons, hl, List.length_cons]
    · have hr : ∀ y ∈ r, ¬ 0 < cmpV y v := fun y hy => by
        have := h1 y hy
        have := good_cmpV.tr y x v (by omega) (by omega)
        omega
      refine ⟨[], x :: r, rfl, fun y hy => (by cases hy), fun y hy => ?_, ?_⟩
      · rcases List.mem_cons.1 hy with rfl | hy
        · exact hx
        · exact hr y hy
      · rw [List.filter_eq_nil_iff.2 (fun y hy => by
          rcases List.mem_cons.1 hy with rfl | hy
          · simpa using hx
          · simpa using hr y hy)]
theorem fall_put {A B : List Ver} {v : Ver} (h : FallP (A ++ B)) (hA : ∀ x ∈ A, 0 < cmpV x v) (hB : ∀ x ∈ B, ¬ 0 < cmpV x v) (hn : v ∉ B) : FallP (A ++ v :: B) := by
  obtain ⟨h1, h2, h3⟩ := List.pairwise_append.1 h
  refine List.pairwise_append.2 ⟨h1, List.pairwise_cons.2 ⟨fun b hb => ?_, h2⟩, fun a ha b hb => ?_⟩
  · have := hB b hb
    by_cases e : cmpV b v = 0
    · rw [cmpV_zero e] at hb
      exact absurd hb hn
    · omega
  · rcases List.mem_cons.1 hb with rfl | hb
    · have := hA a ha
      have := good_cmpV.anti a b
      omega
    · exact h3 a ha b hb
def cntV (v : Ver) (O : List Ver) : Nat := (O.filter fun x => decide (0 < cmpV x v)).length
theorem cnt_le (v : Ver) (O : List Ver) : cntV v O ≤ O.length := List.length_filter_le _ _
theorem cnt_snoc {v : Ver} {O : List Ver} {k : Nat} {u : Ver} (h : O[k]? = some u) : cntV v (O.take (k + 1)) = cntV v (O.take k) + if 0 < cmpV u v then 1 else 0 := by
  unfold cntV
  rw [take_last h, List.filter_append, List.length_append]
  by_cases e : 0 < cmpV u v <;> simp [e]
theorem put_fall {O : List Ver} {v : Ver} (h : FallP O) (hn : v ∉ O) : FallP (O.take (cntV v O) ++ v :: O.drop (cntV v O)) := by
  obtain ⟨A, B, e, hA, hB, hl⟩ := fall_split v O h
  have hc : cntV v O = A.length := hl
  rw [hc]
  subst e
  rw [List.take_left, List.drop_left]
  exact fall_put h hA hB (fun hm => hn (List.mem_append_right _ hm))
theorem put_mem (O : List Ver) (v u : Ver) (k : Nat) : u ∈ O.take k ++ v :: O.drop k ↔ u ∈ O ∨ u = v := by
  have e : u ∈ O ↔ u ∈ O.take k ∨ u ∈ O.drop k := by rw [← List.mem_append, List.take_append_drop]
  rw [e]
  simp only [List.mem_append, List.mem_cons]
  constructor
  · rintro (h | h | h)
    · exact .inl (.inl h)
    · exact .inr h
    · exact .inl (.inr h)
  · rintro ((h | h) | h)
    · exact .inl h
    · exact .inr (.inr h)
    · exact .inr (.inl h)
theorem mem_skip {ls : List (List Bd)} {l O : List Ver} {k : Nat} {v : Ver} (hv : l[k]? = some v) (h : ∀ u, u ∈ O ↔ u ∈ l.take k ∧ hasS ls u = true) (hn : hasS ls v = false ∨ v ∈ O) : ∀ u, u ∈ O ↔ u ∈ l.take (k + 1) ∧ hasS ls u = true := by
  intro u
  rw [take_last hv, List.mem_append, List.mem_singleton, h u]
  constructor
  · exact fun ⟨a, b⟩ => ⟨.inl a, b⟩
  · rintro ⟨a | rfl, b⟩
    · exact ⟨a, b⟩
    · rcases hn with hn | hn
      · rw [hn] at b; cases b
      · exact (h u).1 hn
theorem mem_more {ls : List (List Bd)} {l O : List Ver} {k j : Nat} {v : Ver} (hv : l[k]? = some v) (h : ∀ u, u ∈ O ↔ u ∈ l.take k ∧ hasS ls u = true) (hn : hasS ls v = true) : ∀ u, u ∈ O.take j ++ v :: O.drop j ↔ u ∈ l.take (k + 1) ∧ hasS ls u = true := by
  intro u
  rw [put_mem, h u, take_last hv, List.mem_append, List.mem_singleton]
  constructor
  · rintro (⟨a, b⟩ | rfl)
    · exact ⟨.inl a, b⟩
    · exact ⟨.inr rfl, hn⟩
  · rintro ⟨a | rfl, b⟩
    · exact .inl ⟨a, b⟩
    · exact .inr rfl
theorem filled45 (v : Ver) : Instr.fill (fun i => some (i * 7, 7)) ((Array.range (1 * 7)).map ((Value.agg Ver.zero.arr).cells[· % (Value.agg Ver.zero.arr).cells.size]!)) [(0, .agg v.arr)] = some v.arr := by kernel_rfl
/-- A row of one version is built, at a step of a region that draws. -/
theorem wp_build45 {op : Oper} {ac : Act} {w : World} {K : Act → World → Prop} {Q : Exit → Act → World → Prop} {ops : Array Oper} (hw : Region.wanted op (yielded ops ac.tmps) = true) (x : Operand) (ho : op.op = .buildSlice 41 1 #[(0, x)]) (v : Ver) (hx : ac.eval x = .agg v.arr)
    (h : K (ac.put op.dst (.slice (some ⟨w.heap.size, 0, none⟩) 1 1)) (w.alloc (.cells v.arr 45))) : if Region.wanted op (yielded ops ac.tmps) = true then op.wp Tryz.prog ac w K Q else K (ac.put op.dst undef) w := by
  rw [if_pos hw]
  obtain ⟨i0, hi, hz0, hz1, hz2⟩ := info_parts info26z
  refine wp_buildSlice 41 45 1 _ ho v.arr i0 (.agg Ver.zero.arr) Tryz.underlying41 hi hz0 (by rw [hz1]; decide) (by rw [hz1]; decide) ?_ h
  rw [hz1]
  refine Eq.trans ?_ (filled45 v)
  simp [hx]
theorem own_one (v : Ver) (w : World) : (w.alloc (.cells v.arr 45)).ownsRow w.heap.size 45 7 (.slice (some ⟨w.heap.size, 0, none⟩) 1 1) 1 (flatV [v]) :=
  ⟨rfl, .inr ⟨w.heap.size, 1, v.arr, rfl, Nat.le_refl _, heap_alloc_new w _, Nat.le_refl _, by unfold maxLen; omega, rfl, rfl⟩⟩
theorem flatV_cut (l : List Ver) (k : Nat) : flatV l = flatV (l.take k) ++ flatV (l.drop k) := by rw [← flatV_append, List.take_append_drop]
theorem own_cut {w : World} {B m c k : Nat} {a : Option Addr} {O : List Ver} (h : w.ownsRow B 45 7 (.slice a m c) m (flatV O)) (hm : m = O.length) (hk : k ≤ m) : w.ownsRow B 45 7 (.slice a k c) k (flatV (O.take k)) := by
  obtain ⟨h1, h2⟩ := h
  refine ⟨by rw [flatV_len, List.length_take]; omega, ?_⟩
  rcases h2 with ⟨h0, hz⟩ | ⟨g, cap, cur, hv, hB, hg, hnc, hcm, hcs, htk⟩
  · injection h0 with e1 e2 e3
    have : k = 0 := by omega
    subst this
    exact .inl ⟨by rw [e1, e3], rfl⟩
  · injection hv with e1 e2 e3
    subst e1 e3
    exact .inr ⟨g, c, cur, rfl, hB, hg, by omega, hcm, hcs, by rw [← flatV_take, ← htk, List.take_take, Nat.min_eq_left (by omega)]⟩
theorem rdF_tail {w : World} {B g m c k : Nat} {O : List Ver} (h : w.ownsRow B 45 7 (.slice (some ⟨g, 0, none⟩) m c) m (flatV O)) (hm : m = O.length) (hk : k ≤ m) : RdF w (.slice (some ⟨g, k * 7, none⟩) (m - k) (c - k)) (m - k) (flatV (O.drop k)) := by
  obtain ⟨hmc, hcm⟩ := own_room h
  refine ⟨_, _, rfl, by omega, by omega, fun h0 => ⟨g, k * 7, rfl, (h.lt g rfl).2, fun j u hu => ?_⟩⟩
  have h2 := h.cells (g := g) rfl (k * 7 + j) u (by
    rw [flatV_cut O k, List.getElem?_append_right (by rw [flatV_len, List.length_take]; omega), flatV_len, List.length_take, show k * 7 + j - min k O.length * 7 = j by omega]
    exact hu)
  rw [add_to, Nat.zero_add] at h2
  exact h2
theorem rdF_none {w : World} {g m c k : Nat} {O : List Ver} (hk : m - k = 0) (hm2 : c ≤ maxLen) : RdF w (.slice (some ⟨g, 0, none⟩) (m - k) (c - k)) (m - k) (flatV (O.drop k)) :=
  ⟨_, _, rfl, by omega, by omega, fun h0 => by omega⟩

set_option maxRecDepth 100000 in
set_option maxHeartbeats 40000000 in
theorem rpick_any (ls : List (List Bd)) (l : List Ver) (x y : Value) (w : World) (hx : RdR w x ls) (hy : RdV w y l) (hl : l.length ≤ 1000) : Calls Tryz.prog 25 #[.agg #[x], y] w (PickR ls l w) := by
  obtain ⟨w1, hw1⟩ : ∃ q, q = w.alloc (.cells #[x] 27) := ⟨_, rfl⟩
  have X1 : Hid (Box w1 w.heap.size 27 #[x]) := Lib.hid (by rw [hw1]; exact box_new)
  have B1 : Hid (Below w.heap.size w w1) := Lib.hid (by rw [hw1]; exact below_new _ _)
  have HX := Lib.hid (hx.on B1.out)
  have HY := Lib.hid (hy.on B1.out)
  obtain ⟨i0, hi, hz0, hz1, hz2⟩ := info_parts info26z
  obtain ⟨ax, cx, rfl, _⟩ := hx.open
  obtain ⟨ay, cy, rfl, _⟩ := hy
  obtain ⟨nx, hnx⟩ : ∃ q, q = ls.length := ⟨_, rfl⟩
  obtain ⟨n, hn⟩ : ∃ q, q = l.length := ⟨_, rfl⟩
  rw [← hnx] at X1 HX hw1 ⊢
  rw [← hn] at HY hl ⊢
  have HN := Lib.hid hn
  obtain ⟨o, ho⟩ : ∃ o, o = spanOk ls := ⟨_, rfl⟩
  have HOK := Lib.hid ho
  clear hx hnx hn ho
  go_enter Tryz.func25, Tryz.ntmps25
  go_upto_region 1 with fail
  rw [← hw1]
  obtain ⟨gs, hgs⟩ : ∃ q, q = w.heap.size := ⟨_, rfl⟩
  rw [← hgs] at X1 ⊢
  clear hw1 hgs
  go_wp2_with fail
  go_loopw [5, 14] (fun out i W => ∃ (k : Nat) (a : Option Addr) (c m : Nat) (O : List Ver), k ≤ n ∧ i = .int .i64 k ∧ out = .slice a m c ∧ m = O.length ∧ m ≤ k ∧ FallP O ∧ (∀ u, u ∈ O ↔ u ∈ l.take k ∧ hasS ls u = true) ∧ Hid (W.ownsRow w1.heap.size 45 7 (.slice a m c) m (flatV O)) ∧ Hid (Below w1.heap.size w1 W)) (fun _ i _ => n - (Lib.intOf i).toNat)
  case atStart => exact ⟨0, none, 0, 0, [], Nat.zero_le _, rfl, rfl, rfl, Nat.le_refl _, List.Pairwise.nil, fun u => by simp, Lib.hid (World.ownsRow_nil _ _ _ _), Lib.hid (Below.refl _ _)⟩
  case round =>
    obtain ⟨k, a, c, m, O, hk, rfl, rfl, hmO, hmk, hfall, hmem, HR, HB⟩ := hrel
    have HMO := Lib.hid hmO
    have HFA := Lib.hid hfall
    have HMEM := Lib.hid hmem
    clear hmO hfall hmem
    obtain ⟨wq, hwq⟩ : ∃ q, q = wr := ⟨_, rfl⟩
    rw [← hwq] at HR HB ⊢
    clear hwq
    by_cases hlt : k < n
    · obtain ⟨v, hv⟩ : ∃ v, l[k]? = some v := ⟨_, List.getElem?_eq_getElem (by have := HN.out; omega)⟩
      obtain ⟨g, o', rfl, hat0⟩ := HY.out.at hv
      obtain ⟨r0, r1, r2, r3, r4, r5, r6⟩ := hat0.on HB.out
      have k1 : (k : Int) < (n : Int) := by omega
      have k2 : (0 : Int) ≤ (k : Int) := by omega
      have k4 : IntKind.i64.wrap ((k : Int) + 1) = (k : Int) + 1 := IntWalk.i64_in _ (by omega)
      have HV := Lib.hid hv
      have X0 : Hid (Box (wq.alloc (.cells Ver.zero.arr 45)) wq.heap.size 45 Ver.zero.arr) := Lib.hid box_new
      obtain ⟨wv, hwv⟩ : ∃ q, q = (wq.alloc (.cells Ver.zero.arr 45)).setRow wq.heap.size v.arr := ⟨_, rfl⟩
      have XV : Hid (Box wv wq.heap.size 45 v.arr) := Lib.hid (by rw [hwv]; exact X0.out.row _)
      have bv : Below wq.heap.size wq wv := by rw [hwv]; exact below_row ((Below.refl _ _).alloc (Nat.le_refl _) _) (Nat.le_refl _) _
      have HGX : Hid (∀ j, (Value.slice a m c).ownBlock = some j → j < wq.heap.size) := Lib.hid (fun j hj => (HR.out.lt j hj).2)
      replace HB := Lib.hid (bch HB.out bv)
      replace HR := Lib.hid (owns_below HR.out bv)
      clear hat0 hv bv
      go_upto_region 5 with (first
        | (with_reducible refine wpList_zero rfl 45 rfl Ver.zero.arr zero26 ?_)
        | (refine wpList_store_row rfl 45 (.tmp 7) (.tmp 17) rfl wq.heap.size v.arr rfl rfl 45 _ X0.out (info26 _) rfl (arr_one _) ?_))
      rw [← hwv]
      (try go_frame)
      obtain ⟨gx, hgx⟩ : ∃ q, q = wq.heap.size := ⟨_, rfl⟩
      rw [← hgx] at XV HGX ⊢
      clear hwv hgx X0 r0 r1 r2 r3 r4 r5 r6
      have HX5 := Lib.hid (HX.out.on HB.out)
      have HC := Lib.hid (rright_any ls _ wv HX5.out)
      rw [← HOK.out] at HC
      have p0 := (X1.out.on HB.out).cell (k := 0) rfl
      cases o with
      | false =>
        have HM2 := Lib.hid (mem_skip HV.out HMEM.out (.inl (by unfold hasS; rw [← HOK.out]; rfl)))
        go_wp2_with fail
        refine HC.out.mono ?_
        rintro e w3 ⟨rfl, hb⟩
        have HB3 := Lib.hid (bch HB.out hb)
        have HR3 := Lib.hid (owns_below HR.out hb)
        clear HC HB HR hb p0 XV HX5 HGX
        go_wp2_with fail
        go_roundw
        case rel => exact ⟨k + 1, a, c, m, O, hlt, by go_num, rfl, HMO.out, by omega, HFA.out, HM2.out, HR3, HB3⟩
        case measure => simp [Lib.intOf]; omega
      | true =>
      go_wp2_with fail
      refine HC.out.mono ?_
      rintro e w3 ⟨rfl, hb⟩
      replace HB := Lib.hid (bch HB.out hb)
      replace HR := Lib.hid (owns_below HR.out hb)
      replace XV := Lib.hid (XV.out.on hb)
      replace HX5 := Lib.hid (HX5.out.on hb)
      clear HC hb p0
      obtain ⟨ov, hov⟩ : ∃ o, o = v.ok := ⟨_, rfl⟩
      have HC := Lib.hid (rrights_of hov w3)
      have HOV := Lib.hid hov
      obtain ⟨p0, p1, p2, p3, p4, p5, p6⟩ := XV.out.ver
      clear hov
      cases ov with
      | false =>
        have HM2 := Lib.hid (mem_skip HV.out HMEM.out (.inl (by unfold hasS; rw [← HOV.out]; simp)))
        go_wp2_with fail
        refine HC.out.mono ?_
        rintro e w4 ⟨rfl, hb⟩
        have HB3 := Lib.hid (bch HB.out hb)
        have HR3 := Lib.hid (owns_below HR.out hb)
        clear HC HB HR hb p0 p1 p2 p3 p4 p5 p6 XV HX5 HGX
        go_wp2_with fail
        go_roundw
        case rel => exact ⟨k + 1, a, c, m, O, hlt, by go_num, rfl, HMO.out, by omega, HFA.out, HM2.out, HR3, HB3⟩
        case measure => simp [Lib.intOf]; omega
      | true =>
      go_wp2_with fail
      refine HC.out.mono ?_
      rintro e w4 ⟨rfl, hb⟩
      replace HB := Lib.hid (bch HB.out hb)
      replace HR := Lib.hid (owns_below HR.out hb)
      replace XV := Lib.hid (XV.out.on hb)
      replace HX5 := Lib.hid (HX5.out.on hb)
      clear HC hb p0 p1 p2 p3 p4 p5 p6
      obtain ⟨oh, hoh⟩ : ∃ o, o = hasL ls v := ⟨_, rfl⟩
      have HC := Lib.hid (rhas_any ls v _ w4 HX5.out (kinds_span HOK.out.symm))
      rw [← hoh] at HC
      have HOH := Lib.hid hoh
      have HHS : Hid (hasS ls v = oh) := Lib.hid (by unfold hasS; rw [← HOK.out, ← HOV.out, hoh]; simp)
      obtain ⟨p0, p1, p2, p3, p4, p5, p6⟩ := XV.out.ver
      have q0 := (X1.out.on HB.out).cell (k := 0) rfl
      clear hoh
      cases oh with
      | false =>
        have HM2 := Lib.hid (mem_skip HV.out HMEM.out (.inl HHS.out))
        go_wp2_with fail
        refine HC.out.mono ?_
        rintro e w5 ⟨rfl, hb⟩
        have HB3 := Lib.hid (bch HB.out hb)
        have HR3 := Lib.hid (owns_below HR.out hb)
        clear HC HB HR hb p0 p1 p2 p3 p4 p5 p6 q0 XV HX5 HGX
        go_wp2_with fail
        go_roundw
        case rel => exact ⟨k + 1, a, c, m, O, hlt, by go_num, rfl, HMO.out, by omega, HFA.out, HM2.out, HR3, HB3⟩
        case measure => simp [Lib.intOf]; omega
      | true =>
      go_wp2_with fail
      refine HC.out.mono ?_
      rintro e w5 ⟨rfl, hb⟩
      replace HB := Lib.hid (bch HB.out hb)
      replace HR := Lib.hid (owns_below HR.out hb)
      replace XV := Lib.hid (XV.out.on hb)
      clear HC hb p0 p1 p2 p3 p4 p5 p6 q0 HX5
      have HVO : Hid (v.ok = true) := Lib.hid HOV.out.symm
      have HOO : Hid (∀ u ∈ O, u.ok = true) := Lib.hid (fun u hu => has_fit ((HMEM.out u).1 hu).2)
      go_upto_region 7 with fail
      go_wp2_with fail
      go_loopw [8, 9, 34] (fun at1 kn i W => ∃ j : Nat, j ≤ m ∧ i = .int .i64 j ∧ at1 = .int .i64 (cntV v (O.take j) : Nat) ∧ kn = .bool (decide (v ∈ O.take j)) ∧ Hid (Box W gx 45 v.arr) ∧ Hid (W.ownsRow w1.heap.size 45 7 (.slice a m c) m (flatV O)) ∧ Hid (Below w1.heap.size w1 W)) (fun _ _ i _ => m - (Lib.intOf i).toNat)
      case atStart => exact ⟨0, Nat.zero_le _, rfl, rfl, by simp, XV, HR, HB⟩
      case round =>
        clear XV HR HB
        obtain ⟨j, hj, rfl, rfl, rfl, XV, HR, HB⟩ := hrel
        obtain ⟨wj, hwj⟩ : ∃ q, q = wr := ⟨_, rfl⟩
        rw [← hwj] at XV HR HB ⊢
        clear hwj
        obtain ⟨at', hat'⟩ : ∃ q, q = cntV v (O.take j) := ⟨_, rfl⟩
        rw [← hat']
        obtain ⟨kn, hkn⟩ : ∃ q, q = decide (v ∈ O.take j) := ⟨_, rfl⟩
        rw [← hkn]
        have HAT := Lib.hid hat'
        have HKN := Lib.hid hkn
        have hatj : at' ≤ j := by have := cnt_le v (O.take j); rw [List.length_take] at this; omega
        clear hat' hkn
        by_cases jlt : j < m
        · obtain ⟨u, hu⟩ : ∃ v, O[j]? = some v := ⟨_, List.getElem?_eq_getElem (by have := HMO.out; omega)⟩
          obtain ⟨g2, rfl⟩ : ∃ g, a = some ⟨g, 0, none⟩ := by
            rcases HR.out.2 with ⟨h0, hz⟩ | ⟨g', c', cur, hv, _⟩
            · omega
            · injection hv with e1
              exact ⟨g', e1⟩
          obtain ⟨r0, r1, r2, r3, r4, r5, r6⟩ := rown_cell (show RowN w1.heap.size g2 m c O wj from HR.out) HMO.out.symm j u hu
          have j1 : (j : Int) < (m : Int) := by omega
          have j2 : (0 : Int) ≤ (j : Int) := by omega
          have j4 : IntKind.i64.wrap ((j : Int) + 1) = (j : Int) + 1 := IntWalk.i64_in _ (by omega)
          have a4 : IntKind.i64.wrap ((at' : Int) + 1) = (at' : Int) + 1 := IntWalk.i64_in _ (by omega)
          obtain ⟨cc, hcc⟩ : ∃ q, q = cmpW u v := ⟨_, rfl⟩
          have HCW : Hid (cc = cmpV u v) := Lib.hid (by rw [hcc]; unfold cmpW; rw [HVO.out, HOO.out u (List.mem_of_getElem? hu)]; rfl)
          have HCM : Hid (∀ W, Calls Tryz.prog 53 #[.agg u.arr, .agg v.arr] W fun e w' => e = .returned (.int .i64 cc) ∧ Below W.heap.size W w') := Lib.hid (fun W => by rw [hcc]; exact rcompare_any u v W)
          have HCS := Lib.hid (cnt_snoc (v := v) hu)
          obtain ⟨ye, hye⟩ : ∃ q, q = decide (u = v) := ⟨_, rfl⟩
          have heq := fun W => eq_spelt u v W
          rw [← hye] at heq
          have hgd := guard26
          have HKS : Hid (decide (v ∈ O.take (j + 1)) = (kn || ye)) := Lib.hid (by
            rw [take_last hu, HKN.out, hye]
            simp only [List.mem_append, List.mem_singleton, Bool.decide_or]
            congr 1
            exact decide_eq_decide.2 ⟨fun h => h.symm, fun h => h.symm⟩)
          have Z0 : Hid (Box (wj.alloc (.cells Ver.zero.arr 45)) wj.heap.size 45 Ver.zero.arr) := Lib.hid box_new
          obtain ⟨wu, hwu⟩ : ∃ q, q = (wj.alloc (.cells Ver.zero.arr 45)).setRow wj.heap.size u.arr := ⟨_, rfl⟩
          have XU : Hid (Box wu wj.heap.size 45 u.arr) := Lib.hid (by rw [hwu]; exact Z0.out.row _)
          have bu : Below wj.heap.size wj wu := by rw [hwu]; exact below_row ((Below.refl _ _).alloc (Nat.le_refl _) _) (Nat.le_refl _) _
          replace XV := Lib.hid (XV.out.on bu)
          replace HR := Lib.hid (owns_below HR.out bu)
          replace HB := Lib.hid (bch HB.out bu)
          clear hcc hye bu
          go_upto_region 10 with (first
            | (with_reducible refine wpList_zero rfl 45 rfl Ver.zero.arr zero26 ?_)
            | (refine wpList_store_row rfl 45 (.tmp 11) (.tmp 37) rfl wj.heap.size u.arr rfl rfl 45 _ Z0.out (info26 _) rfl (arr_one _) ?_))
          rw [← hwu]
          (try go_frame)
          obtain ⟨gu, hgu⟩ : ∃ q, q = wj.heap.size := ⟨_, rfl⟩
          rw [← hgu] at XU ⊢
          clear hwu hgu Z0 r0 r1 r2 r3 r4 r5 r6 hu
          obtain ⟨p0, p1, p2, p3, p4, p5, p6⟩ := XV.out.ver
          obtain ⟨s0, s1, s2, s3, s4, s5, s6⟩ := XU.out.ver
          go_cut [9] (fun b wx => b = .bool (kn || ye) ∧ wx = wu)
          case first =>
            rename_i J2 K2 hJ hK2
            cases kn with
            | false =>
              go_wp2_with fail
              first | refine hK2 _ _ (Met.intro (hJ _ _ ?_)) | refine Met.intro (hJ _ _ ?_)
              (repeat apply Exists.intro)
              refine ⟨?_, rfl⟩
              exact ⟨by simp, rfl⟩
            | true =>
              go_wp2_with fail
              first | refine hK2 _ _ (Met.intro (hJ _ _ ?_)) | refine Met.intro (hJ _ _ ?_)
              (repeat apply Exists.intro)
              refine ⟨?_, rfl⟩
              exact ⟨rfl, rfl⟩
          case rest =>
          obtain ⟨rfl, rfl⟩ := hcut
          go_wp2_with fail
          refine (HCM.out _).mono ?_
          rintro e w7 ⟨rfl, hb⟩
          replace XV := Lib.hid (XV.out.on hb)
          replace HR := Lib.hid (owns_below HR.out hb)
          replace HB := Lib.hid (bch HB.out hb)
          clear XU p0 p1 p2 p3 p4 p5 p6 s0 s1 s2 s3 s4 s5 s6 hb HCM heq
          by_cases hcp : cc > 0
          · have d1 : decide (cc > 0) = true := decide_eq_true hcp
            have HC2 : Hid (cntV v (O.take (j + 1)) = at' + 1) := Lib.hid (by rw [HCS.out, ← HAT.out, if_pos (by rw [← HCW.out]; exact hcp)])
            go_wp2_with fail
            go_roundw
            case rel => exact ⟨j + 1, jlt, by go_num, by rw [HC2.out]; go_num, by rw [HKS.out], XV, HR, HB⟩
            case measure => simp [Lib.intOf]; omega
          · have d1 : decide (cc > 0) = false := decide_eq_false hcp
            have HC2 : Hid (cntV v (O.take (j + 1)) = at') := Lib.hid (by rw [HCS.out, ← HAT.out, if_neg (by rw [← HCW.out]; exact hcp)]; rfl)
            go_wp2_with fail
            go_roundw
            case rel => exact ⟨j + 1, jlt, by go_num, by rw [HC2.out], by rw [HKS.out], XV, HR, HB⟩
            case measure => simp [Lib.intOf]; omega
        · have j1 : ¬ ((j : Int) < (m : Int)) := by omega
          have e0 : O.take j = O := List.take_of_length_le (by have := HMO.out; omega)
          rw [e0] at HAT HKN
          clear e0
          cases kn with
          | true =>
            have HM2 := Lib.hid (mem_skip HV.out HMEM.out (.inr (by have := HKN.out; simpa using this.symm)))
            go_wp2_with fail
            go_roundw
            case rel => exact ⟨k + 1, a, c, m, O, hlt, by go_num, rfl, HMO.out, by omega, HFA.out, HM2.out, HR, HB⟩
            case measure => simp [Lib.intOf]; omega
          | false =>
            have hat : at' ≤ m := by omega
            have HFALL : Hid (FallP (O.take at' ++ v :: O.drop at')) := Lib.hid (by rw [HAT.out]; exact put_fall HFA.out (by have := HKN.out; simpa using this.symm))
            have HMEM2 := Lib.hid (mem_more (j := at') HV.out HMEM.out HHS.out)
            obtain ⟨mm, hmm⟩ : ∃ q, q = m - at' := ⟨_, rfl⟩
            have HLEN : Hid (at' + (1 + mm) = (O.take at' ++ v :: O.drop at').length) := Lib.hid (by rw [List.length_append, List.length_cons, List.length_take, List.length_drop]; have := HMO.out; omega)
            have HFLAT : Hid (flatV (O.take at') ++ (flatV [v] ++ flatV (O.drop at')) = flatV (O.take at' ++ v :: O.drop at')) := Lib.hid (by rw [← flatV_append, ← flatV_append]; rfl)
            have HLD : Hid ((flatV (O.drop at')).length = mm * 7) := Lib.hid (by rw [flatV_len, List.length_drop]; have := HMO.out; omega)
            have HLA : Hid ((flatV [v] ++ flatV (O.drop at')).length = (1 + mm) * 7) := Lib.hid (by rw [List.length_append, HLD.out, flatV_len, List.length_singleton]; omega)
            have HLO : Hid (∀ u ∈ flatV [v] ++ flatV (O.drop at'), u.oneCell' = true) := Lib.hid (fun u hu => by
              rcases List.mem_append.1 hu with h | h
              · exact flatV_one _ u h
              · exact flatV_one _ u h)
            have HNE : Hid (∀ j, (Value.slice a at' c).ownBlock = some j → j ≠ gx) := Lib.hid (fun j hj => Nat.ne_of_lt (HGX.out j (by cases a <;> exact hj)))
            have a1 : (at' : Int) ≤ (m : Int) := by omega
            have a2 : (0 : Int) ≤ (at' : Int) := by omega
            have hm1000 : m ≤ 1000 := by omega
            cases a with
            | none =>
              obtain ⟨hm0, hc0⟩ : m = 0 ∧ c = 0 := by
                rcases HR.out.2 with ⟨h0, hz⟩ | ⟨g', c', cur, hv, _⟩
                · injection h0 with _ e2 e3
                  exact ⟨hz, e3⟩
                · cases hv
              obtain rfl : at' = 0 := by omega
              subst hm0 hc0
              obtain rfl : mm = 0 := by omega
              have R60P : RdF wj.drew (.slice none 0 0) 0 (flatV (O.drop 0)) := ⟨none, 0, rfl, Nat.le_refl _, Nat.zero_le _, fun h => absurd h (Nat.lt_irrefl _)⟩
              clear hmm
              go_upto_region 15 with fail
              refine wp_region_held_drew (S := fun w' => Below w1.heap.size w1 w' ∧ Box w' gx 45 v.arr) (by kernel_rfl) ⟨HB.out.drew, XV.out⟩ (fun hHeld => ?_)
              obtain ⟨v0, hv0⟩ : ∃ q, q = World.drew wj := ⟨_, rfl⟩
              have OP : Hid (v0.ownsRow w1.heap.size 45 7 (.slice none 0 0) 0 (flatV (O.take 0))) := Lib.hid (by rw [hv0]; exact own_cut HR.out HMO.out hat)
              have R60 : Hid (RdF v0 (.slice none 0 0) 0 (flatV (O.drop 0))) := Lib.hid (by rw [hv0]; exact R60P)
              rw [← hv0] at hHeld ⊢
              have HS0 := Lib.hid hHeld
              clear hv0 HB XV HR
              refine wpAnyH_take (i := 0) (oi := { dst := some 53, op := Op.move (Operand.tmp 5), type := 41, pos := "ref.go:199", after := #[], guard := none }) (v := ?_) rfl (by kernel_rfl) (by kernel_rfl) (by kernel_rfl) (fun _ _ _ h => h) (Or.inl ⟨by rfl, ?_⟩) hHeld ?_
              rotate_left
              · (intro w hSw; go_simp; try with_reducible rfl)
              (try simp only [Act.put, List.setIfInBounds_toArray, List.set_cons_zero, List.set_cons_succ])
              refine wpAnyH_take (i := 1) (oi := { dst := some 54, op := Op.move (Operand.tmp 8), type := 3, pos := "ref.go:199", after := #[], guard := none }) (v := ?_) rfl (by kernel_rfl) (by kernel_rfl) (by kernel_rfl) (fun _ _ _ h => h) (Or.inl ⟨by rfl, ?_⟩) hHeld ?_
              rotate_left
              · (intro w hSw; go_simp; try with_reducible rfl)
              (try simp only [Act.put, List.setIfInBounds_toArray, List.set_cons_zero, List.set_cons_succ])
              refine wpAnyH_take (i := 2) (oi := { dst := some 55, op := Op.slice 41 (Operand.tmp 53) none (some (Operand.tmp 54)) none, type := 41, pos := "ref.go:199", after := #[{ on := 0, ground := Ground.data }, { on := 1, ground := Ground.data }], guard := none }) (v := ?_) rfl (by kernel_rfl) (by kernel_rfl) (by kernel_rfl) (fun _ _ _ h => h) (Or.inl ⟨by rfl, ?_⟩) hHeld ?_
              rotate_left
              · (intro w hSw; go_simp; try with_reducible rfl)
              (try simp only [Act.put, List.setIfInBounds_toArray, List.set_cons_zero, List.set_cons_succ])
              refine wpAnyH_take (i := 3) (oi := { dst := some 56, op := Op.load 45 (Operand.tmp 7), type := 45, pos := "ref.go:199", after := #[], guard := none }) (v := ?_) rfl (by kernel_rfl) (by kernel_rfl) (by kernel_rfl) (fun _ _ _ h => h) (Or.inl ⟨by rfl, ?_⟩) hHeld ?_
              rotate_left
              · (intro w hSw; obtain ⟨p0, p1, p2, p3, p4, p5, p6⟩ := hSw.2.ver; go_simp; try with_reducible rfl)
              (try simp only [Act.put, List.setIfInBounds_toArray, List.set_cons_zero, List.set_cons_succ])
              refine wpAnyH_take (i := 5) (oi := { dst := some 58, op := Op.move (Operand.tmp 5), type := 41, pos := "ref.go:199", after := #[], guard := none }) (v := ?_) rfl (by kernel_rfl) (by kernel_rfl) (by kernel_rfl) (fun _ _ _ h => h) (Or.inl ⟨by rfl, ?_⟩) hHeld ?_
              rotate_left
              · (intro w hSw; go_simp; try with_reducible rfl)
              (try simp only [Act.put, List.setIfInBounds_toArray, List.set_cons_zero, List.set_cons_succ])
              refine wpAnyH_take (i := 6) (oi := { dst := some 59, op := Op.move (Operand.tmp 8), type := 3, pos := "ref.go:199", after := #[], guard := none }) (v := ?_) rfl (by kernel_rfl) (by kernel_rfl) (by kernel_rfl) (fun _ _ _ h => h) (Or.inl ⟨by rfl, ?_⟩) hHeld ?_
              rotate_left
              · (intro w hSw; go_simp; try with_reducible rfl)
              (try simp only [Act.put, List.setIfInBounds_toArray, List.set_cons_zero, List.set_cons_succ])
              refine wpAnyH_take (i := 7) (oi := { dst := some 60, op := Op.slice 41 (Operand.tmp 58) (some (Operand.tmp 59)) none none, type := 41, pos := "ref.go:199", after := #[{ on := 5, ground := Ground.data }, { on := 6, ground := Ground.data }], guard := none }) (v := ?_) rfl (by kernel_rfl) (by kernel_rfl) (by kernel_rfl) (fun _ _ _ h => h) (Or.inl ⟨by rfl, ?_⟩) hHeld ?_
              rotate_left
              · (intro w hSw; go_simp; try with_reducible rfl)
              (try simp only [Act.put, List.setIfInBounds_toArray, List.set_cons_zero, List.set_cons_succ])
              refine wpAnyH_ready (rs := [4]) (by kernel_rfl) (by simp) (AllReadyH.cons (o := { dst := some 57, op := Op.buildSlice 41 1 #[(0, Operand.tmp 56)], type := 41, pos := "ref.go:199", after := #[{ on := 3, ground := Ground.data }], guard := none }) rfl (fun K hK => ?_) AllReadyH.nil)
              · refine wp_build45 (by rfl) (.tmp 56) rfl v rfl ?_
                have N4 : Hid ((v0.alloc (.cells v.arr 45)).ownsRow v0.heap.size 45 7 (.slice (some ⟨v0.heap.size, 0, none⟩) 1 1) 1 (flatV [v])) := Lib.hid (own_one v v0)
                have B04 : Hid (Below v0.heap.size v0 (v0.alloc (.cells v.arr 45))) := Lib.hid (below_new _ _)
                obtain ⟨v4, hv4⟩ : ∃ q, q = v0.alloc (.cells v.arr 45) := ⟨_, rfl⟩
                rw [← hv4] at B04 N4 ⊢
                clear hv4
                obtain ⟨g4, hg4⟩ : ∃ q, q = v0.heap.size := ⟨_, rfl⟩
                have HG4 : Hid (v0.heap.size ≤ g4) := Lib.hid (Nat.le_of_eq hg4.symm)
                rw [← hg4] at N4 ⊢
                clear hg4
                refine hK.out _ _ ⟨bch HS0.out.1 B04.out, HS0.out.2.on B04.out⟩ (fun hHeld => ?_)
                (try simp only [Act.put, List.setIfInBounds_toArray, List.set_cons_zero, List.set_cons_succ])
                refine wpAnyH_ready (rs := [8]) (by kernel_rfl) (by simp) (AllReadyH.cons (o := { dst := some 61, op := Op.call { callee := Callee.builtin Builtin.append, args := #[Operand.tmp 57, Operand.tmp 60], argTypes := #[41, 41] }, type := 41, pos := "ref.go:199", after := #[{ on := 4, ground := Ground.data }, { on := 7, ground := Ground.data }], guard := none }) rfl (fun K hK => ?_) AllReadyH.nil)
                · refine wp_append_ownrd (by rfl) (.tmp 57) (.tmp 60) rfl g4 45 i0 _ 7 64 Tryz.underlying41 hi hz0 hz1 hz2 rfl (by decide) (.slice (some ⟨g4, 0, none⟩) 1 1) 1 (flatV [v]) rfl N4.out (.slice none 0 0) 0 (flatV (O.drop 0)) rfl ((R60.out.on B04.out)) HLD.out (flatV_one _) (by unfold maxLen; omega) (by omega) (Nat.le_of_lt (N4.out.lt g4 rfl).2) ?_
                  intro v61 w8 h61 hg8
                  have H61 := Lib.hid h61
                  have B08 : Hid (Below v0.heap.size v0 w8) := Lib.hid (B04.out.grown hg8 B04.out.size (fun j hj => by cases hj; exact HG4.out))
                  clear h61 hg8
                  refine hK.out _ _ ⟨bch HS0.out.1 B08.out, HS0.out.2.on B08.out⟩ (fun hHeld => ?_)
                  (try simp only [Act.put, List.setIfInBounds_toArray, List.set_cons_zero, List.set_cons_succ])
                  refine wpAnyH_ready (rs := [9]) (by kernel_rfl) (by simp) (AllReadyH.cons (o := { dst := some 62, op := Op.call { callee := Callee.builtin Builtin.append, args := #[Operand.tmp 55, Operand.tmp 61], argTypes := #[41, 41] }, type := 41, pos := "ref.go:199", after := #[{ on := 2, ground := Ground.data }, { on := 8, ground := Ground.data }, { on := 8, ground := Ground.chain }], guard := none }) rfl (fun K hK => ?_) AllReadyH.nil)
                  · refine wp_append_ownrd (by rfl) (.tmp 55) (.tmp 61) rfl w1.heap.size 45 i0 _ 7 64 Tryz.underlying41 hi hz0 hz1 hz2 rfl (by decide) (.slice none 0 0) 0 (flatV (O.take 0)) rfl (owns_below OP.out B08.out) v61 (1 + 0) (flatV [v] ++ flatV (O.drop 0)) rfl (RdF.of_own H61.out) HLA.out HLO.out (by unfold maxLen; omega) (by omega) (bch HS0.out.1 B08.out).size ?_
                    intro v62 w9 h62 hg9
                    have H62 := Lib.hid h62
                    have B09 : Hid (Below w1.heap.size w1 w9) := Lib.hid ((bch HS0.out.1 B08.out).grown hg9 (bch HS0.out.1 B08.out).size (fun j hj => (OP.out.lt j hj).1))
                    have X9 : Hid (Box w9 gx 45 v.arr) := Lib.hid ((hg9.block gx (HS0.out.2.on B08.out).lt (fun e => HNE.out gx e.symm rfl)).trans (HS0.out.2.on B08.out))
                    clear h62 hg9
                    refine hK.out _ _ ⟨B09.out, X9.out⟩ (fun hHeld => ?_)
                    (try simp only [Act.put, List.setIfInBounds_toArray, List.set_cons_zero, List.set_cons_succ])
                    refine wpAnyH_take (i := 10) (oi := { dst := some 5, op := Op.assign (Operand.tmp 62), type := 41, pos := "ref.go:199", after := #[{ on := 9, ground := Ground.data }, { on := 9, ground := Ground.chain }, { on := 0, ground := Ground.phase }, { on := 1, ground := Ground.phase }, { on := 2, ground := Ground.phase }, { on := 3, ground := Ground.phase }, { on := 4, ground := Ground.phase }, { on := 5, ground := Ground.phase }, { on := 6, ground := Ground.phase }, { on := 7, ground := Ground.phase }, { on := 8, ground := Ground.phase }, { on := 9, ground := Ground.phase }], guard := none }) (v := ?_) rfl (by kernel_rfl) (by kernel_rfl) (by kernel_rfl) (fun _ _ _ h => h) (Or.inl ⟨by rfl, ?_⟩) hHeld ?_
                    rotate_left
                    · (intro w hSw; go_simp; try with_reducible rfl)
                    (try simp only [Act.put, List.setIfInBounds_toArray, List.set_cons_zero, List.set_cons_succ])
                    refine wpAnyH_done (by kernel_rfl) ?_ _
                    obtain ⟨a9, c9, rfl⟩ := own_form H62.out
                    go_wp2_with fail
                    go_roundw
                    case rel => exact ⟨k + 1, a9, c9, 0 + (1 + 0), O.take 0 ++ v :: O.drop 0, hlt, by go_num, rfl, HLEN.out, by omega, HFALL.out, HMEM2.out, Lib.hid (by rw [← HFLAT.out]; exact H62.out), B09⟩
                    case measure => simp [Lib.intOf]; omega
            | some p =>
              obtain ⟨g2, rfl⟩ : ∃ g, p = ⟨g, 0, none⟩ := by
                rcases HR.out.2 with ⟨h0, hz⟩ | ⟨g', c', cur, hv, _⟩
                · cases h0
                · injection hv with e1
                  injection e1 with e1
                  exact ⟨g', e1⟩
              obtain ⟨hmc, hcm⟩ := own_room HR.out
              have a3 : (at' : Int) ≤ (c : Int) := by omega
              have hcm2 : (c : Int) ≤ 9223372036854775807 := by unfold maxLen at hcm; omega
              by_cases hca : c = at'
              · obtain rfl : m = c := by omega
                obtain rfl : m = at' := by omega
                obtain rfl : mm = 0 := by omega
                have R60P : RdF wj.drew (.slice (some ⟨g2, 0, none⟩) 0 0) 0 (flatV (O.drop m)) := ⟨_, _, rfl, Nat.le_refl _, Nat.zero_le _, fun h => absurd h (Nat.lt_irrefl _)⟩
                clear hmm hca
                go_upto_region 15 with fail
                refine wp_region_held_drew (S := fun w' => Below w1.heap.size w1 w' ∧ Box w' gx 45 v.arr) (by kernel_rfl) ⟨HB.out.drew, XV.out⟩ (fun hHeld => ?_)
                obtain ⟨v0, hv0⟩ : ∃ q, q = World.drew wj := ⟨_, rfl⟩
                have OP : Hid (v0.ownsRow w1.heap.size 45 7 (.slice (some ⟨g2, 0, none⟩) m m) m (flatV (O.take m))) := Lib.hid (by rw [hv0]; exact own_cut HR.out HMO.out hat)
                have R60 : Hid (RdF v0 (.slice (some ⟨g2, 0, none⟩) 0 0) 0 (flatV (O.drop m))) := Lib.hid (by rw [hv0]; exact R60P)
                rw [← hv0] at hHeld ⊢
                have HS0 := Lib.hid hHeld
                clear hv0 HB XV HR
                refine wpAnyH_take (i := 0) (oi := { dst := some 53, op := Op.move (Operand.tmp 5), type := 41, pos := "ref.go:199", after := #[], guard := none }) (v := ?_) rfl (by kernel_rfl) (by kernel_rfl) (by kernel_rfl) (fun _ _ _ h => h) (Or.inl ⟨by rfl, ?_⟩) hHeld ?_
                rotate_left
                · (intro w hSw; go_simp; try with_reducible rfl)
                (try simp only [Act.put, List.setIfInBounds_toArray, List.set_cons_zero, List.set_cons_succ])
                refine wpAnyH_take (i := 1) (oi := { dst := some 54, op := Op.move (Operand.tmp 8), type := 3, pos := "ref.go:199", after := #[], guard := none }) (v := ?_) rfl (by kernel_rfl) (by kernel_rfl) (by kernel_rfl) (fun _ _ _ h => h) (Or.inl ⟨by rfl, ?_⟩) hHeld ?_
                rotate_left
                · (intro w hSw; go_simp; try with_reducible rfl)
                (try simp only [Act.put, List.setIfInBounds_toArray, List.set_cons_zero, List.set_cons_succ])
                refine wpAnyH_take (i := 2) (oi := { dst := some 55, op := Op.slice 41 (Operand.tmp 53) none (some (Operand.tmp 54)) none, type := 41, pos := "ref.go:199", after := #[{ on := 0, ground := Ground.data }, { on := 1, ground := Ground.data }], guard := none }) (v := ?_) rfl (by kernel_rfl) (by kernel_rfl) (by kernel_rfl) (fun _ _ _ h => h) (Or.inl ⟨by rfl, ?_⟩) hHeld ?_
                rotate_left
                · (intro w hSw; go_simp; try with_reducible rfl)
                (try simp only [Act.put, List.setIfInBounds_toArray, List.set_cons_zero, List.set_cons_succ])
                refine wpAnyH_take (i := 3) (oi := { dst := some 56, op := Op.load 45 (Operand.tmp 7), type := 45, pos := "ref.go:199", after := #[], guard := none }) (v := ?_) rfl (by kernel_rfl) (by kernel_rfl) (by kernel_rfl) (fun _ _ _ h => h) (Or.inl ⟨by rfl, ?_⟩) hHeld ?_
                rotate_left
                · (intro w hSw; obtain ⟨p0, p1, p2, p3, p4, p5, p6⟩ := hSw.2.ver; go_simp; try with_reducible rfl)
                (try simp only [Act.put, List.setIfInBounds_toArray, List.set_cons_zero, List.set_cons_succ])
                refine wpAnyH_take (i := 5) (oi := { dst := some 58, op := Op.move (Operand.tmp 5), type := 41, pos := "ref.go:199", after := #[], guard := none }) (v := ?_) rfl (by kernel_rfl) (by kernel_rfl) (by kernel_rfl) (fun _ _ _ h => h) (Or.inl ⟨by rfl, ?_⟩) hHeld ?_
                rotate_left
                · (intro w hSw; go_simp; try with_reducible rfl)
                (try simp only [Act.put, List.setIfInBounds_toArray, List.set_cons_zero, List.set_cons_succ])
                refine wpAnyH_take (i := 6) (oi := { dst := some 59, op := Op.move (Operand.tmp 8), type := 3, pos := "ref.go:199", after := #[], guard := none }) (v := ?_) rfl (by kernel_rfl) (by kernel_rfl) (by kernel_rfl) (fun _ _ _ h => h) (Or.inl ⟨by rfl, ?_⟩) hHeld ?_
                rotate_left
                · (intro w hSw; go_simp; try with_reducible rfl)
                (try simp only [Act.put, List.setIfInBounds_toArray, List.set_cons_zero, List.set_cons_succ])
                refine wpAnyH_take (i := 7) (oi := { dst := some 60, op := Op.slice 41 (Operand.tmp 58) (some (Operand.tmp 59)) none none, type := 41, pos := "ref.go:199", after := #[{ on := 5, ground := Ground.data }, { on := 6, ground := Ground.data }], guard := none }) (v := ?_) rfl (by kernel_rfl) (by kernel_rfl) (by kernel_rfl) (fun _ _ _ h => h) (Or.inl ⟨by rfl, ?_⟩) hHeld ?_
                rotate_left
                · (intro w hSw; go_simp; try with_reducible rfl)
                (try simp only [Act.put, List.setIfInBounds_toArray, List.set_cons_zero, List.set_cons_succ])
                refine wpAnyH_ready (rs := [4]) (by kernel_rfl) (by simp) (AllReadyH.cons (o := { dst := some 57, op := Op.buildSlice 41 1 #[(0, Operand.tmp 56)], type := 41, pos := "ref.go:199", after := #[{ on := 3, ground := Ground.data }], guard := none }) rfl (fun K hK => ?_) AllReadyH.nil)
                · refine wp_build45 (by rfl) (.tmp 56) rfl v rfl ?_
                  have N4 : Hid ((v0.alloc (.cells v.arr 45)).ownsRow v0.heap.size 45 7 (.slice (some ⟨v0.heap.size, 0, none⟩) 1 1) 1 (flatV [v])) := Lib.hid (own_one v v0)
                  have B04 : Hid (Below v0.heap.size v0 (v0.alloc (.cells v.arr 45))) := Lib.hid (below_new _ _)
                  obtain ⟨v4, hv4⟩ : ∃ q, q = v0.alloc (.cells v.arr 45) := ⟨_, rfl⟩
                  rw [← hv4] at B04 N4 ⊢
                  clear hv4
                  obtain ⟨g4, hg4⟩ : ∃ q, q = v0.heap.size := ⟨_, rfl⟩
                  have HG4 : Hid (v0.heap.size ≤ g4) := Lib.hid (Nat.le_of_eq hg4.symm)
                  rw [← hg4] at N4 ⊢
                  clear hg4
                  refine hK.out _ _ ⟨bch HS0.out.1 B04.out, HS0.out.2.on B04.out⟩ (fun hHeld => ?_)
                  (try simp only [Act.put, List.setIfInBounds_toArray, List.set_cons_zero, List.set_cons_succ])
                  refine wpAnyH_ready (rs := [8]) (by kernel_rfl) (by simp) (AllReadyH.cons (o := { dst := some 61, op := Op.call { callee := Callee.builtin Builtin.append, args := #[Operand.tmp 57, Operand.tmp 60], argTypes := #[41, 41] }, type := 41, pos := "ref.go:199", after := #[{ on := 4, ground := Ground.data }, { on := 7, ground := Ground.data }], guard := none }) rfl (fun K hK => ?_) AllReadyH.nil)
                  · refine wp_append_ownrd (by rfl) (.tmp 57) (.tmp 60) rfl g4 45 i0 _ 7 64 Tryz.underlying41 hi hz0 hz1 hz2 rfl (by decide) (.slice (some ⟨g4, 0, none⟩) 1 1) 1 (flatV [v]) rfl N4.out (.slice (some ⟨g2, 0, none⟩) 0 0) 0 (flatV (O.drop m)) rfl ((R60.out.on B04.out)) HLD.out (flatV_one _) (by unfold maxLen; omega) (by omega) (Nat.le_of_lt (N4.out.lt g4 rfl).2) ?_
                    intro v61 w8 h61 hg8
                    have H61 := Lib.hid h61
                    have B08 : Hid (Below v0.heap.size v0 w8) := Lib.hid (B04.out.grown hg8 B04.out.size (fun j hj => by cases hj; exact HG4.out))
                    clear h61 hg8
                    refine hK.out _ _ ⟨bch HS0.out.1 B08.out, HS0.out.2.on B08.out⟩ (fun hHeld => ?_)
                    (try simp only [Act.put, List.setIfInBounds_toArray, List.set_cons_zero, List.set_cons_succ])
                    refine wpAnyH_ready (rs := [9]) (by kernel_rfl) (by simp) (AllReadyH.cons (o := { dst := some 62, op := Op.call { callee := Callee.builtin Builtin.append, args := #[Operand.tmp 55, Operand.tmp 61], argTypes := #[41, 41] }, type := 41, pos := "ref.go:199", after := #[{ on := 2, ground := Ground.data }, { on := 8, ground := Ground.data }, { on := 8, ground := Ground.chain }], guard := none }) rfl (fun K hK => ?_) AllReadyH.nil)
                    · refine wp_append_ownrd (by rfl) (.tmp 55) (.tmp 61) rfl w1.heap.size 45 i0 _ 7 64 Tryz.underlying41 hi hz0 hz1 hz2 rfl (by decide) (.slice (some ⟨g2, 0, none⟩) m m) m (flatV (O.take m)) rfl (owns_below OP.out B08.out) v61 (1 + 0) (flatV [v] ++ flatV (O.drop m)) rfl (RdF.of_own H61.out) HLA.out HLO.out (by unfold maxLen; omega) (by omega) (bch HS0.out.1 B08.out).size ?_
                      intro v62 w9 h62 hg9
                      have H62 := Lib.hid h62
                      have B09 : Hid (Below w1.heap.size w1 w9) := Lib.hid ((bch HS0.out.1 B08.out).grown hg9 (bch HS0.out.1 B08.out).size (fun j hj => (OP.out.lt j hj).1))
                      have X9 : Hid (Box w9 gx 45 v.arr) := Lib.hid ((hg9.block gx (HS0.out.2.on B08.out).lt (fun e => HNE.out gx e.symm rfl)).trans (HS0.out.2.on B08.out))
                      clear h62 hg9
                      refine hK.out _ _ ⟨B09.out, X9.out⟩ (fun hHeld => ?_)
                      (try simp only [Act.put, List.setIfInBounds_toArray, List.set_cons_zero, List.set_cons_succ])
                      refine wpAnyH_take (i := 10) (oi := { dst := some 5, op := Op.assign (Operand.tmp 62), type := 41, pos := "ref.go:199", after := #[{ on := 9, ground := Ground.data }, { on := 9, ground := Ground.chain }, { on := 0, ground := Ground.phase }, { on := 1, ground := Ground.phase }, { on := 2, ground := Ground.phase }, { on := 3, ground := Ground.phase }, { on := 4, ground := Ground.phase }, { on := 5, ground := Ground.phase }, { on := 6, ground := Ground.phase }, { on := 7, ground := Ground.phase }, { on := 8, ground := Ground.phase }, { on := 9, ground := Ground.phase }], guard := none }) (v := ?_) rfl (by kernel_rfl) (by kernel_rfl) (by kernel_rfl) (fun _ _ _ h => h) (Or.inl ⟨by rfl, ?_⟩) hHeld ?_
                      rotate_left
                      · (intro w hSw; go_simp; try with_reducible rfl)
                      (try simp only [Act.put, List.setIfInBounds_toArray, List.set_cons_zero, List.set_cons_succ])
                      refine wpAnyH_done (by kernel_rfl) ?_ _
                      obtain ⟨a9, c9, rfl⟩ := own_form H62.out
                      go_wp2_with fail
                      go_roundw
                      case rel => exact ⟨k + 1, a9, c9, m + (1 + 0), O.take m ++ v :: O.drop m, hlt, by go_num, rfl, HLEN.out, by omega, HFALL.out, HMEM2.out, Lib.hid (by rw [← HFLAT.out]; exact H62.out), B09⟩
                      case measure => simp [Lib.intOf]; omega
              · have R60P : RdF wj.drew (.slice (some ⟨g2, at' * 7, none⟩) (m - at') (c - at')) mm (flatV (O.drop at')) := by rw [hmm]; exact rdF_tail (show wj.drew.ownsRow _ _ _ _ _ _ from HR.out) HMO.out hat
                go_upto_region 15 with fail
                refine wp_region_held_drew (S := fun w' => Below w1.heap.size w1 w' ∧ Box w' gx 45 v.arr) (by kernel_rfl) ⟨HB.out.drew, XV.out⟩ (fun hHeld => ?_)
                obtain ⟨v0, hv0⟩ : ∃ q, q = World.drew wj := ⟨_, rfl⟩
                have OP : Hid (v0.ownsRow w1.heap.size 45 7 (.slice (some ⟨g2, 0, none⟩) at' c) at' (flatV (O.take at'))) := Lib.hid (by rw [hv0]; exact own_cut HR.out HMO.out hat)
                have R60 : Hid (RdF v0 (.slice (some ⟨g2, at' * 7, none⟩) (m - at') (c - at')) mm (flatV (O.drop at'))) := Lib.hid (by rw [hv0]; exact R60P)
                rw [← hv0] at hHeld ⊢
                have HS0 := Lib.hid hHeld
                clear hv0 HB XV HR
                refine wpAnyH_take (i := 0) (oi := { dst := some 53, op := Op.move (Operand.tmp 5), type := 41, pos := "ref.go:199", after := #[], guard := none }) (v := ?_) rfl (by kernel_rfl) (by kernel_rfl) (by kernel_rfl) (fun _ _ _ h => h) (Or.inl ⟨by rfl, ?_⟩) hHeld ?_
                rotate_left
                · (intro w hSw; go_simp; try with_reducible rfl)
                (try simp only [Act.put, List.setIfInBounds_toArray, List.set_cons_zero, List.set_cons_succ])
                refine wpAnyH_take (i := 1) (oi := { dst := some 54, op := Op.move (Operand.tmp 8), type := 3, pos := "ref.go:199", after := #[], guard := none }) (v := ?_) rfl (by kernel_rfl) (by kernel_rfl) (by kernel_rfl) (fun _ _ _ h => h) (Or.inl ⟨by rfl, ?_⟩) hHeld ?_
                rotate_left
                · (intro w hSw; go_simp; try with_reducible rfl)
                (try simp only [Act.put, List.setIfInBounds_toArray, List.set_cons_zero, List.set_cons_succ])
                refine wpAnyH_take (i := 2) (oi := { dst := some 55, op := Op.slice 41 (Operand.tmp 53) none (some (Operand.tmp 54)) none, type := 41, pos := "ref.go:199", after := #[{ on := 0, ground := Ground.data }, { on := 1, ground := Ground.data }], guard := none }) (v := ?_) rfl (by kernel_rfl) (by kernel_rfl) (by kernel_rfl) (fun _ _ _ h => h) (Or.inl ⟨by rfl, ?_⟩) hHeld ?_
                rotate_left
                · (intro w hSw; go_simp; try with_reducible rfl)
                (try simp only [Act.put, List.setIfInBounds_toArray, List.set_cons_zero, List.set_cons_succ])
                refine wpAnyH_take (i := 3) (oi := { dst := some 56, op := Op.load 45 (Operand.tmp 7), type := 45, pos := "ref.go:199", after := #[], guard := none }) (v := ?_) rfl (by kernel_rfl) (by kernel_rfl) (by kernel_rfl) (fun _ _ _ h => h) (Or.inl ⟨by rfl, ?_⟩) hHeld ?_
                rotate_left
                · (intro w hSw; obtain ⟨p0, p1, p2, p3, p4, p5, p6⟩ := hSw.2.ver; go_simp; try with_reducible rfl)
                (try simp only [Act.put, List.setIfInBounds_toArray, List.set_cons_zero, List.set_cons_succ])
                refine wpAnyH_take (i := 5) (oi := { dst := some 58, op := Op.move (Operand.tmp 5), type := 41, pos := "ref.go:199", after := #[], guard := none }) (v := ?_) rfl (by kernel_rfl) (by kernel_rfl) (by kernel_rfl) (fun _ _ _ h => h) (Or.inl ⟨by rfl, ?_⟩) hHeld ?_
                rotate_left
                · (intro w hSw; go_simp; try with_reducible rfl)
                (try simp only [Act.put, List.setIfInBounds_toArray, List.set_cons_zero, List.set_cons_succ])
                refine wpAnyH_take (i := 6) (oi := { dst := some 59, op := Op.move (Operand.tmp 8), type := 3, pos := "ref.go:199", after := #[], guard := none }) (v := ?_) rfl (by kernel_rfl) (by kernel_rfl) (by kernel_rfl) (fun _ _ _ h => h) (Or.inl ⟨by rfl, ?_⟩) hHeld ?_
                rotate_left
                · (intro w hSw; go_simp; try with_reducible rfl)
                (try simp only [Act.put, List.setIfInBounds_toArray, List.set_cons_zero, List.set_cons_succ])
                refine wpAnyH_take (i := 7) (oi := { dst := some 60, op := Op.slice 41 (Operand.tmp 58) (some (Operand.tmp 59)) none none, type := 41, pos := "ref.go:199", after := #[{ on := 5, ground := Ground.data }, { on := 6, ground := Ground.data }], guard := none }) (v := ?_) rfl (by kernel_rfl) (by kernel_rfl) (by kernel_rfl) (fun _ _ _ h => h) (Or.inl ⟨by rfl, ?_⟩) hHeld ?_
                rotate_left
                · (intro w hSw; go_simp; try with_reducible rfl)
                (try simp only [Act.put, List.setIfInBounds_toArray, List.set_cons_zero, List.set_cons_succ])
                refine wpAnyH_ready (rs := [4]) (by kernel_rfl) (by simp) (AllReadyH.cons (o := { dst := some 57, op := Op.buildSlice 41 1 #[(0, Operand.tmp 56)], type := 41, pos := "ref.go:199", after := #[{ on := 3, ground := Ground.data }], guard := none }) rfl (fun K hK => ?_) AllReadyH.nil)
                · refine wp_build45 (by rfl) (.tmp 56) rfl v rfl ?_
                  have N4 : Hid ((v0.alloc (.cells v.arr 45)).ownsRow v0.heap.size 45 7 (.slice (some ⟨v0.heap.size, 0, none⟩) 1 1) 1 (flatV [v])) := Lib.hid (own_one v v0)
                  have B04 : Hid (Below v0.heap.size v0 (v0.alloc (.cells v.arr 45))) := Lib.hid (below_new _ _)
                  obtain ⟨v4, hv4⟩ : ∃ q, q = v0.alloc (.cells v.arr 45) := ⟨_, rfl⟩
                  rw [← hv4] at B04 N4 ⊢
                  clear hv4
                  obtain ⟨g4, hg4⟩ : ∃ q, q = v0.heap.size := ⟨_, rfl⟩
                  have HG4 : Hid (v0.heap.size ≤ g4) := Lib.hid (Nat.le_of_eq hg4.symm)
                  rw [← hg4] at N4 ⊢
                  clear hg4
                  refine hK.out _ _ ⟨bch HS0.out.1 B04.out, HS0.out.2.on B04.out⟩ (fun hHeld => ?_)
                  (try simp only [Act.put, List.setIfInBounds_toArray, List.set_cons_zero, List.set_cons_succ])
                  refine wpAnyH_ready (rs := [8]) (by kernel_rfl) (by simp) (AllReadyH.cons (o := { dst := some 61, op := Op.call { callee := Callee.builtin Builtin.append, args := #[Operand.tmp 57, Operand.tmp 60], argTypes := #[41, 41] }, type := 41, pos := "ref.go:199", after := #[{ on := 4, ground := Ground.data }, { on := 7, ground := Ground.data }], guard := none }) rfl (fun K hK => ?_) AllReadyH.nil)
                  · refine wp_append_ownrd (by rfl) (.tmp 57) (.tmp 60) rfl g4 45 i0 _ 7 64 Tryz.underlying41 hi hz0 hz1 hz2 rfl (by decide) (.slice (some ⟨g4, 0, none⟩) 1 1) 1 (flatV [v]) rfl N4.out (.slice (some ⟨g2, at' * 7, none⟩) (m - at') (c - at')) mm (flatV (O.drop at')) rfl ((R60.out.on B04.out)) HLD.out (flatV_one _) (by unfold maxLen; omega) (by omega) (Nat.le_of_lt (N4.out.lt g4 rfl).2) ?_
                    intro v61 w8 h61 hg8
                    have H61 := Lib.hid h61
                    have B08 : Hid (Below v0.heap.size v0 w8) := Lib.hid (B04.out.grown hg8 B04.out.size (fun j hj => by cases hj; exact HG4.out))
                    clear h61 hg8
                    refine hK.out _ _ ⟨bch HS0.out.1 B08.out, HS0.out.2.on B08.out⟩ (fun hHeld => ?_)
                    (try simp only [Act.put, List.setIfInBounds_toArray, List.set_cons_zero, List.set_cons_succ])
                    refine wpAnyH_ready (rs := [9]) (by kernel_rfl) (by simp) (AllReadyH.cons (o := { dst := some 62, op := Op.call { callee := Callee.builtin Builtin.append, args := #[Operand.tmp 55, Operand.tmp 61], argTypes := #[41, 41] }, type := 41, pos := "ref.go:199", after := #[{ on := 2, ground := Ground.data }, { on := 8, ground := Ground.data }, { on := 8, ground := Ground.chain }], guard := none }) rfl (fun K hK => ?_) AllReadyH.nil)
                    · refine wp_append_ownrd (by rfl) (.tmp 55) (.tmp 61) rfl w1.heap.size 45 i0 _ 7 64 Tryz.underlying41 hi hz0 hz1 hz2 rfl (by decide) (.slice (some ⟨g2, 0, none⟩) at' c) at' (flatV (O.take at')) rfl (owns_below OP.out B08.out) v61 (1 + mm) (flatV [v] ++ flatV (O.drop at')) rfl (RdF.of_own H61.out) HLA.out HLO.out (by unfold maxLen; omega) (by omega) (bch HS0.out.1 B08.out).size ?_
                      intro v62 w9 h62 hg9
                      have H62 := Lib.hid h62
                      have B09 : Hid (Below w1.heap.size w1 w9) := Lib.hid ((bch HS0.out.1 B08.out).grown hg9 (bch HS0.out.1 B08.out).size (fun j hj => (OP.out.lt j hj).1))
                      have X9 : Hid (Box w9 gx 45 v.arr) := Lib.hid ((hg9.block gx (HS0.out.2.on B08.out).lt (fun e => HNE.out gx e.symm rfl)).trans (HS0.out.2.on B08.out))
                      clear h62 hg9
                      refine hK.out _ _ ⟨B09.out, X9.out⟩ (fun hHeld => ?_)
                      (try simp only [Act.put, List.setIfInBounds_toArray, List.set_cons_zero, List.set_cons_succ])
                      refine wpAnyH_take (i := 10) (oi := { dst := some 5, op := Op.assign (Operand.tmp 62), type := 41, pos := "ref.go:199", after := #[{ on := 9, ground := Ground.data }, { on := 9, ground := Ground.chain }, { on := 0, ground := Ground.phase }, { on := 1, ground := Ground.phase }, { on := 2, ground := Ground.phase }, { on := 3, ground := Ground.phase }, { on := 4, ground := Ground.phase }, { on := 5, ground := Ground.phase }, { on := 6, ground := Ground.phase }, { on := 7, ground := Ground.phase }, { on := 8, ground := Ground.phase }, { on := 9, ground := Ground.phase }], guard := none }) (v := ?_) rfl (by kernel_rfl) (by kernel_rfl) (by kernel_rfl) (fun _ _ _ h => h) (Or.inl ⟨by rfl, ?_⟩) hHeld ?_
                      rotate_left
                      · (intro w hSw; go_simp; try with_reducible rfl)
                      (try simp only [Act.put, List.setIfInBounds_toArray, List.set_cons_zero, List.set_cons_succ])
                      refine wpAnyH_done (by kernel_rfl) ?_ _
                      obtain ⟨a9, c9, rfl⟩ := own_form H62.out
                      go_wp2_with fail
                      go_roundw
                      case rel => exact ⟨k + 1, a9, c9, at' + (1 + mm), O.take at' ++ v :: O.drop at', hlt, by go_num, rfl, HLEN.out, by omega, HFALL.out, HMEM2.out, Lib.hid (by rw [← HFLAT.out]; exact H62.out), B09⟩
                      case measure => simp [Lib.intOf]; omega
    · have k1 : ¬ ((k : Int) < (n : Int)) := by omega
      go_wp2_with fail
      go_ret
      have e0 : l.take k = l := List.take_of_length_le (by have := HN.out; omega)
      refine ⟨a, m, c, O, rfl, HFA.out, fun u => ?_, HMO.out, ?_, owns_mono HR.out B1.out.size, B1.out.trans (HB.out.mono B1.out.size)⟩
      · rw [HMEM.out u, e0]
      · have := HN.out
        omega
end Go.Proofs.YtlfehjjnepiljaaGreatDoor
