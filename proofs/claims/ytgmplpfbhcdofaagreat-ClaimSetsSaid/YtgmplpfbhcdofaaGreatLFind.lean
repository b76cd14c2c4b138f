/- Proved here: Find of package pack and of puncheonref09: the leaf of a path. -/
import Derived.Test.YtgmplpfbhcdofaaGreatLMath
namespace Go.Proofs.YtgmplpfbhcdofaaGreat
open Go.RowKit Go.Shelf
attribute [local go_sem] Oper.semAt_some

theorem results_two {P : Program} {fn : Func} {p q : Tmp} {ty : TypeId} (h : fn.results = #[.cell p ty, .tmp q]) (tmps : Array Value) (w : World) (g : Nat) (hp : tmps.getD p undef = .pointer (some ⟨g, 0, none⟩)) (cs : Array Value) (hr : (loadVar ty ⟨g, 0, none⟩).run P w = .ok (.agg cs) w) :
    (results fn tmps).run P w = .ok (.tuple #[.agg cs, tmps.getD q undef]) w := by
  have e : tmps[p]?.getD undef = .pointer (some ⟨g, 0, none⟩) := by rw [← hp]; simp
  simp [results, h, e, asAddr, hr]
theorem end_lf {fn : Func} {p q : Tmp} (h : fn.results = #[.cell p 63, .tmp q]) (tmps : Array Value) {w : World} {g : Nat} {y : Lf} (X : Box w g 63 y.arr) (hp : tmps.getD p undef = .pointer (some ⟨g, 0, none⟩)) {v : Value} (hq : tmps.getD q undef = v) :
    (results fn tmps).run Tryz.prog w = .ok (.tuple #[.agg y.arr, v]) w := by
  rw [← hq]
  exact results_two h tmps w g hp y.arr (run_loadVar_row _ g 63 63 y.arr (0, 0) _ X Tryz.underlying63 rfl (info41 _))

set_option maxRecDepth 100000 in
set_option maxHeartbeats 4000000 in
theorem find_any (l : List Lf) (v : Value) (p : ByteArray) (w : World) (hv : RdL w v l) (hl : l.length ≤ 1000000) : Calls Tryz.prog 140 #[v, .string p] w fun e w' => e = .returned (.tuple #[.agg (findL l p.data.toList).1.arr, .bool (findL l p.data.toList).2]) ∧ Below w.heap.size w w' := by
  obtain ⟨w1, hw1⟩ : ∃ z, z = (w.alloc (.cells #[.string ⟨#[]⟩, .bool false, .string ⟨#[]⟩] 63)) := ⟨_, rfl⟩
  have X1 : Hid (Box w1 w.heap.size 63 Lf.nil.arr) := Lib.hid (by rw [hw1]; exact box_new)
  have HB1 : Hid (Below w.heap.size w w1) := Lib.hid (by rw [hw1]; exact below_new _ _)
  have HV := Lib.hid (hv.on HB1.out)
  obtain ⟨b4, hb4⟩ : ∃ z, z = w.heap.size := ⟨_, rfl⟩
  rw [← hb4] at X1
  have H4 : Hid (w.heap.size ≤ b4) := Lib.hid (by rw [hb4]; exact Nat.le_refl _)
  obtain ⟨a, c, rfl, hlc, hcm, _⟩ := hv.open
  obtain ⟨n, hn⟩ : ∃ n, n = l.length := ⟨_, rfl⟩
  rw [← hn] at HV hl hlc ⊢
  have HN := Lib.hid hn
  have hlI : (n : Int) ≤ 1000000 := by omega
  clear hv hn
  have HR : Hid (findL l p.data.toList = match l.find? (fun x => x.p == p.data.toList) with | some x => (x, true) | none => (.nil, false)) := Lib.hid rfl
  go_enter Tryz.func140, Tryz.ntmps140
  go_upto_region 1 with fail
  rw [← hw1, ← hb4]
  clear hw1 hb4
  go_wp2_with fail
  go_loopw [10] (fun i W => ∃ k : Nat, k ≤ n ∧ i = .int .i64 k ∧ Hid (∀ (j : Nat) (x : Lf), l[j]? = some x → j < k → x.p ≠ p.data.toList) ∧ Hid (Below w1.heap.size w1 W)) (fun i _ => n - (Lib.intOf i).toNat)
  case atStart => exact ⟨0, Nat.zero_le _, rfl, Lib.hid (fun j x _ h => absurd h (Nat.not_lt_zero _)), Lib.hid (Below.refl _ _)⟩
  case round =>
    obtain ⟨k, hk, rfl, HLo, HBk⟩ := hrel
    obtain ⟨wq, hwq⟩ : ∃ q, q = wr := ⟨_, rfl⟩
    rw [← hwq] at HBk ⊢
    clear hwq
    by_cases hlt : k < n
    · obtain ⟨x, hx⟩ : ∃ x, l[k]? = some x := ⟨_, List.getElem?_eq_getElem (by rw [← HN.out]; exact hlt)⟩
      obtain ⟨a', c', e, _, _, hc⟩ := (HV.out.on HBk.out).open
      rw [← HN.out] at e
      cases e
      obtain ⟨g, o, rfl, hg, hc⟩ := hc (by rw [← HN.out]; omega)
      obtain ⟨q0, q1, q2⟩ := hc k x hx
      have k1 : (k : Int) < (n : Int) := by omega
      have k2 : (0 : Int) ≤ (k : Int) := by omega
      have k4 : IntKind.i64.wrap ((k : Int) + 1) = (k : Int) + 1 := IntWalk.i64_in _ (by omega)
      obtain ⟨w5, hw5⟩ : ∃ q, q = wq.alloc (.cells #[.string ⟨x.p.toArray⟩, .bool x.dir, .string ⟨x.d.toArray⟩] 63) := ⟨_, rfl⟩
      have X5 : Box w5 wq.heap.size 63 x.arr := by rw [hw5]; exact box_new
      have HB5 : Hid (Below w1.heap.size w1 w5) := Lib.hid (by rw [hw5]; exact bch HBk.out (below_new _ _))
      obtain ⟨d0, d1, d2⟩ := X5.lf
      have HX := Lib.hid hx
      clear hc hx X5
      go_upto_region 4 with fail
      obtain ⟨b7, hb7⟩ : ∃ q, q = wq.heap.size := ⟨_, rfl⟩
      rw [← hb7] at d0 d1 d2 ⊢
      rw [← hw5]
      clear hw5 hb7 q0 q1 q2
      by_cases he : x.p = p.data.toList
      · have t2 : x.p = p.toList := by rw [Lib.toList_data]; exact he
        have t3 : (x.p == p.toList) = true := by simp [t2]
        have HF : Hid (l.find? (fun x => x.p == p.data.toList) = some x) := Lib.hid (by
          rw [List.find?_eq_some_iff_getElem]
          refine ⟨by simp [he], k, (List.getElem?_eq_some_iff.1 HX.out).1, (List.getElem?_eq_some_iff.1 HX.out).2, fun j hj => ?_⟩
          have hjl : j < l.length := Nat.lt_trans hj (List.getElem?_eq_some_iff.1 HX.out).1
          have := HLo.out j (l[j]'hjl) (List.getElem?_eq_getElem hjl) hj
          simpa using this)
        have X7 := Lib.hid (X1.out.on HB5.out)
        have HB7 := Lib.hid (bch HB1.out HB5.out)
        have HXE : Hid (x.arr = Lf.arr ⟨p.toList, x.dir, x.d⟩) := Lib.hid (by rw [← t2])
        clear he
        go_wp2_with (refine wpList_store_row rfl 63 (.tmp 4) (.tmp 18) rfl b4 (Lf.arr ⟨p.toList, x.dir, x.d⟩) rfl rfl 63 _ X7.out (info41 _) rfl (larr_one _) ?_)
        exact bodyPost_ret (end_lf rfl _ (Boxed.row14 X7.out _) rfl rfl) rfl ⟨by rw [HR.out, HF.out]; show _ = Ending.returned (.tuple #[.agg x.arr, .bool true]); rw [HXE.out]; rfl, below_row14 HB7.out H4.out _⟩
      · have t2 : ¬ x.p = p.toList := by rw [Lib.toList_data]; exact he
        have t3 : (x.p == p.toList) = false := by simp [t2]
        have HLo2 : Hid (∀ (j : Nat) (y : Lf), l[j]? = some y → j < k + 1 → y.p ≠ p.data.toList) := Lib.hid (fun j y hj hlt => by
          rcases Nat.lt_or_ge j k with h | h
          · exact HLo.out j y hj h
          · obtain rfl : j = k := by omega
            rw [HX.out] at hj; cases hj; exact he)
        clear he
        go_wp2_with fail
        go_roundw
        case rel => exact ⟨k + 1, hlt, by go_num, HLo2, HB5⟩
        case measure => simp [Lib.intOf]; omega
    · have k1 : ¬ ((k : Int) < (n : Int)) := by omega
      have HF : Hid (l.find? (fun x => x.p == p.data.toList) = none) := Lib.hid (by
        rw [List.find?_eq_none]
        intro x hx
        obtain ⟨j, hj⟩ := List.mem_iff_getElem?.1 hx
        have := HLo.out j x hj (by have := (List.getElem?_eq_some_iff.1 hj).1; rw [← HN.out] at this; omega)
        simpa using this)
      have X7 := Lib.hid (X1.out.on HBk.out)
      have HB7 := Lib.hid (bch HB1.out HBk.out)
      go_wp2_with (first
        | (with_reducible refine wpList_zero rfl 63 rfl Lf.nil.arr zero41 ?_)
        | (refine wpList_store_row rfl 63 (.tmp 4) (.tmp 20) rfl b4 Lf.nil.arr rfl rfl 63 _ X7.out (info41 _) rfl (larr_one _) ?_))
      exact bodyPost_ret (end_lf rfl _ (Boxed.row14 X7.out _) rfl rfl) rfl ⟨by rw [HR.out, HF.out]; rfl, below_row14 HB7.out H4.out _⟩
end Go.Proofs.YtgmplpfbhcdofaaGreat
