/- Proved here: Behind of package version. -/
import Derived.Test.YtjekibhaabkecaaDoorBegin
import Derived.Deep.DeepCutAuto
namespace Go.Proofs.YtjekibhaabkecaaDoor
open Go.RowKit Go.Shelf

/-- A variable of an array's type is made. -/
theorem wpList_zero {P : Program} {ops : Array Oper} {rest : List Oper} {o : Oper} {a : Act} {w : World} {Q : Exit → Act → World → Prop} (hg : o.guard = none) (t : TypeId) (ho : o.op = .alloc t) (cs : Array Value) (hz : (P.info? t).map (·.zero) = some (some (.agg cs)))
    (h : wpList P ops Q rest (a.put o.dst (.pointer (some ⟨w.heap.size, 0, none⟩))) (w.alloc (.cells cs t))) : wpList P ops Q (o :: rest) a w :=
  wpList_plain hg fun _ hK => by
    unfold Oper.wp execOp
    cases hq : P.info? t with
    | none => simp [hq] at hz
    | some i =>
      have hz' : i.zero = some (.agg cs) := by simpa [hq] using hz
      simp [ho, Instr.alloc, zeroValue, typeInfo, hq, hz', newVar, Value.cells]
      exact hK _ _ h

/-- One more at this place. -/
def Ver.incr (v : Ver) (j : Nat) : Ver := ⟨if j = 0 then v.n0 + 1 else v.n0, if j = 1 then v.n1 + 1 else v.n1, if j = 2 then v.n2 + 1 else v.n2, if j = 3 then v.n3 + 1 else v.n3, v.many, v.tag, v.step⟩
/-- What Behind hands back: the version, and the error. -/
def Ver.behind (v : Ver) : Ver × Int := if v.ok = true then (if v.num (v.many.toNat - 1) = 9999 then (Ver.zero, 2) else ((v.first v.many.toNat).incr (v.many.toNat - 1), 0)) else (Ver.zero, 140)

theorem num_first (v : Ver) (k j : Nat) (hj : j < k) (hk : k ≤ 4) : (v.first k).num j = v.num j := by
  rcases (by omega : j = 0 ∨ j = 1 ∨ j = 2 ∨ j = 3) with rfl | rfl | rfl | rfl <;> simp [Ver.num, Ver.first] <;> omega
theorem incr_row (v : Ver) (j : Nat) (hj : j < 4) (x : Int) (hx : x = v.num j + 1) : v.arr.setIfInBounds j (.int .i64 x) = (v.incr j).arr := by
  subst hx
  rcases (by omega : j = 0 ∨ j = 1 ∨ j = 2 ∨ j = 3) with rfl | rfl | rfl | rfl <;> rfl
theorem ok_many {v : Ver} (h : v.ok = true) : 1 ≤ v.many ∧ v.many ≤ 4 := by
  unfold Ver.ok at h
  simp only [Bool.and_eq_true, decide_eq_true_eq] at h
  exact h.1.1
theorem ok_num {v : Ver} (h : v.ok = true) {j : Nat} (hj : j < 4) : 0 ≤ v.num j ∧ v.num j ≤ 9999 := by
  unfold Ver.ok Ver.numsB at h
  simp only [Bool.and_eq_true] at h
  obtain ⟨⟨_, ⟨⟨h0, h1⟩, h2⟩, h3⟩, _⟩ := h
  have f : ∀ {i : Nat} {x : Int}, numB v.many i x = true → 0 ≤ x ∧ x ≤ 9999 := fun hx => ⟨(of_decide_eq_true hx).1, (of_decide_eq_true hx).2.1⟩
  rcases (by omega : j = 0 ∨ j = 1 ∨ j = 2 ∨ j = 3) with rfl | rfl | rfl | rfl
  · exact f h0
  · exact f h1
  · exact f h2
  · exact f h3
theorem begin_q (v : Ver) (k : Nat) (hk : v.many = (k : Int)) (h1 : 1 ≤ k) (h4 : k ≤ 4) (w : World) : Calls Tryd.prog 31 #[.agg v.arr, .int .i64 v.many] w fun e w' => e = .returned (.agg (v.first k).arr) ∧ Below w.heap.size w w' := by
  rw [hk]
  exact begin_any v k h1 h4 w
set_option maxRecDepth 100000 in
theorem zeroV : Tryd.prog.built 26 [] = some Ver.zero.arr := by kernel_rfl
set_option maxRecDepth 100000 in
theorem zero26 : (Tryd.prog.info? 26).map (·.zero) = some (some (.agg Ver.zero.arr)) := by kernel_rfl
theorem ret_beh {v : Ver} {e : Int} {r : Ver × Int} (h : r = (v, e)) : Ending.returned (.tuple #[.agg v.arr, .int .i64 e]) = .returned (.tuple #[.agg r.1.arr, .int .i64 r.2]) := by rw [h]

set_option maxRecDepth 100000 in
theorem builds_none26 {ops : Array Oper} {rest : List Oper} {o : Oper} {a : Act} {w : World} {Q : Exit → Act → World → Prop} (hg : o.guard = none) (ho : o.op = .build 26 #[]) (h : wpList Tryd.prog ops Q rest (a.put o.dst (.agg Ver.zero.arr)) w) : wpList Tryd.prog ops Q (o :: rest) a w := by
  have e : Tryd.prog.built 26 ((#[] : Array (Nat × Operand)).map fun (i, x) => (i, a.eval x)).toList = some Ver.zero.arr := (congrArg (Tryd.prog.built 26) (by simp)).trans zeroV
  exact wpList_build hg 26 #[] ho (by rw [e]; rfl) (by rw [e]; exact h)
/-- Two results: a version out of its variable, and a slot. -/
theorem results_ver {P : Program} {fn : Func} {p q : Tmp} {ty : TypeId} (h : fn.results = #[.cell p ty, .tmp q]) (tmps : Array Value) (w : World) (g : Nat) (hp : tmps.getD p undef = .pointer (some ⟨g, 0, none⟩)) (cs : Array Value) (hr : (loadVar ty ⟨g, 0, none⟩).run P w = .ok (.agg cs) w) :
    (results fn tmps).run P w = .ok (.tuple #[.agg cs, tmps.getD q undef]) w := by
  have e : tmps[p]?.getD undef = .pointer (some ⟨g, 0, none⟩) := by rw [← hp]; simp
  simp [results, h, e, asAddr, hr]

set_option maxRecDepth 100000 in
set_option maxHeartbeats 3000000 in
theorem behind_any (v : Ver) (w : World) : Calls Tryd.prog 14 #[.agg v.arr] w fun e w' => e = .returned (.tuple #[.agg v.behind.1.arr, .int .i64 v.behind.2]) ∧ Below w.heap.size w w' := by
  have X1 : Box ((w.alloc (.cells v.arr 26)).alloc (.cells Ver.zero.arr 26)) w.heap.size 26 v.arr := box_new.alloc _
  have Z1 : Box ((w.alloc (.cells v.arr 26)).alloc (.cells Ver.zero.arr 26)) (w.heap.size + 1) 26 Ver.zero.arr := heap_alloc2_new w _ _
  have B1 : Below w.heap.size w ((w.alloc (.cells v.arr 26)).alloc (.cells Ver.zero.arr 26)) := ((Below.refl w.heap.size w).alloc (Nat.le_refl _) _).alloc (by simp) _
  obtain ⟨o, ho⟩ : ∃ o, o = v.ok := ⟨_, rfl⟩
  have HA := Lib.hid (tells_of ho)
  have HX := Lib.hid X1
  have HO := Lib.hid ho
  clear ho
  cases o with
  | false =>
    have HBB : Hid (v.behind = (Ver.zero, 140)) := Lib.hid (by unfold Ver.behind; rw [if_neg (by rw [← HO.out]; decide)])
    go_enter Tryd.func14, Tryd.ntmps14
    go_wp2_with (first
      | (with_reducible refine wpList_zero rfl 26 rfl Ver.zero.arr zero26 ?_)
      | (refine wpList_load_row rfl 26 (.tmp 1) rfl w.heap.size rfl 26 v.arr (0, 0) _ HX.out Tryd.underlying26 rfl (info26 _) ?_))
    refine (HA.out _).mono ?_
    rintro e w1 ⟨rfl, hb⟩
    have Z2 := Lib.hid (Z1.on hb)
    have B2 := Lib.hid (bch B1 hb)
    clear X1 Z1 B1 hb HX
    go_wp2_with (first
      | (refine builds_none26 rfl rfl ?_)
      | (refine wpList_store_row rfl 26 (.tmp 2) (.tmp 9) rfl (w.heap.size + 1) Ver.zero.arr rfl rfl 26 _ Z2.out (info26 _) rfl (arr_one _) ?_))
    refine bodyPost_ret (results_ver rfl _ _ (w.heap.size + 1) rfl Ver.zero.arr (run_loadVar_row _ (w.heap.size + 1) 26 26 Ver.zero.arr (0, 0) _ (setRow_heap _ _ _ _ _ _ Z2.out) Tryd.underlying26 rfl (info26 _))) rfl ⟨?_, below_row B2.out (by omega) _⟩
    exact ret_beh HBB.out
  | true =>
    obtain ⟨hm1, hm4⟩ := ok_many HO.out.symm
    obtain ⟨k, hk⟩ : ∃ k : Nat, v.many = (k : Int) := ⟨v.many.toNat, by omega⟩
    obtain ⟨j, hj⟩ : ∃ j, k = j + 1 := ⟨k - 1, by omega⟩
    have hj4 : j < 4 := by omega
    have hkn : v.many.toNat = k := by omega
    have hn := ok_num HO.out.symm hj4
    obtain ⟨x, hx⟩ : ∃ x, x = v.num j := ⟨_, rfl⟩
    have HBB : Hid (v.behind = if x = 9999 then (Ver.zero, 2) else ((v.first k).incr j, 0)) := Lib.hid (by
      unfold Ver.behind
      rw [if_pos HO.out.symm, hkn, hj, Nat.add_sub_cancel, hx])
    have HF : Hid (x = (v.first k).num j) := Lib.hid (by rw [hx, num_first v k j (by omega) (by omega)])
    rw [← hx] at hn
    obtain ⟨n1, n2⟩ := hn
    have HQ := Lib.hid (begin_q v k hk (by omega) (by omega))
    have e1 : v.many - 1 = (j : Int) := by omega
    have e2 : IntKind.i64.wrap (j : Int) = (j : Int) := IntWalk.i64_in _ (by omega)
    have j1 : (0 : Int) ≤ (j : Int) := by omega
    have j2 : (j : Int) < 4 := by omega
    have HJ := Lib.hid hj4
    have HXX := Lib.hid hx
    clear hm1 hm4 hk hj hkn hj4 hx
    go_enter Tryd.func14, Tryd.ntmps14
    go_wp2_with (first
      | (with_reducible refine wpList_zero rfl 26 rfl Ver.zero.arr zero26 ?_)
      | (refine wpList_load_row rfl 26 (.tmp 1) rfl w.heap.size rfl 26 v.arr (0, 0) _ HX.out Tryd.underlying26 rfl (info26 _) ?_))
    refine (HA.out _).mono ?_
    rintro e w1 ⟨rfl, hb⟩
    have X2 := Lib.hid (X1.on hb)
    have Z2 := Lib.hid (Z1.on hb)
    have B2 := Lib.hid (bch B1 hb)
    have c4 := X2.out.ver.c4
    have cj := X2.out.ver.num HJ.out
    rw [← HXX.out] at cj
    clear X1 Z1 B1 hb HX
    by_cases h9 : x = 9999
    · have t9 : (x == 9999) = true := by simp [h9]
      have HBC : Hid (v.behind = (Ver.zero, 2)) := Lib.hid (by rw [HBB.out, if_pos h9])
      clear h9
      go_wp2_with (first
        | (refine builds_none26 rfl rfl ?_)
        | (refine wpList_store_row rfl 26 (.tmp 2) (.tmp 18) rfl (w.heap.size + 1) Ver.zero.arr rfl rfl 26 _ Z2.out (info26 _) rfl (arr_one _) ?_))
      refine bodyPost_ret (results_ver rfl _ _ (w.heap.size + 1) rfl Ver.zero.arr (run_loadVar_row _ (w.heap.size + 1) 26 26 Ver.zero.arr (0, 0) _ (setRow_heap _ _ _ _ _ _ Z2.out) Tryd.underlying26 rfl (info26 _))) rfl ⟨?_, below_row B2.out (by omega) _⟩
      exact ret_beh HBC.out
    · have t9 : (x == 9999) = false := by simp [h9]
      have HBC : Hid (v.behind = ((v.first k).incr j, 0)) := Lib.hid (by rw [HBB.out, if_neg h9])
      clear h9
      go_wp2_with (refine wpList_load_row rfl 26 (.tmp 1) rfl w.heap.size rfl 26 v.arr (0, 0) _ X2.out Tryd.underlying26 rfl (info26 _) ?_)
      refine (HQ.out _).mono ?_
      rintro e w2 ⟨rfl, hb⟩
      have Z3 := Lib.hid (Z2.out.on hb)
      have B3 := Lib.hid (bch B2.out hb)
      have l3 := Z3.out.lt
      have Y0 : Hid (Box (w2.alloc (.cells Ver.zero.arr 26)) w2.heap.size 26 Ver.zero.arr) := Lib.hid box_new
      have Y1 : Hid (Box ((w2.alloc (.cells Ver.zero.arr 26)).setRow w2.heap.size (v.first k).arr) w2.heap.size 26 (v.first k).arr) := Lib.hid (Y0.out.row _)
      have Z4 : Hid (Box ((w2.alloc (.cells Ver.zero.arr 26)).setRow w2.heap.size (v.first k).arr) (w.heap.size + 1) 26 Ver.zero.arr) := Lib.hid ((Z3.out.alloc _).far_row (by omega) _)
      have B4 : Hid (Below w.heap.size w ((w2.alloc (.cells Ver.zero.arr 26)).setRow w2.heap.size (v.first k).arr)) := Lib.hid (below_row (B3.out.alloc B3.out.size _) B3.out.size _)
      have l4 : w.heap.size + 1 < w2.heap.size := l3
      obtain ⟨wq, hwq⟩ : ∃ q, q = (w2.alloc (.cells Ver.zero.arr 26)).setRow w2.heap.size (v.first k).arr := ⟨_, rfl⟩
      obtain ⟨g5, hg5⟩ : ∃ q, q = w2.heap.size := ⟨_, rfl⟩
      have Yq : Hid (Box wq g5 26 (v.first k).arr) := Lib.hid (by rw [hwq, hg5]; exact Y1.out)
      have Zq : Hid (Box wq (w.heap.size + 1) 26 Ver.zero.arr) := Lib.hid (by rw [hwq]; exact Z4.out)
      have Bq : Hid (Below w.heap.size w wq) := Lib.hid (by rw [hwq]; exact B4.out)
      have l4' : w.heap.size + 1 < g5 := by rw [hg5]; exact l4
      have d1 : wq.cell? ⟨g5, j, none⟩ = some (.int .i64 x) := by rw [HF.out]; exact Yq.out.ver.num HJ.out
      have f1 : wq.frozen? ⟨g5, j, none⟩ = false := frozen_of_row wq g5 j _ _ Yq.out
      have Ys : Hid (Box (wq.setCell ⟨g5, j, none⟩ (.int .i64 (x + 1))) g5 26 ((v.first k).incr j).arr) := Lib.hid (by
        have := Yq.out.set (k := j) (.int .i64 (x + 1))
        rw [incr_row (v.first k) j HJ.out (x + 1) (by rw [HF.out])] at this
        exact this)
      have Zs : Hid (Box (wq.setCell ⟨g5, j, none⟩ (.int .i64 (x + 1))) (w.heap.size + 1) 26 Ver.zero.arr) := Lib.hid (Zq.out.far (by simp; omega) _)
      have Bs : Hid (Below w.heap.size w (wq.setCell ⟨g5, j, none⟩ (.int .i64 (x + 1)))) := Lib.hid (Bq.out.setCell (p := ⟨g5, j, none⟩) (by show w.heap.size ≤ g5; omega) _)
      have HL4 := Lib.hid l4'
      clear X2 Z2 B2 hb Z3 B3 c4 cj l3 Yq Zq Bq B4 Z4 Y1 l4
      go_upto_region 7 with (first
        | (with_reducible refine wpList_zero rfl 26 rfl Ver.zero.arr zero26 ?_)
        | (refine wpList_store_row rfl 26 (.tmp 5) (.tmp 22) rfl w2.heap.size (v.first k).arr rfl rfl 26 _ Y0.out (info26 _) rfl (arr_one _) ?_))
      rw [← hwq, ← hg5]
      clear hwq hg5 Y0 l4'
      go_wp2_with (first
        | (refine wpList_load_row rfl 26 (.tmp 5) rfl g5 rfl 26 ((v.first k).incr j).arr (0, 0) _ Ys.out Tryd.underlying26 rfl (info26 _) ?_)
        | (refine wpList_store_row rfl 26 (.tmp 2) (.tmp 30) rfl (w.heap.size + 1) ((v.first k).incr j).arr rfl rfl 26 _ Zs.out (info26 _) rfl (arr_one _) ?_))
      refine bodyPost_ret (results_ver rfl _ _ (w.heap.size + 1) rfl ((v.first k).incr j).arr (run_loadVar_row _ (w.heap.size + 1) 26 26 ((v.first k).incr j).arr (0, 0) _ (setRow_heap _ _ _ _ _ _ Zs.out) Tryd.underlying26 rfl (info26 _))) rfl ⟨?_, below_row Bs.out (by omega) _⟩
      exact ret_beh HBC.out
end Go.Proofs.YtjekibhaabkecaaDoor
