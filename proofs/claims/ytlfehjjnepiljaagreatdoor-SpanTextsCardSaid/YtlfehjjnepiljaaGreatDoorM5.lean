/- Proved here: which versions meet a bound: the seven kinds, and meets of package span. | Proved here: which versions a span has: meetsAll, has and Has of package span. | Proved here: readWithin and readBound of package span, wherever the frames stand. | Proved here: readBound of package span, wherever the frames stand. | Proved here: slices.SortFunc by version's compare, at a row of at most twelve versions of the call's own: behind it the row holds the same versions, in order. | Proved here: Sort of package version at a row of at most twelve versions: those that may be, in order. -/
import Derived.StillTailTactics
import Derived.BigRegion
import Derived.Shelf.Small.Bits
import Derived.Test.YtlfehjjnepiljaaGreatDoorM4
import Derived.Test.YtlfehjjnepiljaaGreatDoorM3
import Derived.Test.YtlfehjjnepiljaaGreatDoorM2
import Derived.Test.YtlfehjjnepiljaaGreatDoorM1
namespace Go.Proofs.YtlfehjjnepiljaaGreatDoor
open Go.RowKit Go.Shelf

set_option maxRecDepth 100000 in
set_option maxHeartbeats 1000000 in
theorem is_any (b : Bd) (v : Ver) (w : World) : Calls Tryz.prog 102 #[.agg b.arr, .agg v.arr] w fun e w' => e = .returned (.bool (decide (v = b.ver))) ∧ Below w.heap.size w w' := by
  have X1 : Box ((w.alloc (.cells b.arr 138)).alloc (.cells v.arr 45)) w.heap.size 138 b.arr := box_new.alloc _
  have X2 : Box ((w.alloc (.cells b.arr 138)).alloc (.cells v.arr 45)) (w.heap.size + 1) 45 v.arr := heap_alloc2_new w _ _
  obtain ⟨c0, c1, c2, c3, c4, c5, c6, c7⟩ := X1.bd
  obtain ⟨p0, p1, p2, p3, p4, p5, p6⟩ := X2.ver
  have hB : Hid (Below w.heap.size w ((w.alloc (.cells b.arr 138)).alloc (.cells v.arr 45))) := Lib.hid (((Below.refl w.heap.size w).alloc (Nat.le_refl _) (.cells b.arr 138)).alloc (by simp) (.cells v.arr 45))
  clear X1 X2
  obtain ⟨y, hy⟩ : ∃ y, y = decide (v = b.ver) := ⟨_, rfl⟩
  rw [← hy]
  have eqf : ∀ W, (Op.equalIn 10000 45 (.agg #[.int .i64 v.n0, .int .i64 v.n1, .int .i64 v.n2, .int .i64 v.n3, .int .i64 v.many, .string v.tag, .int .i64 v.step]) (.agg #[.int .i64 b.ver.n0, .int .i64 b.ver.n1, .int .i64 b.ver.n2, .int .i64 b.ver.n3, .int .i64 b.ver.many, .string b.ver.tag, .int .i64 b.ver.step])).run Tryz.prog W = .ok y W := fun W => (eq26 v b.ver W).trans (by rw [hy])
  have hgd : Tryz.prog.eqGuardType Tryz.prog.depth 45 = false := by kernel_rfl
  clear hy
  go_enter Tryz.func102, Tryz.ntmps102
  go_wp2_with fail
  go_ret
  exact ⟨rfl, hB.out⟩

set_option maxRecDepth 100000 in
set_option maxHeartbeats 1000000 in
theorem not_any (b : Bd) (v : Ver) (w : World) : Calls Tryz.prog 103 #[.agg b.arr, .agg v.arr] w fun e w' => e = .returned (.bool (!decide (v = b.ver))) ∧ Below w.heap.size w w' := by
  have X1 : Box ((w.alloc (.cells b.arr 138)).alloc (.cells v.arr 45)) w.heap.size 138 b.arr := box_new.alloc _
  have X2 : Box ((w.alloc (.cells b.arr 138)).alloc (.cells v.arr 45)) (w.heap.size + 1) 45 v.arr := heap_alloc2_new w _ _
  obtain ⟨c0, c1, c2, c3, c4, c5, c6, c7⟩ := X1.bd
  obtain ⟨p0, p1, p2, p3, p4, p5, p6⟩ := X2.ver
  have hB : Hid (Below w.heap.size w ((w.alloc (.cells b.arr 138)).alloc (.cells v.arr 45))) := Lib.hid (((Below.refl w.heap.size w).alloc (Nat.le_refl _) (.cells b.arr 138)).alloc (by simp) (.cells v.arr 45))
  clear X1 X2
  obtain ⟨y, hy⟩ : ∃ y, y = decide (v = b.ver) := ⟨_, rfl⟩
  rw [← hy]
  have hne : ∀ W, (binOp .neq 45 (.agg #[.int .i64 v.n0, .int .i64 v.n1, .int .i64 v.n2, .int .i64 v.n3, .int .i64 v.many, .string v.tag, .int .i64 v.step]) (.agg #[.int .i64 b.ver.n0, .int .i64 b.ver.n1, .int .i64 b.ver.n2, .int .i64 b.ver.n3, .int .i64 b.ver.many, .string b.ver.tag, .int .i64 b.ver.step])).run Tryz.prog W = .ok (.bool (!y)) W := fun W => by
    have e : (Op.equalIn 10000 45 (.agg #[.int .i64 v.n0, .int .i64 v.n1, .int .i64 v.n2, .int .i64 v.n3, .int .i64 v.many, .string v.tag, .int .i64 v.step]) (.agg #[.int .i64 b.ver.n0, .int .i64 b.ver.n1, .int .i64 b.ver.n2, .int .i64 b.ver.n3, .int .i64 b.ver.many, .string b.ver.tag, .int .i64 b.ver.step])).run Tryz.prog W = .ok y W := (eq26 v b.ver W).trans (by rw [hy])
    rw [run_neq_struct, e]
    rfl
  have hgd : Tryz.prog.eqGuardType Tryz.prog.depth 45 = false := by kernel_rfl
  clear hy
  go_enter Tryz.func103, Tryz.ntmps103
  go_wp2_with fail
  go_ret
  exact ⟨rfl, hB.out⟩

set_option maxRecDepth 100000 in
set_option maxHeartbeats 1000000 in
theorem from_any (b : Bd) (v : Ver) (w : World) : Calls Tryz.prog 104 #[.agg b.arr, .agg v.arr] w fun e w' => e = .returned (.bool (decide (cmpW v b.ver ≥ 0))) ∧ Below w.heap.size w w' := by
  have X1 : Box ((w.alloc (.cells b.arr 138)).alloc (.cells v.arr 45)) w.heap.size 138 b.arr := box_new.alloc _
  have X2 : Box ((w.alloc (.cells b.arr 138)).alloc (.cells v.arr 45)) (w.heap.size + 1) 45 v.arr := heap_alloc2_new w _ _
  obtain ⟨c0, c1, c2, c3, c4, c5, c6, c7⟩ := X1.bd
  obtain ⟨p0, p1, p2, p3, p4, p5, p6⟩ := X2.ver
  have hB : Hid (Below w.heap.size w ((w.alloc (.cells b.arr 138)).alloc (.cells v.arr 45))) := Lib.hid (((Below.refl w.heap.size w).alloc (Nat.le_refl _) (.cells b.arr 138)).alloc (by simp) (.cells v.arr 45))
  clear X1 X2
  obtain ⟨y, hy⟩ : ∃ y, y = cmpW v b.ver := ⟨_, rfl⟩
  rw [← hy]
  have HY : Hid (∀ W, Calls Tryz.prog 31 #[.agg v.arr, .agg b.ver.arr] W fun e w' => e = .returned (.int .i64 y) ∧ Below W.heap.size W w') := Lib.hid (fun W => by rw [hy]; exact comparew_any v b.ver W)
  clear hy
  go_enter Tryz.func104, Tryz.ntmps104
  go_wp2_with fail
  refine (HY.out _).mono ?_
  rintro e w1 ⟨rfl, hb⟩
  go_wp2_with fail
  go_ret
  exact ⟨rfl, bch hB.out hb⟩

set_option maxRecDepth 100000 in
set_option maxHeartbeats 1000000 in
theorem over_any (b : Bd) (v : Ver) (w : World) : Calls Tryz.prog 105 #[.agg b.arr, .agg v.arr] w fun e w' => e = .returned (.bool (decide (cmpW v b.ver > 0))) ∧ Below w.heap.size w w' := by
  have X1 : Box ((w.alloc (.cells b.arr 138)).alloc (.cells v.arr 45)) w.heap.size 138 b.arr := box_new.alloc _
  have X2 : Box ((w.alloc (.cells b.arr 138)).alloc (.cells v.arr 45)) (w.heap.size + 1) 45 v.arr := heap_alloc2_new w _ _
  obtain ⟨c0, c1, c2, c3, c4, c5, c6, c7⟩ := X1.bd
  obtain ⟨p0, p1, p2, p3, p4, p5, p6⟩ := X2.ver
  have hB : Hid (Below w.heap.size w ((w.alloc (.cells b.arr 138)).alloc (.cells v.arr 45))) := Lib.hid (((Below.refl w.heap.size w).alloc (Nat.le_refl _) (.cells b.arr 138)).alloc (by simp) (.cells v.arr 45))
  clear X1 X2
  obtain ⟨y, hy⟩ : ∃ y, y = cmpW v b.ver := ⟨_, rfl⟩
  rw [← hy]
  have HY : Hid (∀ W, Calls Tryz.prog 31 #[.agg v.arr, .agg b.ver.arr] W fun e w' => e = .returned (.int .i64 y) ∧ Below W.heap.size W w') := Lib.hid (fun W => by rw [hy]; exact comparew_any v b.ver W)
  clear hy
  go_enter Tryz.func105, Tryz.ntmps105
  go_wp2_with fail
  refine (HY.out _).mono ?_
  rintro e w1 ⟨rfl, hb⟩
  go_wp2_with fail
  go_ret
  exact ⟨rfl, bch hB.out hb⟩

set_option maxRecDepth 100000 in
set_option maxHeartbeats 1000000 in
theorem upto_any (b : Bd) (v : Ver) (w : World) : Calls Tryz.prog 106 #[.agg b.arr, .agg v.arr] w fun e w' => e = .returned (.bool (decide (cmpW v b.ver ≤ 0))) ∧ Below w.heap.size w w' := by
  have X1 : Box ((w.alloc (.cells b.arr 138)).alloc (.cells v.arr 45)) w.heap.size 138 b.arr := box_new.alloc _
  have X2 : Box ((w.alloc (.cells b.arr 138)).alloc (.cells v.arr 45)) (w.heap.size + 1) 45 v.arr := heap_alloc2_new w _ _
  obtain ⟨c0, c1, c2, c3, c4, c5, c6, c7⟩ := X1.bd
  obtain ⟨p0, p1, p2, p3, p4, p5, p6⟩ := X2.ver
  have hB : Hid (Below w.heap.size w ((w.alloc (.cells b.arr 138)).alloc (.cells v.arr 45))) := Lib.hid (((Below.refl w.heap.size w).alloc (Nat.le_refl _) (.cells b.arr 138)).alloc (by simp) (.cells v.arr 45))
  clear X1 X2
  obtain ⟨y, hy⟩ : ∃ y, y = cmpW v b.ver := ⟨_, rfl⟩
  rw [← hy]
  have HY : Hid (∀ W, Calls Tryz.prog 31 #[.agg v.arr, .agg b.ver.arr] W fun e w' => e = .returned (.int .i64 y) ∧ Below W.heap.size W w') := Lib.hid (fun W => by rw [hy]; exact comparew_any v b.ver W)
  clear hy
  go_enter Tryz.func106, Tryz.ntmps106
  go_wp2_with fail
  refine (HY.out _).mono ?_
  rintro e w1 ⟨rfl, hb⟩
  go_wp2_with fail
  go_ret
  exact ⟨rfl, bch hB.out hb⟩

set_option maxRecDepth 100000 in
set_option maxHeartbeats 1000000 in
theorem below_any (b : Bd) (v : Ver) (w : World) : Calls Tryz.prog 107 #[.agg b.arr, .agg v.arr] w fun e w' => e = .returned (.bool (decide (cmpW v b.ver < 0))) ∧ Below w.heap.size w w' := by
  have X1 : Box ((w.alloc (.cells b.arr 138)).alloc (.cells v.arr 45)) w.heap.size 138 b.arr := box_new.alloc _
  have X2 : Box ((w.alloc (.cells b.arr 138)).alloc (.cells v.arr 45)) (w.heap.size + 1) 45 v.arr := heap_alloc2_new w _ _
  obtain ⟨c0, c1, c2, c3, c4, c5, c6, c7⟩ := X1.bd
  obtain ⟨p0, p1, p2, p3, p4, p5, p6⟩ := X2.ver
  have hB : Hid (Below w.heap.size w ((w.alloc (.cells b.arr 138)).alloc (.cells v.arr 45))) := Lib.hid (((Below.refl w.heap.size w).alloc (Nat.le_refl _) (.cells b.arr 138)).alloc (by simp) (.cells v.arr 45))
  clear X1 X2
  obtain ⟨y, hy⟩ : ∃ y, y = cmpW v b.ver := ⟨_, rfl⟩
  rw [← hy]
  have HY : Hid (∀ W, Calls Tryz.prog 31 #[.agg v.arr, .agg b.ver.arr] W fun e w' => e = .returned (.int .i64 y) ∧ Below W.heap.size W w') := Lib.hid (fun W => by rw [hy]; exact comparew_any v b.ver W)
  clear hy
  go_enter Tryz.func107, Tryz.ntmps107
  go_wp2_with fail
  refine (HY.out _).mono ?_
  rintro e w1 ⟨rfl, hb⟩
  go_wp2_with fail
  go_ret
  exact ⟨rfl, bch hB.out hb⟩

set_option maxRecDepth 100000 in
set_option maxHeartbeats 1000000 in
theorem like_any (b : Bd) (v : Ver) (w : World) : Calls Tryz.prog 108 #[.agg b.arr, .agg v.arr] w fun e w' => e = .returned (.bool (v.begins b.ver)) ∧ Below w.heap.size w w' := by
  have X1 : Box ((w.alloc (.cells b.arr 138)).alloc (.cells v.arr 45)) w.heap.size 138 b.arr := box_new.alloc _
  have X2 : Box ((w.alloc (.cells b.arr 138)).alloc (.cells v.arr 45)) (w.heap.size + 1) 45 v.arr := heap_alloc2_new w _ _
  obtain ⟨c0, c1, c2, c3, c4, c5, c6, c7⟩ := X1.bd
  obtain ⟨p0, p1, p2, p3, p4, p5, p6⟩ := X2.ver
  have hB : Hid (Below w.heap.size w ((w.alloc (.cells b.arr 138)).alloc (.cells v.arr 45))) := Lib.hid (((Below.refl w.heap.size w).alloc (Nat.le_refl _) (.cells b.arr 138)).alloc (by simp) (.cells v.arr 45))
  clear X1 X2
  obtain ⟨y, hy⟩ : ∃ y, y = v.begins b.ver := ⟨_, rfl⟩
  rw [← hy]
  have HY : Hid (∀ W, Calls Tryz.prog 128 #[.agg v.arr, .agg b.ver.arr] W fun e w' => e = .returned (.bool y) ∧ Below W.heap.size W w') := Lib.hid (fun W => by rw [hy]; exact begins_any v b.ver W)
  clear hy
  go_enter Tryz.func108, Tryz.ntmps108
  go_wp2_with fail
  refine (HY.out _).mono ?_
  rintro e w1 ⟨rfl, hb⟩
  go_wp2_with fail
  go_ret
  exact ⟨rfl, bch hB.out hb⟩

def kindsA : Array Value := #[.nilFunc, .func (.func 102) #[] #[], .func (.func 103) #[] #[], .func (.func 104) #[] #[], .func (.func 105) #[] #[], .func (.func 106) #[] #[], .func (.func 107) #[] #[], .func (.func 108) #[] #[]]
def kindsZ : Array Value := #[.nilFunc, .nilFunc, .nilFunc, .nilFunc, .nilFunc, .nilFunc, .nilFunc, .nilFunc]
theorem built139 : Tryz.prog.built 139 [(1, .func (.func 102) #[] #[]), (2, .func (.func 103) #[] #[]), (3, .func (.func 104) #[] #[]), (4, .func (.func 105) #[] #[]), (5, .func (.func 106) #[] #[]), (6, .func (.func 107) #[] #[]), (7, .func (.func 108) #[] #[])] = some kindsA := by kernel_rfl
theorem zero139 : (Tryz.prog.info? 139).map (·.zero) = some (some (.agg kindsZ)) := by kernel_rfl
theorem info139 : (Tryz.prog.info? 139).map (·.size) = some kindsA.size := by
  show _ = some 8
  kernel_rfl
theorem kinds_one : kindsA.all (·.oneCell') = true := by
  simp [kindsA, Value.oneCell']
theorem builds139 {ops : Array Oper} {rest : List Oper} {o : Oper} {ac : Act} {w : World} {Q : Exit → Act → World → Prop} (hg : o.guard = none) (ho : o.op = .build 139 #[(1, .func 102), (2, .func 103), (3, .func 104), (4, .func 105), (5, .func 106), (6, .func 107), (7, .func 108)])
    (h : wpList Tryz.prog ops Q rest (ac.put o.dst (.agg kindsA)) w) : wpList Tryz.prog ops Q (o :: rest) ac w := by
  have e : Tryz.prog.built 139 ((#[(1, .func 102), (2, .func 103), (3, .func 104), (4, .func 105), (5, .func 106), (6, .func 107), (7, .func 108)] : Array (Nat × Operand)).map fun (i, x) => (i, ac.eval x)).toList = some kindsA := by
    refine Eq.trans (congrArg (Tryz.prog.built 139) ?_) built139
    simp [Act.eval]
  exact wpList_build hg 139 _ ho (by rw [e]; rfl) (by rw [e]; exact h)

set_option maxRecDepth 100000 in
set_option maxHeartbeats 1000000 in
theorem meets1 (u v : Ver) (w : World) : Calls Tryz.prog 89 #[.agg v.arr, .agg (Bd.arr ⟨1, u⟩)] w fun e w' => e = .returned (.bool (meetsB ⟨1, u⟩ v)) ∧ Below w.heap.size w w' := by
  have X1 : Box ((w.alloc (.cells v.arr 45)).alloc (.cells (Bd.arr ⟨1, u⟩) 57)) w.heap.size 45 v.arr := box_new.alloc _
  have X2 : Box ((w.alloc (.cells v.arr 45)).alloc (.cells (Bd.arr ⟨1, u⟩) 57)) (w.heap.size + 1) 57 (Bd.arr ⟨1, u⟩) := heap_alloc2_new w _ _
  have hB : Hid (Below w.heap.size w ((w.alloc (.cells v.arr 45)).alloc (.cells (Bd.arr ⟨1, u⟩) 57))) := Lib.hid (((Below.refl w.heap.size w).alloc (Nat.le_refl _) (.cells v.arr 45)).alloc (by simp) (.cells (Bd.arr ⟨1, u⟩) 57))
  have HX1 := Lib.hid X1
  have HX2 := Lib.hid X2
  obtain ⟨w1, hw1⟩ : ∃ q, q = (w.alloc (.cells v.arr 45)).alloc (.cells (Bd.arr ⟨1, u⟩) 57) := ⟨_, rfl⟩
  rw [← hw1] at HX1 HX2 hB
  have s1 : w1.heap.size = w.heap.size + 1 + 1 := by rw [hw1]; simp
  have Y0 : Hid (Box (w1.alloc (.cells kindsZ 139)) w1.heap.size 139 kindsZ) := Lib.hid box_new
  obtain ⟨w2, hw2⟩ : ∃ q, q = (w1.alloc (.cells kindsZ 139)).setRow w1.heap.size kindsA := ⟨_, rfl⟩
  have Y2 : Hid (Box w2 w1.heap.size 139 kindsA) := Lib.hid (by rw [hw2]; exact Y0.out.row _)
  have Z1 : Hid (Box w2 w.heap.size 45 v.arr) := Lib.hid (by rw [hw2]; exact (HX1.out.alloc _).far_row (by omega) _)
  have Z2 : Hid (Box w2 (w.heap.size + 1) 57 (Bd.arr ⟨1, u⟩)) := Lib.hid (by rw [hw2]; exact (HX2.out.alloc _).far_row (by omega) _)
  have B2 : Hid (Below w.heap.size w w2) := Lib.hid (by rw [hw2]; exact below_row (hB.out.alloc hB.out.size _) hB.out.size _)
  clear X1 X2
  go_enter Tryz.func89, Tryz.ntmps89
  go_upto_region 1 with fail
  rw [← hw1]
  clear hw1 hB HX1 HX2
  go_upto_region 2 with (first
    | (with_reducible refine wpList_zero rfl 139 rfl kindsZ zero139 ?_)
    | (refine builds139 rfl rfl ?_)
    | (refine wpList_store_row rfl 139 (.tmp 5) (.tmp 6) rfl w1.heap.size kindsA rfl rfl 139 _ Y0.out info139 rfl kinds_one ?_))
  rw [← hw2]
  clear hw2 Y0
  obtain ⟨g2, hg2⟩ : ∃ q, q = w1.heap.size := ⟨_, rfl⟩
  rw [← hg2] at Y2 ⊢
  obtain ⟨wd, hwd⟩ : ∃ q, q = w2.drew := ⟨_, rfl⟩
  obtain ⟨c0, c1, c2, c3, c4, c5, c6, c7⟩ := Z2.out.bd
  obtain ⟨p0, p1, p2, p3, p4, p5, p6⟩ := Z1.out.ver
  have k0 : w2.cell? ⟨g2, 1, none⟩ = some (.func (.func 102) #[] #[]) := Y2.out.cell rfl
  have HE : Hid (meetsB ⟨1, u⟩ v = decide (v = u)) := Lib.hid (by unfold meetsB; simp)
  have BD : Hid (Below w.heap.size w w2.drew) := Lib.hid B2.out.drew
  clear hg2 s1 Z1 Z2 Y2 B2 hwd
  go_still_tail 6, (by kernel_rfl)
  go_wp2_with (go_at_call 102; refine (is_any ⟨1, u⟩ v _).mono ?_; rintro e w' ⟨rfl, hb⟩)
  go_ret
  exact ⟨ret_bool HE.out.symm, bch BD.out hb⟩

set_option maxRecDepth 100000 in
set_option maxHeartbeats 1000000 in
theorem meets2 (u v : Ver) (w : World) : Calls Tryz.prog 89 #[.agg v.arr, .agg (Bd.arr ⟨2, u⟩)] w fun e w' => e = .returned (.bool (meetsB ⟨2, u⟩ v)) ∧ Below w.heap.size w w' := by
  have X1 : Box ((w.alloc (.cells v.arr 45)).alloc (.cells (Bd.arr ⟨2, u⟩) 57)) w.heap.size 45 v.arr := box_new.alloc _
  have X2 : Box ((w.alloc (.cells v.arr 45)).alloc (.cells (Bd.arr ⟨2, u⟩) 57)) (w.heap.size + 1) 57 (Bd.arr ⟨2, u⟩) := heap_alloc2_new w _ _
  have hB : Hid (Below w.heap.size w ((w.alloc (.cells v.arr 45)).alloc (.cells (Bd.arr ⟨2, u⟩) 57))) := Lib.hid (((Below.refl w.heap.size w).alloc (Nat.le_refl _) (.cells v.arr 45)).alloc (by simp) (.cells (Bd.arr ⟨2, u⟩) 57))
  have HX1 := Lib.hid X1
  have HX2 := Lib.hid X2
  obtain ⟨w1, hw1⟩ : ∃ q, q = (w.alloc (.cells v.arr 45)).alloc (.cells (Bd.arr ⟨2, u⟩) 57) := ⟨_, rfl⟩
  rw [← hw1] at HX1 HX2 hB
  have s1 : w1.heap.size = w.heap.size + 1 + 1 := by rw [hw1]; simp
  have Y0 : Hid (Box (w1.alloc (.cells kindsZ 139)) w1.heap.size 139 kindsZ) := Lib.hid box_new
  obtain ⟨w2, hw2⟩ : ∃ q, q = (w1.alloc (.cells kindsZ 139)).setRow w1.heap.size kindsA := ⟨_, rfl⟩
  have Y2 : Hid (Box w2 w1.heap.size 139 kindsA) := Lib.hid (by rw [hw2]; exact Y0.out.row _)
  have Z1 : Hid (Box w2 w.heap.size 45 v.arr) := Lib.hid (by rw [hw2]; exact (HX1.out.alloc _).far_row (by omega) _)
  have Z2 : Hid (Box w2 (w.heap.size + 1) 57 (Bd.arr ⟨2, u⟩)) := Lib.hid (by rw [hw2]; exact (HX2.out.alloc _).far_row (by omega) _)
  have B2 : Hid (Below w.heap.size w w2) := Lib.hid (by rw [hw2]; exact below_row (hB.out.alloc hB.out.size _) hB.out.size _)
  clear X1 X2
  go_enter Tryz.func89, Tryz.ntmps89
  go_upto_region 1 with fail
  rw [← hw1]
  clear hw1 hB HX1 HX2
  go_upto_region 2 with (first
    | (with_reducible refine wpList_zero rfl 139 rfl kindsZ zero139 ?_)
    | (refine builds139 rfl rfl ?_)
    | (refine wpList_store_row rfl 139 (.tmp 5) (.tmp 6) rfl w1.heap.size kindsA rfl rfl 139 _ Y0.out info139 rfl kinds_one ?_))
  rw [← hw2]
  clear hw2 Y0
  obtain ⟨g2, hg2⟩ : ∃ q, q = w1.heap.size := ⟨_, rfl⟩
  rw [← hg2] at Y2 ⊢
  obtain ⟨wd, hwd⟩ : ∃ q, q = w2.drew := ⟨_, rfl⟩
  obtain ⟨c0, c1, c2, c3, c4, c5, c6, c7⟩ := Z2.out.bd
  obtain ⟨p0, p1, p2, p3, p4, p5, p6⟩ := Z1.out.ver
  have k0 : w2.cell? ⟨g2, 2, none⟩ = some (.func (.func 103) #[] #[]) := Y2.out.cell rfl
  have HE : Hid (meetsB ⟨2, u⟩ v = !decide (v = u)) := Lib.hid (by unfold meetsB; simp)
  have BD : Hid (Below w.heap.size w w2.drew) := Lib.hid B2.out.drew
  clear hg2 s1 Z1 Z2 Y2 B2 hwd
  go_still_tail 6, (by kernel_rfl)
  go_wp2_with (go_at_call 103; refine (not_any ⟨2, u⟩ v _).mono ?_; rintro e w' ⟨rfl, hb⟩)
  go_ret
  exact ⟨ret_bool HE.out.symm, bch BD.out hb⟩

set_option maxRecDepth 100000 in
set_option maxHeartbeats 1000000 in
theorem meets3 (u v : Ver) (w : World) : Calls Tryz.prog 89 #[.agg v.arr, .agg (Bd.arr ⟨3, u⟩)] w fun e w' => e = .returned (.bool (meetsB ⟨3, u⟩ v)) ∧ Below w.heap.size w w' := by
  have X1 : Box ((w.alloc (.cells v.arr 45)).alloc (.cells (Bd.arr ⟨3, u⟩) 57)) w.heap.size 45 v.arr := box_new.alloc _
  have X2 : Box ((w.alloc (.cells v.arr 45)).alloc (.cells (Bd.arr ⟨3, u⟩) 57)) (w.heap.size + 1) 57 (Bd.arr ⟨3, u⟩) := heap_alloc2_new w _ _
  have hB : Hid (Below w.heap.size w ((w.alloc (.cells v.arr 45)).alloc (.cells (Bd.arr ⟨3, u⟩) 57))) := Lib.hid (((Below.refl w.heap.size w).alloc (Nat.le_refl _) (.cells v.arr 45)).alloc (by simp) (.cells (Bd.arr ⟨3, u⟩) 57))
  have HX1 := Lib.hid X1
  have HX2 := Lib.hid X2
  obtain ⟨w1, hw1⟩ : ∃ q, q = (w.alloc (.cells v.arr 45)).alloc (.cells (Bd.arr ⟨3, u⟩) 57) := ⟨_, rfl⟩
  rw [← hw1] at HX1 HX2 hB
  have s1 : w1.heap.size = w.heap.size + 1 + 1 := by rw [hw1]; simp
  have Y0 : Hid (Box (w1.alloc (.cells kindsZ 139)) w1.heap.size 139 kindsZ) := Lib.hid box_new
  obtain ⟨w2, hw2⟩ : ∃ q, q = (w1.alloc (.cells kindsZ 139)).setRow w1.heap.size kindsA := ⟨_, rfl⟩
  have Y2 : Hid (Box w2 w1.heap.size 139 kindsA) := Lib.hid (by rw [hw2]; exact Y0.out.row _)
  have Z1 : Hid (Box w2 w.heap.size 45 v.arr) := Lib.hid (by rw [hw2]; exact (HX1.out.alloc _).far_row (by omega) _)
  have Z2 : Hid (Box w2 (w.heap.size + 1) 57 (Bd.arr ⟨3, u⟩)) := Lib.hid (by rw [hw2]; exact (HX2.out.alloc _).far_row (by omega) _)
  have B2 : Hid (Below w.heap.size w w2) := Lib.hid (by rw [hw2]; exact below_row (hB.out.alloc hB.out.size _) hB.out.size _)
  clear X1 X2
  go_enter Tryz.func89, Tryz.ntmps89
  go_upto_region 1 with fail
  rw [← hw1]
  clear hw1 hB HX1 HX2
  go_upto_region 2 with (first
    | (with_reducible refine wpList_zero rfl 139 rfl kindsZ zero139 ?_)
    | (refine builds139 rfl rfl ?_)
    | (refine wpList_store_row rfl 139 (.tmp 5) (.tmp 6) rfl w1.heap.size kindsA rfl rfl 139 _ Y0.out info139 rfl kinds_one ?_))
  rw [← hw2]
  clear hw2 Y0
  obtain ⟨g2, hg2⟩ : ∃ q, q = w1.heap.size := ⟨_, rfl⟩
  rw [← hg2] at Y2 ⊢
  obtain ⟨wd, hwd⟩ : ∃ q, q = w2.drew := ⟨_, rfl⟩
  obtain ⟨c0, c1, c2, c3, c4, c5, c6, c7⟩ := Z2.out.bd
  obtain ⟨p0, p1, p2, p3, p4, p5, p6⟩ := Z1.out.ver
  have k0 : w2.cell? ⟨g2, 3, none⟩ = some (.func (.func 104) #[] #[]) := Y2.out.cell rfl
  have HE : Hid (meetsB ⟨3, u⟩ v = decide (cmpW v u ≥ 0)) := Lib.hid (by unfold meetsB; simp)
  have BD : Hid (Below w.heap.size w w2.drew) := Lib.hid B2.out.drew
  clear hg2 s1 Z1 Z2 Y2 B2 hwd
  go_still_tail 6, (by kernel_rfl)
  go_wp2_with (go_at_call 104; refine (from_any ⟨3, u⟩ v _).mono ?_; rintro e w' ⟨rfl, hb⟩)
  go_ret
  exact ⟨ret_bool HE.out.symm, bch BD.out hb⟩

set_option maxRecDepth 100000 in
set_option maxHeartbeats 1000000 in
theorem meets4 (u v : Ver) (w : World) : Calls Tryz.prog 89 #[.agg v.arr, .agg (Bd.arr ⟨4, u⟩)] w fun e w' => e = .returned (.bool (meetsB ⟨4, u⟩ v)) ∧ Below w.heap.size w w' := by
  have X1 : Box ((w.alloc (.cells v.arr 45)).alloc (.cells (Bd.arr ⟨4, u⟩) 57)) w.heap.size 45 v.arr := box_new.alloc _
  have X2 : Box ((w.alloc (.cells v.arr 45)).alloc (.cells (Bd.arr ⟨4, u⟩) 57)) (w.heap.size + 1) 57 (Bd.arr ⟨4, u⟩) := heap_alloc2_new w _ _
  have hB : Hid (Below w.heap.size w ((w.alloc (.cells v.arr 45)).alloc (.cells (Bd.arr ⟨4, u⟩) 57))) := Lib.hid (((Below.refl w.heap.size w).alloc (Nat.le_refl _) (.cells v.arr 45)).alloc (by simp) (.cells (Bd.arr ⟨4, u⟩) 57))
  have HX1 := Lib.hid X1
  have HX2 := Lib.hid X2
  obtain ⟨w1, hw1⟩ : ∃ q, q = (w.alloc (.cells v.arr 45)).alloc (.cells (Bd.arr ⟨4, u⟩) 57) := ⟨_, rfl⟩
  rw [← hw1] at HX1 HX2 hB
  have s1 : w1.heap.size = w.heap.size + 1 + 1 := by rw [hw1]; simp
  have Y0 : Hid (Box (w1.alloc (.cells kindsZ 139)) w1.heap.size 139 kindsZ) := Lib.hid box_new
  obtain ⟨w2, hw2⟩ : ∃ q, q = (w1.alloc (.cells kindsZ 139)).setRow w1.heap.size kindsA := ⟨_, rfl⟩
  have Y2 : Hid (Box w2 w1.heap.size 139 kindsA) := Lib.hid (by rw [hw2]; exact Y0.out.row _)
  have Z1 : Hid (Box w2 w.heap.size 45 v.arr) := Lib.hid (by rw [hw2]; exact (HX1.out.alloc _).far_row (by omega) _)
  have Z2 : Hid (Box w2 (w.heap.size + 1) 57 (Bd.arr ⟨4, u⟩)) := Lib.hid (by rw [hw2]; exact (HX2.out.alloc _).far_row (by omega) _)
  have B2 : Hid (Below w.heap.size w w2) := Lib.hid (by rw [hw2]; exact below_row (hB.out.alloc hB.out.size _) hB.out.size _)
  clear X1 X2
  go_enter Tryz.func89, Tryz.ntmps89
  go_upto_region 1 with fail
  rw [← hw1]
  clear hw1 hB HX1 HX2
  go_upto_region 2 with (first
    | (with_reducible refine wpList_zero rfl 139 rfl kindsZ zero139 ?_)
    | (refine builds139 rfl rfl ?_)
    | (refine wpList_store_row rfl 139 (.tmp 5) (.tmp 6) rfl w1.heap.size kindsA rfl rfl 139 _ Y0.out info139 rfl kinds_one ?_))
  rw [← hw2]
  clear hw2 Y0
  obtain ⟨g2, hg2⟩ : ∃ q, q = w1.heap.size := ⟨_, rfl⟩
  rw [← hg2] at Y2 ⊢
  obtain ⟨wd, hwd⟩ : ∃ q, q = w2.drew := ⟨_, rfl⟩
  obtain ⟨c0, c1, c2, c3, c4, c5, c6, c7⟩ := Z2.out.bd
  obtain ⟨p0, p1, p2, p3, p4, p5, p6⟩ := Z1.out.ver
  have k0 : w2.cell? ⟨g2, 4, none⟩ = some (.func (.func 105) #[] #[]) := Y2.out.cell rfl
  have HE : Hid (meetsB ⟨4, u⟩ v = decide (cmpW v u > 0)) := Lib.hid (by unfold meetsB; simp)
  have BD : Hid (Below w.heap.size w w2.drew) := Lib.hid B2.out.drew
  clear hg2 s1 Z1 Z2 Y2 B2 hwd
  go_still_tail 6, (by kernel_rfl)
  go_wp2_with (go_at_call 105; refine (over_any ⟨4, u⟩ v _).mono ?_; rintro e w' ⟨rfl, hb⟩)
  go_ret
  exact ⟨ret_bool HE.out.symm, bch BD.out hb⟩

set_option maxRecDepth 100000 in
set_option maxHeartbeats 1000000 in
theorem meets5 (u v : Ver) (w : World) : Calls Tryz.prog 89 #[.agg v.arr, .agg (Bd.arr ⟨5, u⟩)] w fun e w' => e = .returned (.bool (meetsB ⟨5, u⟩ v)) ∧ Below w.heap.size w w' := by
  have X1 : Box ((w.alloc (.cells v.arr 45)).alloc (.cells (Bd.arr ⟨5, u⟩) 57)) w.heap.size 45 v.arr := box_new.alloc _
  have X2 : Box ((w.alloc (.cells v.arr 45)).alloc (.cells (Bd.arr ⟨5, u⟩) 57)) (w.heap.size + 1) 57 (Bd.arr ⟨5, u⟩) := heap_alloc2_new w _ _
  have hB : Hid (Below w.heap.size w ((w.alloc (.cells v.arr 45)).alloc (.cells (Bd.arr ⟨5, u⟩) 57))) := Lib.hid (((Below.refl w.heap.size w).alloc (Nat.le_refl _) (.cells v.arr 45)).alloc (by simp) (.cells (Bd.arr ⟨5, u⟩) 57))
  have HX1 := Lib.hid X1
  have HX2 := Lib.hid X2
  obtain ⟨w1, hw1⟩ : ∃ q, q = (w.alloc (.cells v.arr 45)).alloc (.cells (Bd.arr ⟨5, u⟩) 57) := ⟨_, rfl⟩
  rw [← hw1] at HX1 HX2 hB
  have s1 : w1.heap.size = w.heap.size + 1 + 1 := by rw [hw1]; simp
  have Y0 : Hid (Box (w1.alloc (.cells kindsZ 139)) w1.heap.size 139 kindsZ) := Lib.hid box_new
  obtain ⟨w2, hw2⟩ : ∃ q, q = (w1.alloc (.cells kindsZ 139)).setRow w1.heap.size kindsA := ⟨_, rfl⟩
  have Y2 : Hid (Box w2 w1.heap.size 139 kindsA) := Lib.hid (by rw [hw2]; exact Y0.out.row _)
  have Z1 : Hid (Box w2 w.heap.size 45 v.arr) := Lib.hid (by rw [hw2]; exact (HX1.out.alloc _).far_row (by omega) _)
  have Z2 : Hid (Box w2 (w.heap.size + 1) 57 (Bd.arr ⟨5, u⟩)) := Lib.hid (by rw [hw2]; exact (HX2.out.alloc _).far_row (by omega) _)
  have B2 : Hid (Below w.heap.size w w2) := Lib.hid (by rw [hw2]; exact below_row (hB.out.alloc hB.out.size _) hB.out.size _)
  clear X1 X2
  go_enter Tryz.func89, Tryz.ntmps89
  go_upto_region 1 with fail
  rw [← hw1]
  clear hw1 hB HX1 HX2
  go_upto_region 2 with (first
    | (with_reducible refine wpList_zero rfl 139 rfl kindsZ zero139 ?_)
    | (refine builds139 rfl rfl ?_)
    | (refine wpList_store_row rfl 139 (.tmp 5) (.tmp 6) rfl w1.heap.size kindsA rfl rfl 139 _ Y0.out info139 rfl kinds_one ?_))
  rw [← hw2]
  clear hw2 Y0
  obtain ⟨g2, hg2⟩ : ∃ q, q = w1.heap.size := ⟨_, rfl⟩
  rw [← hg2] at Y2 ⊢
  obtain ⟨wd, hwd⟩ : ∃ q, q = w2.drew := ⟨_, rfl⟩
  obtain ⟨c0, c1, c2, c3, c4, c5, c6, c7⟩ := Z2.out.bd
  obtain ⟨p0, p1, p2, p3, p4, p5, p6⟩ := Z1.out.ver
  have k0 : w2.cell? ⟨g2, 5, none⟩ = some (.func (.func 106) #[] #[]) := Y2.out.cell rfl
  have HE : Hid (meetsB ⟨5, u⟩ v = decide (cmpW v u ≤ 0)) := Lib.hid (by unfold meetsB; simp)
  have BD : Hid (Below w.heap.size w w2.drew) := Lib.hid B2.out.drew
  clear hg2 s1 Z1 Z2 Y2 B2 hwd
  go_still_tail 6, (by kernel_rfl)
  go_wp2_with (go_at_call 106; refine (upto_any ⟨5, u⟩ v _).mono ?_; rintro e w' ⟨rfl, hb⟩)
  go_ret
  exact ⟨ret_bool HE.out.symm, bch BD.out hb⟩

set_option maxRecDepth 100000 in
set_option maxHeartbeats 1000000 in
theorem meets6 (u v : Ver) (w : World) : Calls Tryz.prog 89 #[.agg v.arr, .agg (Bd.arr ⟨6, u⟩)] w fun e w' => e = .returned (.bool (meetsB ⟨6, u⟩ v)) ∧ Below w.heap.size w w' := by
  have X1 : Box ((w.alloc (.cells v.arr 45)).alloc (.cells (Bd.arr ⟨6, u⟩) 57)) w.heap.size 45 v.arr := box_new.alloc _
  have X2 : Box ((w.alloc (.cells v.arr 45)).alloc (.cells (Bd.arr ⟨6, u⟩) 57)) (w.heap.size + 1) 57 (Bd.arr ⟨6, u⟩) := heap_alloc2_new w _ _
  have hB : Hid (Below w.heap.size w ((w.alloc (.cells v.arr 45)).alloc (.cells (Bd.arr ⟨6, u⟩) 57))) := Lib.hid (((Below.refl w.heap.size w).alloc (Nat.le_refl _) (.cells v.arr 45)).alloc (by simp) (.cells (Bd.arr ⟨6, u⟩) 57))
  have HX1 := Lib.hid X1
  have HX2 := Lib.hid X2
  obtain ⟨w1, hw1⟩ : ∃ q, q = (w.alloc (.cells v.arr 45)).alloc (.cells (Bd.arr ⟨6, u⟩) 57) := ⟨_, rfl⟩
  rw [← hw1] at HX1 HX2 hB
  have s1 : w1.heap.size = w.heap.size + 1 + 1 := by rw [hw1]; simp
  have Y0 : Hid (Box (w1.alloc (.cells kindsZ 139)) w1.heap.size 139 kindsZ) := Lib.hid box_new
  obtain ⟨w2, hw2⟩ : ∃ q, q = (w1.alloc (.cells kindsZ 139)).setRow w1.heap.size kindsA := ⟨_, rfl⟩
  have Y2 : Hid (Box w2 w1.heap.size 139 kindsA) := Lib.hid (by rw [hw2]; exact Y0.out.row _)
  have Z1 : Hid (Box w2 w.heap.size 45 v.arr) := Lib.hid (by rw [hw2]; exact (HX1.out.alloc _).far_row (by omega) _)
  have Z2 : Hid (Box w2 (w.heap.size + 1) 57 (Bd.arr ⟨6, u⟩)) := Lib.hid (by rw [hw2]; exact (HX2.out.alloc _).far_row (by omega) _)
  have B2 : Hid (Below w.heap.size w w2) := Lib.hid (by rw [hw2]; exact below_row (hB.out.alloc hB.out.size _) hB.out.size _)
  clear X1 X2
  go_enter Tryz.func89, Tryz.ntmps89
  go_upto_region 1 with fail
  rw [← hw1]
  clear hw1 hB HX1 HX2
  go_upto_region 2 with (first
    | (with_reducible refine wpList_zero rfl 139 rfl kindsZ zero139 ?_)
    | (refine builds139 rfl rfl ?_)
    | (refine wpList_store_row rfl 139 (.tmp 5) (.tmp 6) rfl w1.heap.size kindsA rfl rfl 139 _ Y0.out info139 rfl kinds_one ?_))
  rw [← hw2]
  clear hw2 Y0
  obtain ⟨g2, hg2⟩ : ∃ q, q = w1.heap.size := ⟨_, rfl⟩
  rw [← hg2] at Y2 ⊢
  obtain ⟨wd, hwd⟩ : ∃ q, q = w2.drew := ⟨_, rfl⟩
  obtain ⟨c0, c1, c2, c3, c4, c5, c6, c7⟩ := Z2.out.bd
  obtain ⟨p0, p1, p2, p3, p4, p5, p6⟩ := Z1.out.ver
  have k0 : w2.cell? ⟨g2, 6, none⟩ = some (.func (.func 107) #[] #[]) := Y2.out.cell rfl
  have HE : Hid (meetsB ⟨6, u⟩ v = decide (cmpW v u < 0)) := Lib.hid (by unfold meetsB; simp)
  have BD : Hid (Below w.heap.size w w2.drew) := Lib.hid B2.out.drew
  clear hg2 s1 Z1 Z2 Y2 B2 hwd
  go_still_tail 6, (by kernel_rfl)
  go_wp2_with (go_at_call 107; refine (below_any ⟨6, u⟩ v _).mono ?_; rintro e w' ⟨rfl, hb⟩)
  go_ret
  exact ⟨ret_bool HE.out.symm, bch BD.out hb⟩

set_option maxRecDepth 100000 in
set_option maxHeartbeats 1000000 in
theorem meets7 (u v : Ver) (w : World) : Calls Tryz.prog 89 #[.agg v.arr, .agg (Bd.arr ⟨7, u⟩)] w fun e w' => e = .returned (.bool (meetsB ⟨7, u⟩ v)) ∧ Below w.heap.size w w' := by
  have X1 : Box ((w.alloc (.cells v.arr 45)).alloc (.cells (Bd.arr ⟨7, u⟩) 57)) w.heap.size 45 v.arr := box_new.alloc _
  have X2 : Box ((w.alloc (.cells v.arr 45)).alloc (.cells (Bd.arr ⟨7, u⟩) 57)) (w.heap.size + 1) 57 (Bd.arr ⟨7, u⟩) := heap_alloc2_new w _ _
  have hB : Hid (Below w.heap.size w ((w.alloc (.cells v.arr 45)).alloc (.cells (Bd.arr ⟨7, u⟩) 57))) := Lib.hid (((Below.refl w.heap.size w).alloc (Nat.le_refl _) (.cells v.arr 45)).alloc (by simp) (.cells (Bd.arr ⟨7, u⟩) 57))
  have HX1 := Lib.hid X1
  have HX2 := Lib.hid X2
  obtain ⟨w1, hw1⟩ : ∃ q, q = (w.alloc (.cells v.arr 45)).alloc (.cells (Bd.arr ⟨7, u⟩) 57) := ⟨_, rfl⟩
  rw [← hw1] at HX1 HX2 hB
  have s1 : w1.heap.size = w.heap.size + 1 + 1 := by rw [hw1]; simp
  have Y0 : Hid (Box (w1.alloc (.cells kindsZ 139)) w1.heap.size 139 kindsZ) := Lib.hid box_new
  obtain ⟨w2, hw2⟩ : ∃ q, q = (w1.alloc (.cells kindsZ 139)).setRow w1.heap.size kindsA := ⟨_, rfl⟩
  have Y2 : Hid (Box w2 w1.heap.size 139 kindsA) := Lib.hid (by rw [hw2]; exact Y0.out.row _)
  have Z1 : Hid (Box w2 w.heap.size 45 v.arr) := Lib.hid (by rw [hw2]; exact (HX1.out.alloc _).far_row (by omega) _)
  have Z2 : Hid (Box w2 (w.heap.size + 1) 57 (Bd.arr ⟨7, u⟩)) := Lib.hid (by rw [hw2]; exact (HX2.out.alloc _).far_row (by omega) _)
  have B2 : Hid (Below w.heap.size w w2) := Lib.hid (by rw [hw2]; exact below_row (hB.out.alloc hB.out.size _) hB.out.size _)
  clear X1 X2
  go_enter Tryz.func89, Tryz.ntmps89
  go_upto_region 1 with fail
  rw [← hw1]
  clear hw1 hB HX1 HX2
  go_upto_region 2 with (first
    | (with_reducible refine wpList_zero rfl 139 rfl kindsZ zero139 ?_)
    | (refine builds139 rfl rfl ?_)
    | (refine wpList_store_row rfl 139 (.tmp 5) (.tmp 6) rfl w1.heap.size kindsA rfl rfl 139 _ Y0.out info139 rfl kinds_one ?_))
  rw [← hw2]
  clear hw2 Y0
  obtain ⟨g2, hg2⟩ : ∃ q, q = w1.heap.size := ⟨_, rfl⟩
  rw [← hg2] at Y2 ⊢
  obtain ⟨wd, hwd⟩ : ∃ q, q = w2.drew := ⟨_, rfl⟩
  obtain ⟨c0, c1, c2, c3, c4, c5, c6, c7⟩ := Z2.out.bd
  obtain ⟨p0, p1, p2, p3, p4, p5, p6⟩ := Z1.out.ver
  have k0 : w2.cell? ⟨g2, 7, none⟩ = some (.func (.func 108) #[] #[]) := Y2.out.cell rfl
  have HE : Hid (meetsB ⟨7, u⟩ v = v.begins u) := Lib.hid (by unfold meetsB; simp)
  have BD : Hid (Below w.heap.size w w2.drew) := Lib.hid B2.out.drew
  clear hg2 s1 Z1 Z2 Y2 B2 hwd
  go_still_tail 6, (by kernel_rfl)
  go_wp2_with (go_at_call 108; refine (like_any ⟨7, u⟩ v _).mono ?_; rintro e w' ⟨rfl, hb⟩)
  go_ret
  exact ⟨ret_bool HE.out.symm, bch BD.out hb⟩

theorem meets_any (b : Bd) (v : Ver) (hb : 1 ≤ b.kind ∧ b.kind ≤ 7) (w : World) : Calls Tryz.prog 89 #[.agg v.arr, .agg b.arr] w fun e w' => e = .returned (.bool (meetsB b v)) ∧ Below w.heap.size w w' := by
  obtain ⟨k, u⟩ := b
  simp only at hb
  rcases (by omega : k = 1 ∨ k = 2 ∨ k = 3 ∨ k = 4 ∨ k = 5 ∨ k = 6 ∨ k = 7) with rfl | rfl | rfl | rfl | rfl | rfl | rfl
  · exact meets1 u v w
  · exact meets2 u v w
  · exact meets3 u v w
  · exact meets4 u v w
  · exact meets5 u v w
  · exact meets6 u v w
  · exact meets7 u v w
end Go.Proofs.YtlfehjjnepiljaaGreatDoor

namespace Go.Proofs.YtlfehjjnepiljaaGreatDoor
open Go.RowKit Go.Shelf

def Kinds (l : List Bd) : Prop := ∀ b ∈ l, 1 ≤ b.kind ∧ b.kind ≤ 7
theorem kinds_ok {l : List Bd} (h : ∀ b ∈ l, b.ok = true) : Kinds l := fun b hb => (bd_ok (h b hb)).1
theorem kinds_span {r : List (List Bd)} (h : spanOk r = true) : ∀ l ∈ r, Kinds l := fun l hl => kinds_ok (row_ok ((span_ok h).2 l hl)).2
def Meets (b : Bd) (v : Ver) (o : Bool) : Prop := ∀ W, Calls Tryz.prog 89 #[.agg v.arr, .agg b.arr] W fun e w' => e = .returned (.bool o) ∧ Below W.heap.size W w'
theorem meets_of {b : Bd} {v : Ver} {o : Bool} (h : o = meetsB b v) (hb : 1 ≤ b.kind ∧ b.kind ≤ 7) : Meets b v o := fun W => by
  rw [h]; exact meets_any b v hb W
theorem meetsL_no {l : List Bd} {v : Ver} {b : Bd} (hb : b ∈ l) (h : meetsB b v = false) : meetsL l v = false := by
  unfold meetsL
  rw [List.all_eq_false]
  exact ⟨b, hb, by rw [h]; decide⟩
theorem meetsL_yes {l : List Bd} {v : Ver} (h : ∀ (j : Nat) (b : Bd), l[j]? = some b → meetsB b v = true) : meetsL l v = true := by
  unfold meetsL
  refine List.all_eq_true.2 fun b hb => ?_
  obtain ⟨j, hj⟩ := List.mem_iff_getElem?.1 hb
  exact h j b hj

set_option maxRecDepth 100000 in
set_option maxHeartbeats 2000000 in
theorem meetsAll_any (l : List Bd) (v : Ver) (x : Value) (w : World) (hx : RdB w x l) (hk : Kinds l) : Calls Tryz.prog 69 #[.agg v.arr, x] w fun e w' => e = .returned (.bool (meetsL l v)) ∧ Below w.heap.size w w' := by
  obtain ⟨a, c, rfl, hlc, hcm, hcell⟩ := hx.open
  have HC := Lib.hid hcell
  have HKD := Lib.hid hk
  obtain ⟨n, hn⟩ : ∃ n, n = l.length := ⟨_, rfl⟩
  rw [← hn] at hlc HC ⊢
  have HN := Lib.hid hn
  unfold maxLen at hcm
  have X0 : Hid (Box (w.alloc (.cells v.arr 45)) w.heap.size 45 v.arr) := Lib.hid box_new
  have B0 := Lib.hid (below_new w (.cells v.arr 45))
  clear hn hcell hx hk
  go_enter Tryz.func69, Tryz.ntmps69
  go_wp2_with fail
  go_loopw [6, 9, 10, 11, 12, 13, 14, 15, 16, 17] (fun _ i _ _ _ _ _ _ _ _ W => ∃ k : Nat, k ≤ n ∧ i = .int .i64 k ∧ Hid (∀ (j : Nat) (b : Bd), j < k → l[j]? = some b → meetsB b v = true) ∧ Hid (Box W w.heap.size 45 v.arr) ∧ Hid (Below w.heap.size w W)) (fun _ i _ _ _ _ _ _ _ _ _ => n - (Lib.intOf i).toNat)
  case atStart => exact ⟨0, Nat.zero_le _, rfl, Lib.hid (fun j l h => absurd h (Nat.not_lt_zero _)), X0, B0⟩
  case round =>
    clear X0 B0
    obtain ⟨k, hk, rfl, HK, X0, HB⟩ := hrel
    obtain ⟨wo, hwo⟩ : ∃ q, q = wr := ⟨_, rfl⟩
    rw [← hwo] at HB X0 ⊢
    clear hwo
    by_cases hlt : k < n
    · obtain ⟨b, hb⟩ : ∃ v, l[k]? = some v := ⟨_, List.getElem?_eq_getElem (by have := HN.out; omega)⟩
      obtain ⟨g2, o2, rfl, hg2, hc2⟩ := HC.out (by omega)
      obtain ⟨q0, q1, q2, q3, q4, q5, q6, q7⟩ := (hc2 k b hb).on hg2 HB.out
      have k1 : (k : Int) < (n : Int) := by omega
      have k2 : (0 : Int) ≤ (k : Int) := by omega
      have k4 : IntKind.i64.wrap ((k : Int) + 1) = (k : Int) + 1 := IntWalk.i64_in _ (by omega)
      have HBB := Lib.hid hb
      obtain ⟨ok, hok⟩ : ∃ ok, ok = meetsB b v := ⟨_, rfl⟩
      have HT := Lib.hid (meets_of hok (HKD.out b (List.mem_of_getElem? hb)))
      have HOK := Lib.hid hok
      have Y0 : Hid (Box (wo.alloc (.cells Bd.zero.arr 57)) wo.heap.size 57 Bd.zero.arr) := Lib.hid box_new
      obtain ⟨w2, hw2⟩ : ∃ q, q = (wo.alloc (.cells Bd.zero.arr 57)).setRow wo.heap.size b.arr := ⟨_, rfl⟩
      have Y2 : Hid (Box w2 wo.heap.size 57 b.arr) := Lib.hid (by rw [hw2]; exact Y0.out.row _)
      have b2 : Below wo.heap.size wo w2 := by rw [hw2]; exact below_row ((Below.refl _ _).alloc (Nat.le_refl _) _) (Nat.le_refl _) _
      have X2 := Lib.hid (X0.out.on b2)
      have B2 : Hid (Below w.heap.size w w2) := Lib.hid (bch HB.out b2)
      clear hb hok hc2 b2
      go_upto_region 4 with (first
        | (with_reducible refine wpList_zero rfl 57 rfl Bd.zero.arr zero57 ?_)
        | (refine wpList_store_row rfl 57 (.tmp 6) (.tmp 12) rfl wo.heap.size b.arr rfl rfl 57 _ Y0.out (info57 _) rfl (barr_one _) ?_))
      rw [← hw2]
      clear hw2 Y0 q0 q1 q2 q3 q4 q5 q6 q7 HB X0
      go_wp2_with (first
        | (refine wpList_load_row rfl 57 (.tmp 6) rfl wo.heap.size rfl 57 b.arr (0, 0) _ Y2.out Tryz.underlying57 rfl (info57 _) ?_)
        | (refine wpList_load_row rfl 45 (.tmp 2) rfl w.heap.size rfl 45 v.arr (0, 0) _ X2.out Tryz.underlying45 rfl (info26 _) ?_))
      refine (HT.out _).mono ?_
      rintro e w3 ⟨rfl, hb⟩
      have B3 := Lib.hid (bch B2.out hb)
      have X3 := Lib.hid (X2.out.on hb)
      clear X2 Y2 B2 HT hb
      cases ok with
      | true =>
        go_wp2_with fail
        go_roundw
        case rel =>
          refine ⟨k + 1, hlt, by go_num, Lib.hid (fun t y ht hy => ?_), X3, B3⟩
          by_cases htj : t < k
          · exact HK.out t y htj hy
          · obtain rfl : t = k := by omega
            obtain rfl := Option.some.inj (HBB.out.symm.trans hy)
            exact HOK.out.symm
        case measure => simp [Lib.intOf]; omega
      | false =>
        have HE : Hid (meetsL l v = false) := Lib.hid (meetsL_no (List.mem_of_getElem? HBB.out) HOK.out.symm)
        go_wp2_with fail
        go_ret
        exact ⟨ret_bool HE.out.symm, B3.out⟩
    · have k1 : ¬ ((k : Int) < (n : Int)) := by omega
      have HE : Hid (meetsL l v = true) := Lib.hid (meetsL_yes (fun j b hj => HK.out j b (by have := (List.getElem?_eq_some_iff.1 hj).1; have := HN.out; omega) hj))
      go_wp2_with fail
      go_ret
      exact ⟨ret_bool HE.out.symm, HB.out⟩

set_option maxRecDepth 100000 in
set_option maxHeartbeats 1000000 in
theorem hasf_any (l : List Bd) (v : Ver) (x : Value) (gv : Nat) (w : World) (hv : Box w gv 45 v.arr) (hx : RdB w x l) (hk : Kinds l) : Calls Tryz.prog 68 #[x, .pointer (some ⟨gv, 0, none⟩)] w fun e w' => e = .returned (.bool (meetsL l v)) ∧ Below w.heap.size w w' := by
  have HM := Lib.hid (meetsAll_any l v x w hx hk)
  have HV := Lib.hid hv
  obtain ⟨a, c, rfl, _⟩ := hx.open
  clear hv hx hk
  go_enter Tryz.func68, Tryz.ntmps68
  go_wp2_with (refine wpList_load_row rfl 45 (.tmp 1) rfl gv rfl 45 v.arr (0, 0) _ HV.out Tryz.underlying45 rfl (info26 _) ?_)
  refine HM.out.mono ?_
  rintro e w1 ⟨rfl, hb⟩
  go_wp2_with fail
  go_ret
  exact ⟨rfl, hb⟩
def HasF (o : Bool) (x : Value) (gv : Nat) (W : World) : Prop := Calls Tryz.prog 68 #[x, .pointer (some ⟨gv, 0, none⟩)] W fun e w' => e = .returned (.bool o) ∧ Below W.heap.size W w'
theorem hasf_of {l : List Bd} {v : Ver} {o : Bool} {x : Value} {gv : Nat} {W : World} (h : o = meetsL l v) (hv : Box W gv 45 v.arr) (hx : RdB W x l) (hk : Kinds l) : HasF o x gv W := by
  unfold HasF
  rw [h]; exact hasf_any l v x gv W hv hx hk
theorem hasL_yes {r : List (List Bd)} {v : Ver} {l : List Bd} (hl : l ∈ r) (h : meetsL l v = true) : hasL r v = true := by
  unfold hasL
  exact List.any_eq_true.2 ⟨l, hl, h⟩
theorem hasL_no {r : List (List Bd)} {v : Ver} (h : ∀ (j : Nat) (l : List Bd), r[j]? = some l → meetsL l v = false) : hasL r v = false := by
  unfold hasL
  rw [List.any_eq_false]
  intro l hl
  obtain ⟨j, hj⟩ := List.mem_iff_getElem?.1 hl
  rw [h j l hj]
  decide
def IndexR (ls : List (List Bd)) (v : Ver) (w : World) (e : Ending) (w' : World) : Prop := ∃ i : Int, e = .returned (.int .i64 i) ∧ decide (i ≥ 0) = hasL ls v ∧ Below w.heap.size w w'

set_option maxRecDepth 100000 in
set_option maxHeartbeats 2000000 in
theorem indexf_any (ls : List (List Bd)) (v : Ver) (x : Value) (gv : Nat) (w : World) (hv : Box w gv 45 v.arr) (hx : RdR w x ls) (hk : ∀ l ∈ ls, Kinds l) : Calls Tryz.prog 88 #[x, .func (.func 68) #[] #[.pointer (some ⟨gv, 0, none⟩)]] w (IndexR ls v w) := by
  obtain ⟨a, c, rfl, hlc, hcm, hcell⟩ := hx.open
  have HC := Lib.hid hcell
  have HKD := Lib.hid hk
  have HV := Lib.hid hv
  obtain ⟨n, hn⟩ : ∃ n, n = ls.length := ⟨_, rfl⟩
  rw [← hn] at hlc HC ⊢
  have HN := Lib.hid hn
  unfold maxLen at hcm
  clear hn hcell hx hk hv
  go_enter Tryz.func88, Tryz.ntmps88
  go_wp2_with fail
  go_loopw [5, 8, 9, 10, 11, 12, 13, 14, 15, 16, 17, 18] (fun _ i _ _ _ _ _ _ _ _ _ _ W => ∃ k : Nat, k ≤ n ∧ i = .int .i64 k ∧ Hid (∀ (j : Nat) (l : List Bd), j < k → ls[j]? = some l → meetsL l v = false) ∧ Hid (Below w.heap.size w W)) (fun _ i _ _ _ _ _ _ _ _ _ _ _ => n - (Lib.intOf i).toNat)
  case atStart => exact ⟨0, Nat.zero_le _, rfl, Lib.hid (fun j l h => absurd h (Nat.not_lt_zero _)), Lib.hid (Below.refl _ _)⟩
  case round =>
    obtain ⟨k, hk, rfl, HK, HB⟩ := hrel
    obtain ⟨wo, hwo⟩ : ∃ q, q = wr := ⟨_, rfl⟩
    rw [← hwo] at HB ⊢
    clear hwo
    by_cases hlt : k < n
    · obtain ⟨l, hl⟩ : ∃ v, ls[k]? = some v := ⟨_, List.getElem?_eq_getElem (by have := HN.out; omega)⟩
      obtain ⟨g, o, rfl, hg, hc⟩ := HC.out (by omega)
      obtain ⟨y, hy, hr⟩ := hc k l hl
      have r0 := (HB.out.cell (p := ⟨g, _, none⟩) hg).trans hy
      have HRB := hr.on HB.out
      obtain ⟨a2, c2, rfl, _⟩ := hr.open
      have k1 : (k : Int) < (n : Int) := by omega
      have k2 : (0 : Int) ≤ (k : Int) := by omega
      have k4 : IntKind.i64.wrap ((k : Int) + 1) = (k : Int) + 1 := IntWalk.i64_in _ (by omega)
      have HL := Lib.hid hl
      obtain ⟨ok, hok⟩ : ∃ ok, ok = meetsL l v := ⟨_, rfl⟩
      have HT := Lib.hid (hasf_of hok (HV.out.on HB.out) HRB (HKD.out l (List.mem_of_getElem? hl)))
      have HOK := Lib.hid hok
      clear hl hok hc hy hr HRB
      go_wp2_with fail
      refine (HT.out).mono ?_
      rintro e w3 ⟨rfl, hb⟩
      have B3 := Lib.hid (bch HB.out hb)
      clear HT hb HB r0
      cases ok with
      | false =>
        go_wp2_with fail
        go_roundw
        case rel =>
          refine ⟨k + 1, hlt, by go_num, Lib.hid (fun t y ht hy => ?_), B3⟩
          by_cases htj : t < k
          · exact HK.out t y htj hy
          · obtain rfl : t = k := by omega
            obtain rfl := Option.some.inj (HL.out.symm.trans hy)
            exact HOK.out.symm
        case measure => simp [Lib.intOf]; omega
      | true =>
        have HE : Hid (hasL ls v = true) := Lib.hid (hasL_yes (List.mem_of_getElem? HL.out) HOK.out.symm)
        go_wp2_with fail
        go_ret
        exact ⟨(k : Int), rfl, by rw [HE.out]; exact decide_eq_true (by omega), B3.out⟩
    · have k1 : ¬ ((k : Int) < (n : Int)) := by omega
      have HE : Hid (hasL ls v = false) := Lib.hid (hasL_no (fun j b hj => HK.out j b (by have := (List.getElem?_eq_some_iff.1 hj).1; have := HN.out; omega) hj))
      go_wp2_with fail
      go_ret
      exact ⟨-1, rfl, by rw [HE.out]; rfl, HB.out⟩

set_option maxRecDepth 100000 in
set_option maxHeartbeats 1000000 in
theorem containsf_any (ls : List (List Bd)) (v : Ver) (x : Value) (gv : Nat) (w : World) (hv : Box w gv 45 v.arr) (hx : RdR w x ls) (hk : ∀ l ∈ ls, Kinds l) : Calls Tryz.prog 67 #[x, .func (.func 68) #[] #[.pointer (some ⟨gv, 0, none⟩)]] w fun e w' => e = .returned (.bool (hasL ls v)) ∧ Below w.heap.size w w' := by
  have HI := Lib.hid (indexf_any ls v x gv w hv hx hk)
  obtain ⟨a, c, rfl, _⟩ := hx.open
  clear hv hx hk
  go_enter Tryz.func67, Tryz.ntmps67
  go_wp2_with fail
  refine HI.out.mono ?_
  rintro e w1 ⟨i, rfl, hi, hb⟩
  have HD := Lib.hid hi
  clear hi
  go_wp2_with fail
  go_ret
  exact ⟨ret_bool HD.out, hb⟩

set_option maxRecDepth 100000 in
set_option maxHeartbeats 1000000 in
theorem hass_any (ls : List (List Bd)) (v : Ver) (x : Value) (w : World) (hx : RdR w x ls) (hk : ∀ l ∈ ls, Kinds l) : Calls Tryz.prog 45 #[.agg #[x], .agg v.arr] w fun e w' => e = .returned (.bool (hasL ls v)) ∧ Below w.heap.size w w' := by
  have X1 : Box ((w.alloc (.cells #[x] 27)).alloc (.cells v.arr 45)) w.heap.size 27 #[x] := box_new.alloc _
  have X2 : Box ((w.alloc (.cells #[x] 27)).alloc (.cells v.arr 45)) (w.heap.size + 1) 45 v.arr := heap_alloc2_new w _ _
  have c0 : ((w.alloc (.cells #[x] 27)).alloc (.cells v.arr 45)).cell? ⟨w.heap.size, 0, none⟩ = some x := X1.cell rfl
  have hB : Hid (Below w.heap.size w ((w.alloc (.cells #[x] 27)).alloc (.cells v.arr 45))) := Lib.hid (((Below.refl w.heap.size w).alloc (Nat.le_refl _) (.cells #[x] 27)).alloc (by simp) (.cells v.arr 45))
  have HI := Lib.hid (containsf_any ls v x (w.heap.size + 1) _ X2 (hx.on hB.out) hk)
  obtain ⟨a, c, rfl, _⟩ := hx.open
  clear X1 X2 hx hk
  go_enter Tryz.func45, Tryz.ntmps45
  go_wp2_with fail
  refine HI.out.mono ?_
  rintro e w1 ⟨rfl, hb⟩
  go_wp2_with fail
  go_ret
  exact ⟨rfl, bch hB.out hb⟩

set_option maxRecDepth 100000 in
set_option maxHeartbeats 1000000 in
theorem sHas_any (ls : List (List Bd)) (v : Ver) (x : Value) (w : World) (hx : RdR w x ls) : Calls Tryz.prog 20 #[.agg #[x], .agg v.arr] w fun e w' => e = .returned (.bool (hasS ls v)) ∧ Below w.heap.size w w' := by
  have X1 : Hid (Box ((w.alloc (.cells #[x] 27)).alloc (.cells v.arr 45)) w.heap.size 27 #[x]) := Lib.hid (box_new.alloc _)
  have X2 : Hid (Box ((w.alloc (.cells #[x] 27)).alloc (.cells v.arr 45)) (w.heap.size + 1) 45 v.arr) := Lib.hid (heap_alloc2_new w _ _)
  have c0 : ((w.alloc (.cells #[x] 27)).alloc (.cells v.arr 45)).cell? ⟨w.heap.size, 0, none⟩ = some x := X1.out.cell rfl
  have hB : Hid (Below w.heap.size w ((w.alloc (.cells #[x] 27)).alloc (.cells v.arr 45))) := Lib.hid (((Below.refl w.heap.size w).alloc (Nat.le_refl _) (.cells #[x] 27)).alloc (by simp) (.cells v.arr 45))
  have HX := Lib.hid (hx.on hB.out)
  obtain ⟨o, ho⟩ : ∃ o, o = spanOk ls := ⟨_, rfl⟩
  have HA := Lib.hid (svalids_of ho HX.out)
  have HO := Lib.hid ho
  obtain ⟨p, hp⟩ : ∃ p, p = v.ok := ⟨_, rfl⟩
  have HC := Lib.hid (fun W => bchecks_of hp W)
  have HP := Lib.hid hp
  obtain ⟨a, c, rfl, _⟩ := hx.open
  obtain ⟨w0, hw0⟩ : ∃ q, q = (w.alloc (.cells #[.slice a ls.length c] 27)).alloc (.cells v.arr 45) := ⟨_, rfl⟩
  rw [← hw0] at X1 X2 c0 hB HX HA
  clear ho hp hx
  cases o with
  | false =>
    have HE : Hid (hasS ls v = false) := Lib.hid (by unfold hasS; rw [← HO.out]; rfl)
    go_enter Tryz.func20, Tryz.ntmps20
    go_upto_region 1 with fail
    rw [← hw0]
    clear hw0
    go_wp2_with fail
    refine HA.out.mono ?_
    rintro e w1 ⟨rfl, hb⟩
    go_wp2_with fail
    go_ret
    exact ⟨ret_bool HE.out.symm, bch hB.out hb⟩
  | true =>
    cases p with
    | false =>
      have HE : Hid (hasS ls v = false) := Lib.hid (by unfold hasS; rw [← HO.out, ← HP.out]; rfl)
      go_enter Tryz.func20, Tryz.ntmps20
      go_upto_region 1 with fail
      rw [← hw0]
      clear hw0
      go_wp2_with fail
      refine HA.out.mono ?_
      rintro e w1 ⟨rfl, hb⟩
      have Y2 := Lib.hid (X2.out.on hb)
      obtain ⟨p0, p1, p2, p3, p4, p5, p6⟩ := Y2.out.ver
      go_wp2_with fail
      refine (HC.out _).mono ?_
      rintro e w2 ⟨rfl, hb2⟩
      go_wp2_with fail
      go_ret
      exact ⟨ret_bool HE.out.symm, bch (bch hB.out hb) hb2⟩
    | true =>
      have HE : Hid (hasS ls v = hasL ls v) := Lib.hid (by unfold hasS; rw [← HO.out, ← HP.out]; rfl)
      go_enter Tryz.func20, Tryz.ntmps20
      go_upto_region 1 with fail
      rw [← hw0]
      clear hw0
      go_wp2_with fail
      refine HA.out.mono ?_
      rintro e w1 ⟨rfl, hb⟩
      have Y2 := Lib.hid (X2.out.on hb)
      obtain ⟨p0, p1, p2, p3, p4, p5, p6⟩ := Y2.out.ver
      go_wp2_with fail
      refine (HC.out _).mono ?_
      rintro e w2 ⟨rfl, hb2⟩
      have Z2 := Lib.hid (Y2.out.on hb2)
      obtain ⟨p0, p1, p2, p3, p4, p5, p6⟩ := Z2.out.ver
      have z0 : w2.cell? ⟨w.heap.size, 0, none⟩ = some (.slice a ls.length c) := ((X1.out.on hb).on hb2).cell rfl
      have HI := Lib.hid (hass_any ls v _ w2 ((HX.out.on hb).on hb2) (kinds_span HO.out.symm))
      go_wp2_with fail
      refine HI.out.mono ?_
      rintro e w3 ⟨rfl, hb3⟩
      go_wp2_with fail
      go_ret
      exact ⟨ret_bool HE.out.symm, bch (bch (bch hB.out hb) hb2) hb3⟩
end Go.Proofs.YtlfehjjnepiljaaGreatDoor

namespace Go.Proofs.YtlfehjjnepiljaaGreatDoor
open Go.RowKit Go.Shelf

theorem within_off {s a z : Str} (h : Lib.hasPrefix s a = false ∨ Lib.hasSuffix (Lib.trimPrefix s a) z = false) : within s a z = none := by
  unfold within
  rw [if_neg]
  rintro ⟨h1, h2⟩
  have e1 : Lib.hasPrefix s a = true := List.isPrefixOf_iff_prefix.2 h1
  rcases h with h | h
  · rw [e1] at h; cases h
  · have e2 : Lib.trimPrefix s a = s.drop a.length := if_pos e1
    rw [e2] at h
    have e3 : Lib.hasSuffix (s.drop a.length) z = true := List.isSuffixOf_iff_suffix.2 h2
    rw [e3] at h
    cases h
theorem within_on {s a z : Str} (h1 : Lib.hasPrefix s a = true) (h2 : Lib.hasSuffix (Lib.trimPrefix s a) z = true) : within s a z = readV (ofB (Lib.trimSuffix (Lib.trimPrefix s a) z)) := by
  have e2 : Lib.trimPrefix s a = s.drop a.length := if_pos h1
  have e3 : Lib.trimSuffix (Lib.trimPrefix s a) z = (Lib.trimPrefix s a).take ((Lib.trimPrefix s a).length - z.length) := if_pos h2
  rw [e3, e2]
  unfold within
  rw [if_pos ⟨List.isPrefixOf_iff_prefix.1 h1, by rw [e2] at h2; exact List.isSuffixOf_iff_suffix.1 h2⟩]
theorem trims_len (s a z : Str) : (Lib.trimPrefix s a).length ≤ s.length ∧ (Lib.trimSuffix (Lib.trimPrefix s a) z).length ≤ s.length := by
  have h1 : (Lib.trimPrefix s a).length ≤ s.length := by
    unfold Lib.trimPrefix
    split
    · rw [List.length_drop]; omega
    · exact Nat.le_refl _
  refine ⟨h1, ?_⟩
  unfold Lib.trimSuffix
  split
  · rw [List.length_take]; omega
  · exact h1
def WithinR (s a z : Str) (w : World) (e : Ending) (w' : World) : Prop := ∃ (v : Ver) (b : Bool), e = .returned (.tuple #[.agg v.arr, .bool b]) ∧ within s a z = (if b = true then some v else none) ∧ Below w.heap.size w w'
theorem readO_cases (s : ByteArray) : (∃ v, readV s = some v ∧ readO s = (v, 0)) ∨ (readV s = none ∧ readO s = (Ver.zero, 140)) := by
  unfold readO
  cases h : readV s with
  | none => exact .inr ⟨rfl, rfl⟩
  | some v => exact .inl ⟨v, rfl, rfl⟩

set_option maxRecDepth 100000 in
set_option maxHeartbeats 4000000 in
theorem within_any (s a z : ByteArray) (hs : s.size ≤ 140737488355328) (w : World) : Calls Tryz.prog 101 #[.string s, .agg #[.string a, .string z]] w (WithinR s.data.toList a.data.toList z.data.toList w) := by
  have X1 : Hid (Box ((w.alloc (.cells #[.string a, .string z] 109)).alloc (.cells Ver.zero.arr 45)) w.heap.size 109 #[.string a, .string z]) := Lib.hid (box_new.alloc _)
  have X2 : Hid (Box ((w.alloc (.cells #[.string a, .string z] 109)).alloc (.cells Ver.zero.arr 45)) (w.heap.size + 1) 45 Ver.zero.arr) := Lib.hid (heap_alloc2_new w _ _)
  have hB : Hid (Below w.heap.size w ((w.alloc (.cells #[.string a, .string z] 109)).alloc (.cells Ver.zero.arr 45))) := Lib.hid (((Below.refl w.heap.size w).alloc (Nat.le_refl _) (.cells #[.string a, .string z] 109)).alloc (by simp) (.cells Ver.zero.arr 45))
  obtain ⟨w0, hw0⟩ : ∃ q, q = (w.alloc (.cells #[.string a, .string z] 109)).alloc (.cells Ver.zero.arr 45) := ⟨_, rfl⟩
  rw [← hw0] at X1 X2 hB
  have c0 : w0.cell? ⟨w.heap.size, 0, none⟩ = some (.string a) := X1.out.cell rfl
  have c1 : w0.cell? ⟨w.heap.size, 1, none⟩ = some (.string z) := X1.out.cell rfl
  obtain ⟨p, hp⟩ : ∃ p, p = Lib.hasPrefix s.data.toList a.data.toList := ⟨_, rfl⟩
  obtain ⟨r1, hr1⟩ : ∃ r, r = ofB (Lib.trimPrefix s.data.toList a.data.toList) := ⟨_, rfl⟩
  have d1 : r1.data.toList = Lib.trimPrefix s.data.toList a.data.toList := by rw [hr1]; rfl
  obtain ⟨q, hq⟩ : ∃ q, q = Lib.hasSuffix r1.data.toList z.data.toList := ⟨_, rfl⟩
  obtain ⟨r2, hr2⟩ : ∃ r, r = ofB (Lib.trimSuffix r1.data.toList z.data.toList) := ⟨_, rfl⟩
  have hl := trims_len s.data.toList a.data.toList z.data.toList
  have e1 : s.data.toList.length = s.size := rfl
  have z1 : r1.size ≤ 140737488355328 := by have : r1.data.toList.length = r1.size := rfl; rw [d1] at this; omega
  have z2 : r2.size ≤ 140737488355328 := by
    have e2 : r2.data.toList.length = r2.size := rfl
    have e3 : r2.data.toList = Lib.trimSuffix (Lib.trimPrefix s.data.toList a.data.toList) z.data.toList := by rw [hr2, d1]; rfl
    rw [e3] at e2
    omega
  have HP : Hid (∀ W, Calls Tryz.prog 125 #[.string s, .string a] W fun e w' => e = .returned (.tuple #[.string r1, .bool p]) ∧ W = w') := Lib.hid (fun W => by
    rw [hr1, hp]
    exact (Tryz.strings_CutPrefix s a W).mono fun _ _ ⟨h1, h2⟩ => ⟨h1, h2.symm⟩)
  have HQ : Hid (∀ W, Calls Tryz.prog 126 #[.string r1, .string z] W fun e w' => e = .returned (.tuple #[.string r2, .bool q]) ∧ W = w') := Lib.hid (fun W => by
    rw [hr2, hq]
    exact (Tryz.strings_CutSuffix r1 z W (by omega)).mono fun _ _ ⟨h1, h2⟩ => ⟨h1, h2.symm⟩)
  obtain ⟨y, hy⟩ : ∃ y, y = readO r2 := ⟨_, rfl⟩
  have HR : Hid (∀ W, Calls Tryz.prog 127 #[.string r2] W fun e w' => e = .returned (.tuple #[.agg y.1.arr, .int .i64 y.2]) ∧ Below W.heap.size W w') := Lib.hid (fun W => by rw [hy]; exact Read_any r2 z2 W)
  have HOFF : Hid ((p = false ∨ q = false) → within s.data.toList a.data.toList z.data.toList = none) := Lib.hid (fun h => within_off (by rw [← hp, ← d1, ← hq]; exact h))
  have HON : Hid (p = true → q = true → within s.data.toList a.data.toList z.data.toList = readV r2) := Lib.hid (fun h1 h2 => by rw [within_on (by rw [← hp]; exact h1) (by rw [← d1, ← hq]; exact h2), hr2, d1])
  have HY := Lib.hid hy
  obtain ⟨v, x⟩ := y
  dsimp only at HR
  clear hp hr1 d1 hq hr2 hl e1 z1 z2 hy hs
  go_enter Tryz.func101, Tryz.ntmps101
  go_upto_region 1 with (with_reducible refine wpList_zero rfl 45 rfl Ver.zero.arr zero26 ?_)
  rw [← hw0]
  clear hw0
  go_wp2_with fail
  refine (HP.out _).mono ?_
  rintro e w1 ⟨rfl, rfl⟩
  go_wp2_with fail
  refine (HQ.out _).mono ?_
  rintro e w1 ⟨rfl, rfl⟩
  cases p with
  | false =>
    have HN := Lib.hid (HOFF.out (.inl rfl))
    clear HOFF HON HP HQ HR HY c0 c1
    go_wp2_with (first
      | (refine builds_none26 rfl rfl ?_)
      | (refine wpList_store_row rfl 45 (.tmp 4) (.tmp 31) rfl (w.heap.size + 1) Ver.zero.arr rfl rfl 45 _ X2.out (info26 _) rfl (arr_one _) ?_))
    refine bodyPost_ret (results_ver rfl _ _ (w.heap.size + 1) rfl Ver.zero.arr (run_loadVar_row _ (w.heap.size + 1) 45 45 Ver.zero.arr (0, 0) _ (X2.out.row _) Tryz.underlying45 rfl (info26 _))) rfl ⟨Ver.zero, false, rfl, by rw [HN.out]; rfl, below_row hB.out (by omega) _⟩
  | true =>
    cases q with
    | false =>
      have HN := Lib.hid (HOFF.out (.inr rfl))
      clear HOFF HON HP HQ HR HY c0 c1
      go_wp2_with (first
        | (refine builds_none26 rfl rfl ?_)
        | (refine wpList_store_row rfl 45 (.tmp 4) (.tmp 31) rfl (w.heap.size + 1) Ver.zero.arr rfl rfl 45 _ X2.out (info26 _) rfl (arr_one _) ?_))
      refine bodyPost_ret (results_ver rfl _ _ (w.heap.size + 1) rfl Ver.zero.arr (run_loadVar_row _ (w.heap.size + 1) 45 45 Ver.zero.arr (0, 0) _ (X2.out.row _) Tryz.underlying45 rfl (info26 _))) rfl ⟨Ver.zero, false, rfl, by rw [HN.out]; rfl, below_row hB.out (by omega) _⟩
    | true =>
      have HW := Lib.hid (HON.out rfl rfl)
      clear HOFF HON HP HQ c0 c1
      obtain ⟨o, ho, hox⟩ : ∃ o : Bool, (x == 0) = o ∧ within s.data.toList a.data.toList z.data.toList = (if o = true then some v else none) := by
        rcases readO_cases r2 with ⟨u, h1, h2⟩ | ⟨h1, h2⟩
        · have := HY.out.trans h2
          simp only [Prod.mk.injEq] at this
          obtain ⟨rfl, rfl⟩ := this
          exact ⟨true, rfl, by rw [HW.out, h1]; rfl⟩
        · have := HY.out.trans h2
          simp only [Prod.mk.injEq] at this
          obtain ⟨rfl, rfl⟩ := this
          exact ⟨false, rfl, by rw [HW.out, h1]; rfl⟩
      have HOX := Lib.hid hox
      clear hox HW HY
      go_wp2_with fail
      refine (HR.out _).mono ?_
      rintro e w2 ⟨rfl, hb⟩
      have X3 := Lib.hid (X2.out.on hb)
      have B3 := Lib.hid (bch hB.out hb)
      have l3 := X3.out.lt
      clear X2 hB HR hb X1
      have Y0 : Hid (Box (w2.alloc (.cells Ver.zero.arr 45)) w2.heap.size 45 Ver.zero.arr) := Lib.hid box_new
      obtain ⟨w3, hw3⟩ : ∃ q, q = (w2.alloc (.cells Ver.zero.arr 45)).setRow w2.heap.size v.arr := ⟨_, rfl⟩
      have Y3 : Hid (Box w3 w2.heap.size 45 v.arr) := Lib.hid (by rw [hw3]; exact Y0.out.row _)
      have X4 : Hid (Box w3 (w.heap.size + 1) 45 Ver.zero.arr) := Lib.hid (by rw [hw3]; exact (X3.out.alloc _).far_row (by omega) _)
      have B4 : Hid (Below w.heap.size w w3) := Lib.hid (by rw [hw3]; exact below_row (B3.out.alloc B3.out.size _) B3.out.size _)
      go_upto_region 6 with (first
        | (with_reducible refine wpList_zero rfl 45 rfl Ver.zero.arr zero26 ?_)
        | (refine wpList_store_row rfl 45 (.tmp 9) (.tmp 35) rfl w2.heap.size v.arr rfl rfl 45 _ Y0.out (info26 _) rfl (arr_one _) ?_))
      rw [← hw3]
      clear hw3 Y0 X3 B3
      go_wp2_with (first
        | (refine wpList_load_row rfl 45 (.tmp 9) rfl w2.heap.size rfl 45 v.arr (0, 0) _ Y3.out Tryz.underlying45 rfl (info26 _) ?_)
        | (refine wpList_store_row rfl 45 (.tmp 4) (.tmp 37) rfl (w.heap.size + 1) v.arr rfl rfl 45 _ X4.out (info26 _) rfl (arr_one _) ?_))
      refine bodyPost_ret (results_ver rfl _ _ (w.heap.size + 1) rfl v.arr (run_loadVar_row _ (w.heap.size + 1) 45 45 v.arr (0, 0) _ (X4.out.row _) Tryz.underlying45 rfl (info26 _))) rfl ⟨v, o, rfl, HOX.out, below_row B4.out (by omega) _⟩
end Go.Proofs.YtlfehjjnepiljaaGreatDoor

namespace Go.Proofs.YtlfehjjnepiljaaGreatDoor
open Go.RowKit Go.Shelf

/-- The frames stand in their variable. -/
def FrW (w : World) : Prop := 0 < w.heap.size ∧ ∀ k : Nat, k < 8 → w.cell? ⟨0, k * 2, none⟩ = some (.string (ofB (aheadL k))) ∧ w.cell? ⟨0, k * 2 + 1, none⟩ = some (.string (ofB (behindL k)))
theorem FrW.below {w w' : World} (h : FrW w) (hb : Below w.heap.size w w') : FrW w' :=
  ⟨Nat.lt_of_lt_of_le h.1 hb.size, fun k hk => ⟨(hb.cell (p := ⟨0, _, none⟩) h.1).trans (h.2 k hk).1, (hb.cell (p := ⟨0, _, none⟩) h.1).trans (h.2 k hk).2⟩⟩
theorem kind_no {s : Str} {k : Int} (h : within s (aheadL k) (behindL k) = none) : ∀ b : Bd, b.ok = true → b.kind = k → b.text ≠ s := by
  intro b hb hk ht
  subst hk
  have := within_of (a := aheadL b.kind) (z := behindL b.kind) (bd_ok hb).2.1
  have e : aheadL b.kind ++ b.ver.text ++ behindL b.kind = s := ht
  rw [e, h] at this
  cases this
theorem kind_bad {s : Str} {k : Int} {v : Ver} (h : within s (aheadL k) (behindL k) = some v) (hk : (⟨k, v⟩ : Bd).ok = false) : ∀ b : Bd, b.ok = true → b.kind = k → b.text ≠ s := by
  intro b hb hbk ht
  subst hbk
  have := within_of (a := aheadL b.kind) (z := behindL b.kind) (bd_ok hb).2.1
  have e : aheadL b.kind ++ b.ver.text ++ behindL b.kind = s := ht
  rw [e, h] at this
  have ev := Option.some.inj this
  rw [ev] at hk
  have : (⟨b.kind, b.ver⟩ : Bd) = b := rfl
  rw [this, hb] at hk
  cases hk
def BoundR (s : Str) (w : World) (e : Ending) (w' : World) : Prop := ∃ (b : Bd) (o : Bool), e = .returned (.tuple #[.agg b.arr, .bool o]) ∧ (o = true → b.ok = true ∧ b.text = s) ∧ (o = false → ∀ y : Bd, y.ok = true → y.text ≠ s) ∧ Below w.heap.size w w'
theorem builtB (k : Int) (v : Ver) : Tryz.prog.built 57 [(0, .int .i64 k), (1, .agg v.arr)] = some (Bd.arr ⟨k, v⟩) := by kernel_rfl
theorem builds57 {ops : Array Oper} {rest : List Oper} {o : Oper} {ac : Act} {w : World} {Q : Exit → Act → World → Prop} (hg : o.guard = none) (x y : Operand) (ho : o.op = .build 57 #[(0, x), (1, y)]) (k : Int) (v : Ver) (hx : ac.eval x = .int .i64 k) (hy : ac.eval y = .agg v.arr)
    (h : wpList Tryz.prog ops Q rest (ac.put o.dst (.agg (Bd.arr ⟨k, v⟩))) w) : wpList Tryz.prog ops Q (o :: rest) ac w := by
  have e : Tryz.prog.built 57 ((#[(0, x), (1, y)] : Array (Nat × Operand)).map fun (i, x) => (i, ac.eval x)).toList = some (Bd.arr ⟨k, v⟩) := by
    refine Eq.trans (congrArg (Tryz.prog.built 57) ?_) (builtB k v)
    simp [hx, hy]
  exact wpList_build hg 57 _ ho (by rw [e]; rfl) (by rw [e]; exact h)
theorem builds_none57 {ops : Array Oper} {rest : List Oper} {o : Oper} {a : Act} {w : World} {Q : Exit → Act → World → Prop} (hg : o.guard = none) (ho : o.op = .build 57 #[]) (h : wpList Tryz.prog ops Q rest (a.put o.dst (.agg Bd.zero.arr)) w) : wpList Tryz.prog ops Q (o :: rest) a w := by
  have e : Tryz.prog.built 57 ((#[] : Array (Nat × Operand)).map fun (i, x) => (i, a.eval x)).toList = some Bd.zero.arr := (congrArg (Tryz.prog.built 57) (by simp)).trans zeroB
  exact wpList_build hg 57 #[] ho (by rw [e]; rfl) (by rw [e]; exact h)

set_option maxRecDepth 100000 in
set_option maxHeartbeats 8000000 in
theorem bound_any (s : ByteArray) (hs : s.size ≤ 140737488355328) (w : World) (hF : FrW w) : Calls Tryz.prog 86 #[.string s] w (BoundR s.data.toList w) := by
  have HW : Hid (∀ (a z : ByteArray) (W : World), Calls Tryz.prog 101 #[.string s, .agg #[.string a, .string z]] W (WithinR s.data.toList a.data.toList z.data.toList W)) := Lib.hid (fun a z W => within_any s a z hs W)
  have X0 : Hid (Box (w.alloc (.cells Bd.zero.arr 57)) w.heap.size 57 Bd.zero.arr) := Lib.hid box_new
  have B0 : Hid (Below w.heap.size w (w.alloc (.cells Bd.zero.arr 57))) := Lib.hid (below_new _ _)
  have HF := Lib.hid hF
  clear hs hF
  go_enter Tryz.func86, Tryz.ntmps86
  go_wp2_with (with_reducible refine wpList_zero rfl 57 rfl Bd.zero.arr zero57 ?_)
  go_loopw [4, 5, 6, 7, 8, 9, 10, 11, 12, 13, 14, 15, 16, 17, 18, 19, 20, 21, 22, 23, 24, 25, 26, 27, 28] (fun i _ _ _ _ _ _ _ _ _ _ _ _ _ _ _ _ _ _ _ _ _ _ _ _ W => ∃ k : Nat, 1 ≤ k ∧ k ≤ 8 ∧ i = .int .i64 k ∧ Hid (∀ y : Bd, y.ok = true → y.kind < (k : Int) → y.text ≠ s.data.toList) ∧ Hid (Box W w.heap.size 57 Bd.zero.arr) ∧ Hid (Below w.heap.size w W)) (fun i _ _ _ _ _ _ _ _ _ _ _ _ _ _ _ _ _ _ _ _ _ _ _ _ _ => 8 - (Lib.intOf i).toNat)
  case atStart => exact ⟨1, by omega, by omega, rfl, Lib.hid (fun y hy hk => by have := (bd_ok hy).1; omega), X0, B0⟩
  case round =>
    clear X0 B0
    obtain ⟨k, hk1, hk8, rfl, HK, X0, HB⟩ := hrel
    obtain ⟨wo, hwo⟩ : ∃ q, q = wr := ⟨_, rfl⟩
    rw [← hwo] at HB X0 ⊢
    clear hwo
    by_cases hlt : k < 8
    · have k1 : decide ((k : Int) ≤ 7) = true := decide_eq_true (by omega)
      have k2 : (0 : Int) ≤ (k : Int) := by omega
      have k3 : (k : Int) < 8 := by omega
      have k4 : IntKind.i64.wrap ((k : Int) + 1) = (k : Int) + 1 := IntWalk.i64_in _ (by omega)
      obtain ⟨f0, f1⟩ := (HF.out.below HB.out).2 k hlt
      have HWK := Lib.hid (HW.out (ofB (aheadL k)) (ofB (behindL k)))
      go_wp2_with fail
      refine (HWK.out _).mono ?_
      rintro e w2 ⟨v, o, rfl, hv, hb⟩
      have HV : Hid (within s.data.toList (aheadL k) (behindL k) = (if o = true then some v else none)) := Lib.hid hv
      have X2 := Lib.hid (X0.out.on hb)
      have B2 := Lib.hid (bch HB.out hb)
      have l2 := X2.out.lt
      clear X0 HB HWK hv hb f0 f1
      have Y0 : Hid (Box (w2.alloc (.cells Ver.zero.arr 45)) w2.heap.size 45 Ver.zero.arr) := Lib.hid box_new
      obtain ⟨w3, hw3⟩ : ∃ q, q = (w2.alloc (.cells Ver.zero.arr 45)).setRow w2.heap.size v.arr := ⟨_, rfl⟩
      have Y3 : Hid (Box w3 w2.heap.size 45 v.arr) := Lib.hid (by rw [hw3]; exact Y0.out.row _)
      have X3 : Hid (Box w3 w.heap.size 57 Bd.zero.arr) := Lib.hid (by rw [hw3]; exact (X2.out.alloc _).far_row (by omega) _)
      have B3 : Hid (Below w.heap.size w w3) := Lib.hid (by rw [hw3]; exact below_row (B2.out.alloc B2.out.size _) B2.out.size _)
      go_upto_region 5 with (first
        | (with_reducible refine wpList_zero rfl 45 rfl Ver.zero.arr zero26 ?_)
        | (refine wpList_store_row rfl 45 (.tmp 5) (.tmp 18) rfl w2.heap.size v.arr rfl rfl 45 _ Y0.out (info26 _) rfl (arr_one _) ?_))
      rw [← hw3]
      clear hw3 Y0 X2 B2
      have Z0 : Hid (Box (w3.alloc (.cells Bd.zero.arr 57)) w3.heap.size 57 Bd.zero.arr) := Lib.hid box_new
      obtain ⟨w4, hw4⟩ : ∃ q, q = (w3.alloc (.cells Bd.zero.arr 57)).setRow w3.heap.size (Bd.arr ⟨k, v⟩) := ⟨_, rfl⟩
      have Z4 : Hid (Box w4 w3.heap.size 57 (Bd.arr ⟨k, v⟩)) := Lib.hid (by rw [hw4]; exact Z0.out.row _)
      have X4 : Hid (Box w4 w.heap.size 57 Bd.zero.arr) := Lib.hid (by rw [hw4]; exact (X3.out.alloc _).far_row (by have := X3.out.lt; omega) _)
      have B4 : Hid (Below w.heap.size w w4) := Lib.hid (by rw [hw4]; exact below_row (B3.out.alloc B3.out.size _) B3.out.size _)
      go_upto_region 6 with (first
        | (with_reducible refine wpList_zero rfl 57 rfl Bd.zero.arr zero57 ?_)
        | (refine wpList_load_row rfl 45 (.tmp 5) rfl w2.heap.size rfl 45 v.arr (0, 0) _ Y3.out Tryz.underlying45 rfl (info26 _) ?_)
        | (refine builds57 rfl (.tmp 20) (.tmp 21) rfl (k : Int) v rfl rfl ?_)
        | (refine wpList_store_row rfl 57 (.tmp 7) (.tmp 22) rfl w3.heap.size (Bd.arr ⟨k, v⟩) rfl rfl 57 _ Z0.out (info57 _) rfl (barr_one _) ?_))
      rw [← hw4]
      clear hw4 Z0 X3 B3 Y3
      obtain ⟨g3, hg3⟩ : ∃ q, q = w3.heap.size := ⟨_, rfl⟩
      rw [← hg3] at Z4 ⊢
      clear hg3
      cases o with
      | false =>
        have HN := Lib.hid (kind_no (show within s.data.toList (aheadL k) (behindL k) = none from HV.out))
        clear HV
        go_wp2_with fail
        go_roundw
        case rel =>
          refine ⟨k + 1, by omega, by omega, by go_num, Lib.hid (fun y hy hk => ?_), X4, B4⟩
          by_cases hyk : y.kind < (k : Int)
          · exact HK.out y hy hyk
          · exact HN.out y hy (by omega)
        case measure => simp [Lib.intOf]; omega
      | true =>
        have HV2 : Hid (within s.data.toList (aheadL k) (behindL k) = some v) := HV
        obtain ⟨p, hp⟩ : ∃ p, p = (⟨k, v⟩ : Bd).ok := ⟨_, rfl⟩
        have HT := Lib.hid (fun W => validbs_of hp W)
        have HP := Lib.hid hp
        obtain ⟨p0, p1, p2, p3, p4, p5, p6, p7⟩ := Z4.out.bd
        clear HV hp
        go_wp2_with fail
        refine (HT.out _).mono ?_
        rintro e w5 ⟨rfl, hb⟩
        have Z5 := Lib.hid (Z4.out.on hb)
        have X5 := Lib.hid (X4.out.on hb)
        have B5 := Lib.hid (bch B4.out hb)
        clear Z4 X4 B4 HT hb p0 p1 p2 p3 p4 p5 p6 p7
        cases p with
        | false =>
          have HN := Lib.hid (kind_bad HV2.out HP.out.symm)
          go_wp2_with fail
          go_roundw
          case rel =>
            refine ⟨k + 1, by omega, by omega, by go_num, Lib.hid (fun y hy hk => ?_), X5, B5⟩
            by_cases hyk : y.kind < (k : Int)
            · exact HK.out y hy hyk
            · exact HN.out y hy (by omega)
          case measure => simp [Lib.intOf]; omega
        | true =>
          have HT2 : Hid ((⟨k, v⟩ : Bd).text = s.data.toList) := Lib.hid ((within_some HV2.out).2.symm)
          go_wp2_with (first
            | (refine wpList_load_row rfl 57 (.tmp 7) rfl g3 rfl 57 (Bd.arr ⟨k, v⟩) (0, 0) _ Z5.out Tryz.underlying57 rfl (info57 _) ?_)
            | (refine wpList_store_row rfl 57 (.tmp 2) (.tmp 28) rfl w.heap.size (Bd.arr ⟨k, v⟩) rfl rfl 57 _ X5.out (info57 _) rfl (barr_one _) ?_))
          refine bodyPost_ret (results_ver rfl _ _ w.heap.size rfl (Bd.arr ⟨k, v⟩) (run_loadVar_row _ w.heap.size 57 57 (Bd.arr ⟨k, v⟩) (0, 0) _ (X5.out.row _) Tryz.underlying57 rfl (info57 _))) rfl ⟨⟨k, v⟩, true, rfl, fun _ => ⟨HP.out.symm, HT2.out⟩, fun h => (by cases h), below_row B5.out (Nat.le_refl _) _⟩
    · have k1 : decide ((k : Int) ≤ 7) = false := decide_eq_false (by omega)
      go_wp2_with (first
        | (refine builds_none57 rfl rfl ?_)
        | (refine wpList_store_row rfl 57 (.tmp 2) (.tmp 29) rfl w.heap.size Bd.zero.arr rfl rfl 57 _ X0.out (info57 _) rfl (barr_one _) ?_))
      refine bodyPost_ret (results_ver rfl _ _ w.heap.size rfl Bd.zero.arr (run_loadVar_row _ w.heap.size 57 57 Bd.zero.arr (0, 0) _ (X0.out.row _) Tryz.underlying57 rfl (info57 _))) rfl ⟨Bd.zero, false, rfl, fun h => (by cases h), fun _ y hy => HK.out y hy (by have := (bd_ok hy).1; omega), below_row HB.out (Nat.le_refl _) _⟩
end Go.Proofs.YtlfehjjnepiljaaGreatDoor

namespace Go.Proofs.YtlfehjjnepiljaaGreatDoor
open Go.RowKit Go.Shelf

def Tryz.lays125_ren : Go.Shelf.Ren := ⟨fun | 125 => 91 | 128 => 117 | 129 => 118 | n => n, fun | 46 => 128 | 3 => 3 | 51 => 149 | 53 => 151 | 4 => 4 | 5 => 5 | 9 => 9 | n => n, fun | n => n⟩
theorem Tryz.lays125 : Go.Proofs.Lays.n125 Tryz.prog Tryz.lays125_ren := {
  mixed := by kernel_rfl
  f125 := Tryz.func91.trans (congrArg some (by kernel_rfl))
  f128 := Tryz.func117.trans (congrArg some (by kernel_rfl))
  f129 := Tryz.func118.trans (congrArg some (by kernel_rfl))
  t3 := Tryz.underlying3
  a3 := Tryz.isAgg3
  z3 := Tryz.sizeOf3
  v3 := Tryz.zeroValue3
  t4 := Tryz.underlying4
  a4 := Tryz.isAgg4
  z4 := Tryz.sizeOf4
  v4 := Tryz.zeroValue4
  t5 := Tryz.underlying5
  a5 := Tryz.isAgg5
  z5 := Tryz.sizeOf5
  v5 := Tryz.zeroValue5
  t9 := Tryz.underlying9
  a9 := Tryz.isAgg9
  z9 := Tryz.sizeOf9
  v9 := Tryz.zeroValue9
  t46 := Tryz.underlying128
  a46 := Tryz.isAgg128
  z46 := Tryz.sizeOf128
  v46 := Tryz.zeroValue128
  t51 := Tryz.underlying149
  a51 := Tryz.isAgg149
  z51 := Tryz.sizeOf149
  v51 := Tryz.zeroValue149
  t53 := Tryz.underlying151
  a53 := Tryz.isAgg151
  z53 := Tryz.sizeOf151
  v53 := Tryz.zeroValue151 }
theorem bits_Len (x : Int) (w : World) (h0 : 0 ≤ x) (h1 : x ≤ 18446744073709551615) :
    Calls Tryz.prog 91 #[.int .u64 x] w fun e w' => e = .returned (.int .i64 (Lib.bitLen x.toNat)) ∧ w' = w := Any.bits_Len Tryz.lays125 x w h0 h1
def SortedP (l : List Ver) : Prop := l.Pairwise fun a b => cmpV a b ≤ 0
theorem cmpV_le (a b d : Ver) (h1 : cmpV a b ≤ 0) (h2 : cmpV b d ≤ 0) : cmpV a d ≤ 0 := (good_cmpV.tr a b d h1 h2).1
theorem cmpV_flip (a b : Ver) : cmpV b a = -(cmpV a b) := good_cmpV.anti a b
theorem insert_here (A B : List Ver) (x : Ver) (hs : SortedP (A ++ B)) (hB : ∀ b ∈ B, cmpV x b < 0) (hA : ∀ a, A.getLast? = some a → ¬ cmpV x a < 0) : SortedP (A ++ x :: B) := by
  unfold SortedP at hs ⊢
  rw [List.pairwise_append] at hs ⊢
  obtain ⟨h1, h2, h3⟩ := hs
  have hxA : ∀ a ∈ A, cmpV a x ≤ 0 := fun a ha => by
    obtain ⟨A', z, rfl⟩ : ∃ A' z, A = A' ++ [z] := ⟨_, _, (List.dropLast_concat_getLast (List.ne_nil_of_mem ha)).symm⟩
    have hz := hA z (by simp)
    have e := cmpV_flip x z
    rcases List.mem_append.1 ha with ha | ha
    · exact cmpV_le a z x ((List.pairwise_append.1 h1).2.2 a ha z (by simp)) (by omega)
    · obtain rfl := List.mem_singleton.1 ha
      omega
  refine ⟨h1, List.Pairwise.cons (fun b hb => by have := hB b hb; omega) h2, fun a ha b hb => ?_⟩
  rcases List.mem_cons.1 hb with rfl | hb
  · exact hxA a ha
  · exact h3 a ha b hb
/-- The row of the call's own, in whatever order. -/
def RowV (B g cap : Nat) (l : List Ver) (w : World) : Prop := w.ownsRow B 45 7 (.slice (some ⟨g, 0, none⟩) l.length cap) l.length (flatV l)
theorem owns_below {w w' : World} {base n s : Nat} {v : Value} {t : TypeId} {xs : List Value} (h : w.ownsRow base t s v n xs) (hb : Below w.heap.size w w') : w'.ownsRow base t s v n xs := by
  obtain ⟨h1, h2⟩ := h
  exact ⟨h1, h2.imp id fun ⟨g, cap, cur, hv, hg, hh, r⟩ => ⟨g, cap, cur, hv, hg, (hb.block g (Array.getElem?_eq_some_iff.1 hh).1).trans hh, r⟩⟩
theorem row_below {B g cap : Nat} {l : List Ver} {w w' : World} (h : RowV B g cap l w) (hb : Below w.heap.size w w') : RowV B g cap l w' := owns_below h hb
theorem row_drew {B g cap : Nat} {l : List Ver} {w : World} (h : RowV B g cap l w) : RowV B g cap l w.drew := h
theorem row_cell {B g cap : Nat} {l : List Ver} {w : World} (h : RowV B g cap l w) (j : Nat) (v : Ver) (hj : l[j]? = some v) :
    w.cell? ⟨g, j * 7, none⟩ = some (.int .i64 v.n0) ∧ w.cell? ⟨g, j * 7 + 1, none⟩ = some (.int .i64 v.n1) ∧ w.cell? ⟨g, j * 7 + 2, none⟩ = some (.int .i64 v.n2) ∧ w.cell? ⟨g, j * 7 + 3, none⟩ = some (.int .i64 v.n3) ∧ w.cell? ⟨g, j * 7 + 4, none⟩ = some (.int .i64 v.many) ∧ w.cell? ⟨g, j * 7 + 5, none⟩ = some (.string v.tag) ∧ w.cell? ⟨g, j * 7 + 6, none⟩ = some (.int .i64 v.step) := by
  have key : ∀ r u, r < 7 → v.cells[r]? = some u → w.cell? ⟨g, j * 7 + r, none⟩ = some u := fun r u hr hu => by
    have := flat7 l j r hr
    rw [hj] at this
    have h2 := h.cells (g := g) rfl (j * 7 + r) u (this.trans hu)
    rw [add_to, Nat.zero_add] at h2
    exact h2
  exact ⟨key 0 _ (by omega) rfl, key 1 _ (by omega) rfl, key 2 _ (by omega) rfl, key 3 _ (by omega) rfl, key 4 _ (by omega) rfl, key 5 _ (by omega) rfl, key 6 _ (by omega) rfl⟩
theorem owns_set {w : World} {B g n cap s : Nat} {e : TypeId} {xs : List Value} (h : w.ownsRow B e s (.slice (some ⟨g, 0, none⟩) n cap) n xs) (j : Nat) (u : Value) :
    (w.setCell ⟨g, j, none⟩ u).ownsRow B e s (.slice (some ⟨g, 0, none⟩) n cap) n (xs.set j u) := by
  obtain ⟨h1, h2⟩ := h
  rcases h2 with ⟨h0, _⟩ | ⟨g', cap', cur, hv, hg, hh, hn, hcap, hsz, htake⟩
  · cases h0
  · cases hv
    refine ⟨by rw [List.length_set]; exact h1, .inr ⟨g, cap, cur.setIfInBounds j u, rfl, hg, ?_, hn, hcap, by rw [Array.size_setIfInBounds]; exact hsz, ?_⟩⟩
    · simp [World.setCell, Array.getElem?_modify, hh]
    · rw [Array.toList_setIfInBounds, List.take_set, htake]
/-- A version is put into its place of a row. -/
def set7 (w : World) (g j : Nat) (v : Ver) : World :=
  ((((((w.setCell ⟨g, j * 7, none⟩ (.int .i64 v.n0)).setCell ⟨g, j * 7 + 1, none⟩ (.int .i64 v.n1)).setCell ⟨g, j * 7 + 2, none⟩ (.int .i64 v.n2)).setCell ⟨g, j * 7 + 3, none⟩ (.int .i64 v.n3)).setCell ⟨g, j * 7 + 4, none⟩ (.int .i64 v.many)).setCell ⟨g, j * 7 + 5, none⟩ (.string v.tag)).setCell ⟨g, j * 7 + 6, none⟩ (.int .i64 v.step)
theorem set7_other (w : World) (g j : Nat) (v : Ver) (k : Nat) (hk : k < j * 7 ∨ j * 7 + 6 < k) : (set7 w g j v).cell? ⟨g, k, none⟩ = w.cell? ⟨g, k, none⟩ := by
  have far : ∀ (X : World) (q : Nat) (u : Value), q ≠ k → (X.setCell ⟨g, q, none⟩ u).cell? ⟨g, k, none⟩ = X.cell? ⟨g, k, none⟩ := fun X q u hq => World.cell?_setCell_other _ _ _ _ (fun e => hq (by simp only [Addr.mk.injEq] at e; omega))
  unfold set7
  rw [far _ _ _ (by omega), far _ _ _ (by omega), far _ _ _ (by omega), far _ _ _ (by omega), far _ _ _ (by omega), far _ _ _ (by omega), far _ _ _ (by omega)]
theorem set7_below {B g : Nat} {a w : World} (h : Below B a w) (hg : B ≤ g) (j : Nat) (v : Ver) : Below B a (set7 w g j v) :=
  ((((((h.setCell (p := ⟨g, _, none⟩) hg _).setCell (p := ⟨g, _, none⟩) hg _).setCell (p := ⟨g, _, none⟩) hg _).setCell (p := ⟨g, _, none⟩) hg _).setCell (p := ⟨g, _, none⟩) hg _).setCell (p := ⟨g, _, none⟩) hg _).setCell (p := ⟨g, _, none⟩) hg _
theorem flat_set (l : List Ver) (j : Nat) (v : Ver) (hj : j < l.length) : (((((((flatV l).set (j * 7) (.int .i64 v.n0)).set (j * 7 + 1) (.int .i64 v.n1)).set (j * 7 + 2) (.int .i64 v.n2)).set (j * 7 + 3) (.int .i64 v.n3)).set (j * 7 + 4) (.int .i64 v.many)).set (j * 7 + 5) (.string v.tag)).set (j * 7 + 6) (.int .i64 v.step) = flatV (l.set j v) := by
  induction l generalizing j with
  | nil => simp at hj
  | cons a l ih =>
    cases j with
    | zero => rfl
    | succ j =>
      have sh : ∀ (xs : List Value) (r : Nat) (u : Value), (a.cells ++ xs).set ((j + 1) * 7 + r) u = a.cells ++ xs.set (j * 7 + r) u := fun xs r u => by
        rw [List.set_append_right _ _ (by rw [cells_len]; omega), cells_len, show (j + 1) * 7 + r - 7 = j * 7 + r by omega]
      have sh0 : ∀ (xs : List Value) (u : Value), (a.cells ++ xs).set ((j + 1) * 7) u = a.cells ++ xs.set (j * 7) u := fun xs u => sh xs 0 u
      rw [flatV_cons, List.set_cons_succ, flatV_cons, sh0, sh, sh, sh, sh, sh, sh, ih j (by simpa using hj)]
theorem row_set {B g cap : Nat} {l : List Ver} {w : World} (h : RowV B g cap l w) (j : Nat) (v : Ver) (hj : j < l.length) : RowV B g cap (l.set j v) (set7 w g j v) := by
  unfold RowV set7
  rw [List.length_set, ← flat_set l j v hj]
  exact owns_set (owns_set (owns_set (owns_set (owns_set (owns_set (owns_set h _ _) _ _) _ _) _ _) _ _) _ _) _ _
theorem set2 (A' C R : List Ver) (a x : Ver) : ((A' ++ [a] ++ x :: C ++ R).set (A'.length + 1) a).set A'.length x = A' ++ x :: (a :: C) ++ R := by
  have e1 : A' ++ [a] ++ x :: C ++ R = (A' ++ [a]) ++ (x :: (C ++ R)) := by simp
  rw [e1, List.set_append_right _ _ (by simp)]
  have e2 : A'.length + 1 - (A' ++ [a]).length = 0 := by simp
  rw [e2, List.set_cons_zero]
  have e3 : A' ++ [a] ++ a :: (C ++ R) = A' ++ (a :: (a :: (C ++ R))) := by simp
  rw [e3, List.set_append_right _ _ (by simp), Nat.sub_self, List.set_cons_zero]
  simp
theorem take_ins (A C R : List Ver) (x : Ver) (k : Nat) (h : A.length + C.length = k) : (A ++ x :: C ++ R).take (k + 1) = A ++ x :: C := by
  have e : (A ++ x :: C).length = k + 1 := by simp; omega
  rw [List.take_append_of_le_length (by omega), List.take_of_length_le (by omega)]
theorem cmp_at (x a : Ver) (c : Int) (hc : cmpV x a = c) (w : World) : Calls Tryz.prog 58 #[.agg #[.int .i64 x.n0, .int .i64 x.n1, .int .i64 x.n2, .int .i64 x.n3, .int .i64 x.many, .string x.tag, .int .i64 x.step], .agg #[.int .i64 a.n0, .int .i64 a.n1, .int .i64 a.n2, .int .i64 a.n3, .int .i64 a.many, .string a.tag, .int .i64 a.step]] w fun e w' => e = .returned (.int .i64 c) ∧ Below w.heap.size w w' := by
  rw [← hc]; exact compare_any x a w

set_option maxRecDepth 100000 in
set_option maxHeartbeats 4000000 in
theorem ins_any (B g n cap : Nat) (l0 : List Ver) (w : World) (hn : l0.length = n) (hn12 : n ≤ 12) (hrow : RowV B g cap l0 w) (hB : B ≤ w.heap.size) :
    Calls Tryz.prog 109 #[.slice (some ⟨g, 0, none⟩) n cap, .int .i64 0, .int .i64 (n : Int), .func (.func 58) #[] #[]] w fun e w' => e = .returned (.tuple #[]) ∧ ∃ l, l.Perm l0 ∧ SortedP l ∧ RowV B g cap l w' ∧ Below B w w' := by
  have HN := Lib.hid hn
  have HR0 := Lib.hid hrow
  have hgB : B ≤ g := (hrow.lt g rfl).1
  have hn' : (n : Int) ≤ 12 := by omega
  clear hn hrow
  go_enter Tryz.func109, Tryz.ntmps109
  go_wp2
  go_loopw [8, 9] (fun i _ wr => ∃ (k : Nat) (l : List Ver), 1 ≤ k ∧ i = .int .i64 k ∧ Hid (l.Perm l0) ∧ Hid (SortedP (l.take k)) ∧ Hid (RowV B g cap l wr) ∧ Below B w wr ∧ k ≤ n + 1) (fun i _ _ => n + 1 - (intOf i).toNat)
  case atStart =>
    refine ⟨1, l0, Nat.le_refl _, rfl, List.Perm.refl _, ?_, HR0, Below.refl _ _, by omega⟩
    show SortedP (l0.take 1)
    cases l0 with
    | nil => exact List.Pairwise.nil
    | cons a r => exact List.pairwise_singleton _ _
  case round =>
    obtain ⟨k, l, hk1, rfl, HP, HS, HR, hb, hkn⟩ := hrel
    by_cases hlt : k < n
    · have hk2 : (k : Int) ≤ 12 := by omega
      go_wp2
      obtain ⟨wo, hwo⟩ : ∃ wo : World, wo = wr := ⟨_, rfl⟩
      subst hwo
      go_loopw [9] (fun j w2 => ∃ (jj : Nat) (A C R : List Ver) (x : Ver), j = .int .i64 (jj : Int) ∧ Hid (A.length = jj) ∧ Hid (A.length + C.length = k) ∧ jj ≤ k ∧ Hid ((A ++ x :: C ++ R).Perm l0) ∧ Hid (SortedP (A ++ C)) ∧ Hid (∀ c ∈ C, cmpV x c < 0) ∧ Hid (RowV B g cap (A ++ x :: C ++ R) w2) ∧ Below B w w2) (fun j _ => (intOf j).toNat)
      case atStart =>
        have hkl : k < l.length := by have := HP.out.length_eq; have := HN.out; omega
        have e : l.take k ++ l[k] :: [] ++ l.drop (k + 1) = l := by
          simp
        refine ⟨k, l.take k, [], l.drop (k + 1), l[k], rfl, ?_, ?_, Nat.le_refl _, ?_, ?_, ?_, ?_, hb⟩
        · show (l.take k).length = k
          rw [List.length_take]; omega
        · show (l.take k).length + 0 = k
          rw [List.length_take]; omega
        · show (l.take k ++ l[k] :: [] ++ l.drop (k + 1)).Perm l0
          rw [e]; exact HP.out
        · show SortedP (l.take k ++ [])
          rw [List.append_nil]; exact HS.out
        · show ∀ c ∈ ([] : List Ver), cmpV l[k] c < 0
          intro c hc; cases hc
        · show RowV B g cap (l.take k ++ l[k] :: [] ++ l.drop (k + 1)) _
          rw [e]; exact HR.out
      case round =>
        obtain ⟨j, A, C, R, x, rfl, HA, HAC, hjk, HP2, HS2, HC2, HR2, hb2⟩ := hrel
        by_cases hj0 : j = 0
        · subst hj0
          go_wp2
          go_quiet (fail)
          go_wp2
          have hA0 : A = [] := List.eq_nil_of_length_eq_zero HA.out
          subst hA0
          refine ⟨⟨k + 1, [] ++ x :: C ++ R, by omega, by go_num, HP2, ?_, HR2.out, below_drewN hb2 _, by omega⟩, by simp [intOf]; omega⟩
          show SortedP (([] ++ x :: C ++ R).take (k + 1))
          rw [take_ins [] C R x k HAC.out]
          exact insert_here [] C x HS2.out HC2.out (fun a ha => by cases ha)
        · obtain ⟨A', a, hAe⟩ : ∃ A' a, A = A' ++ [a] := ⟨_, _, (List.dropLast_concat_getLast (fun e => by have := HA.out; rw [e] at this; exact hj0 this.symm)).symm⟩
          subst hAe
          obtain ⟨p, hp⟩ : ∃ p, j = p + 1 := ⟨j - 1, by omega⟩
          have hpl : A'.length = p := by have := HA.out; simp at this; omega
          have HPL := Lib.hid hpl
          have g1 : (0 : Int) < (j : Int) := by omega
          have g0 : 0 < j := by omega
          have gd : decide ((0 : Int) < (j : Int)) = true := decide_eq_true g1
          have g2 : IntKind.i64.wrap ((j : Int) - 1) = (p : Int) := by rw [IntWalk.i64_in _ (by omega)]; omega
          have g3 : (0 : Int) ≤ (p : Int) := by omega
          have g4 : (p : Int) < (n : Int) := by omega
          have g5 : (j : Int) < (n : Int) := by omega
          have ex : (A' ++ [a] ++ x :: C ++ R)[j]? = some x := by
            rw [List.append_assoc, List.getElem?_append_right (by simp; omega)]
            have : j - (A' ++ [a]).length = 0 := by simp; omega
            rw [this]; rfl
          have ea : (A' ++ [a] ++ x :: C ++ R)[p]? = some a := by
            rw [List.append_assoc, List.append_assoc, List.getElem?_append_right (by omega)]
            have : p - A'.length = 0 := by omega
            rw [this]; rfl
          obtain ⟨c10, c11, c12, c13, c14, c15, c16⟩ := row_cell HR2.out j x ex
          obtain ⟨c20, c21, c22, c23, c24, c25, c26⟩ := row_cell HR2.out p a ea
          obtain ⟨c, hc⟩ : ∃ c, cmpV x a = c := ⟨_, rfl⟩
          have HCM := Lib.hid hc
          have HJP := Lib.hid hp
          have HEX := Lib.hid ex
          have HEA := Lib.hid ea
          clear hpl ex ea hc hp hj0
          by_cases hneg : c < 0
          · have hd : decide (c < 0) = true := decide_eq_true hneg
            go_wp2_with fail
            go_still_tail 14, (by kernel_rfl)
            go_wp2_with (go_at_call 58; refine (cmp_at x a c HCM.out _).mono ?_; rintro e w3 ⟨rfl, hb3⟩)
            have hr3 := row_below (w := wr.drew) HR2.out hb3
            have hr4 := row_set (row_set hr3 j a (by have := (List.getElem?_eq_some_iff.1 HEX.out).1; exact this)) p x (by rw [List.length_set]; exact (List.getElem?_eq_some_iff.1 HEA.out).1)
            obtain ⟨w6, hw6⟩ : ∃ q, q = set7 (set7 w3 g j a) g p x := ⟨_, rfl⟩
            have HST : Hid (RowV B g cap (((A' ++ [a] ++ x :: C ++ R).set j a).set p x) w6) := Lib.hid (by rw [hw6]; exact hr4)
            obtain ⟨d10, d11, d12, d13, d14, d15, d16⟩ := row_cell hr3 j x HEX.out
            obtain ⟨d20, d21, d22, d23, d24, d25, d26⟩ := row_cell hr3 p a HEA.out
            have e20 : (set7 w3 g j a).cell? ⟨g, p * 7, none⟩ = some (.int .i64 a.n0) := by rw [set7_other w3 g j a _ (by have := HJP.out; omega)]; exact d20
            have e21 : (set7 w3 g j a).cell? ⟨g, p * 7 + 1, none⟩ = some (.int .i64 a.n1) := by rw [set7_other w3 g j a _ (by have := HJP.out; omega)]; exact d21
            have e22 : (set7 w3 g j a).cell? ⟨g, p * 7 + 2, none⟩ = some (.int .i64 a.n2) := by rw [set7_other w3 g j a _ (by have := HJP.out; omega)]; exact d22
            have e23 : (set7 w3 g j a).cell? ⟨g, p * 7 + 3, none⟩ = some (.int .i64 a.n3) := by rw [set7_other w3 g j a _ (by have := HJP.out; omega)]; exact d23
            have e24 : (set7 w3 g j a).cell? ⟨g, p * 7 + 4, none⟩ = some (.int .i64 a.many) := by rw [set7_other w3 g j a _ (by have := HJP.out; omega)]; exact d24
            have e25 : (set7 w3 g j a).cell? ⟨g, p * 7 + 5, none⟩ = some (.string a.tag) := by rw [set7_other w3 g j a _ (by have := HJP.out; omega)]; exact d25
            have e26 : (set7 w3 g j a).cell? ⟨g, p * 7 + 6, none⟩ = some (.int .i64 a.step) := by rw [set7_other w3 g j a _ (by have := HJP.out; omega)]; exact d26
            unfold set7 at e20 e21 e22 e23 e24 e25 e26
            have f1 : ∀ r, w3.frozen? ⟨g, r, none⟩ = false := fun r => hr3.frozenAt r
            have HB3 := Lib.hid ((hb2.drew).trans (hb3.mono (Nat.le_trans hB hb2.size)))
            have HB6 : Hid (Below B w w6) := Lib.hid (by rw [hw6]; exact set7_below (set7_below HB3.out hgB j a) hgB p x)
            unfold set7 at hw6
            clear hr3 hr4 HB3 c10 c11 c12 c13 c14 c15 c16 c20 c21 c22 c23 c24 c25 c26 hb3
            go_region
            rw [← hw6]
            clear hw6 d10 d11 d12 d13 d14 d15 d16 d20 d21 d22 d23 d24 d25 d26 e20 e21 e22 e23 e24 e25 e26 f1
            go_wp2
            go_roundw
            case rel =>
              have e2 : ((A' ++ [a] ++ x :: C ++ R).set j a).set p x = A' ++ x :: (a :: C) ++ R := by
                have := set2 A' C R a x
                rw [HPL.out, ← HJP.out] at this
                exact this
              have h5 := HST.out
              rw [e2] at h5
              refine ⟨p, A', a :: C, R, x, rfl, HPL, ?_, by have := HJP.out; omega, ?_, ?_, ?_, row_drew h5, HB6.out.drew⟩
              · show A'.length + (a :: C).length = k
                have := HAC.out
                simp at this ⊢
                omega
              · show (A' ++ x :: (a :: C) ++ R).Perm l0
                refine List.Perm.trans ?_ HP2.out
                have : (A' ++ x :: (a :: C) ++ R).Perm (A' ++ a :: (x :: C) ++ R) := by
                  simp only [List.append_assoc, List.cons_append]
                  exact (List.Perm.swap a x (C ++ R)).append_left A'
                refine this.trans (List.Perm.of_eq ?_)
                simp
              · show SortedP (A' ++ a :: C)
                have := HS2.out
                simpa using this
              · show ∀ c' ∈ a :: C, cmpV x c' < 0
                intro c' hc'
                rcases List.mem_cons.1 hc' with rfl | hc'
                · rw [HCM.out]; exact hneg
                · exact HC2.out c' hc'
            case measure =>
              have := HJP.out
              simp [intOf]
              omega
          · have hd : decide (c < 0) = false := decide_eq_false hneg
            go_wp2_with fail
            go_still_tail 14, (by kernel_rfl)
            go_wp2_with (go_at_call 58; refine (cmp_at x a c HCM.out _).mono ?_; rintro e w3 ⟨rfl, hb3⟩)
            have hr3 := row_below (w := wr.drew) HR2.out hb3
            refine ⟨⟨k + 1, A' ++ [a] ++ x :: C ++ R, by omega, by go_num, HP2, ?_, hr3, (hb2.drew).trans (hb3.mono (Nat.le_trans hB hb2.size)), by omega⟩, by simp [intOf]; omega⟩
            show SortedP ((A' ++ [a] ++ x :: C ++ R).take (k + 1))
            rw [take_ins (A' ++ [a]) C R x k HAC.out]
            refine insert_here (A' ++ [a]) C x HS2.out HC2.out (fun y hy => ?_)
            simp at hy
            subst hy
            rw [HCM.out]
            omega
    · go_wp2
      go_end0
      have hl : l.length = n := by have := HP.out.length_eq; have := HN.out; omega
      have hs := HS.out
      rw [List.take_of_length_le (by omega)] at hs
      exact ⟨rfl, l, HP.out, hs, HR.out, hb⟩

set_option maxHeartbeats 1000000 in
theorem pdq_any (B g n cap : Nat) (l0 : List Ver) (lim : Int) (w : World) (hn : l0.length = n) (hn12 : n ≤ 12) (hrow : RowV B g cap l0 w) (hB : B ≤ w.heap.size) :
    Calls Tryz.prog 90 #[.slice (some ⟨g, 0, none⟩) n cap, .int .i64 0, .int .i64 (n : Int), .int .i64 lim, .func (.func 58) #[] #[]] w fun e w' => e = .returned (.tuple #[]) ∧ ∃ l, l.Perm l0 ∧ SortedP l ∧ RowV B g cap l w' ∧ Below B w w' := by
  have HI := Lib.hid (ins_any B g n cap l0 w hn hn12 hrow hB)
  have hn' : (n : Int) ≤ 12 := by omega
  clear hn hrow
  go_enter Tryz.func90, Tryz.ntmps90
  go_wp2
  refine wp_loop_rounds 1 ?_
  rw [rounds_succ]
  go_wp2_with (go_at_call 109; refine HI.out.mono ?_; rintro e w' ⟨rfl, hl⟩; have HL := Lib.hid hl; clear hl)
  (try simp only [Exit.inBlock, Exit.then])
  refine bodyPost_ret (results_none rfl _ _ _) rfl ?_
  exact ⟨rfl, HL.out⟩

set_option maxHeartbeats 1000000 in
theorem sort_some (B g n cap : Nat) (l0 : List Ver) (w : World) (hn : l0.length = n) (hn12 : n ≤ 12) (hrow : RowV B g cap l0 w) (hB : B ≤ w.heap.size) :
    Calls Tryz.prog 72 #[.slice (some ⟨g, 0, none⟩) n cap, .func (.func 58) #[] #[]] w fun e w' => e = .returned (.tuple #[]) ∧ ∃ l, l.Perm l0 ∧ SortedP l ∧ RowV B g cap l w' ∧ Below B w w' := by
  have HI := Lib.hid (fun lim => pdq_any B g n cap l0 lim w hn hn12 hrow hB)
  have hn' : (n : Int) ≤ 12 := by omega
  have hl : ∀ W, Calls Tryz.prog 91 #[.int .u64 (n : Int)] W fun e w' => (∃ v : Int, e = .returned (.int .i64 v)) ∧ W = w' := fun W =>
    (bits_Len (n : Int) W (by omega) (by omega)).mono fun _ _ ⟨he, hw⟩ => ⟨⟨_, he⟩, hw.symm⟩
  have HL := Lib.hid hl
  have wr : IntKind.u64.wrap (n : Int) = n := by simp [IntKind.wrap, IntKind.bits, IntKind.signed]; omega
  clear hn hrow hl
  go_enter Tryz.func72, Tryz.ntmps72
  go_wp2_with (first | (go_at_call 91; refine (HL.out _).mono ?_; rintro e w' ⟨⟨v, rfl⟩, rfl⟩) | (go_at_call 90; refine (HI.out _).mono ?_; rintro e w' ⟨rfl, hl⟩; have HX := Lib.hid hl; clear hl))
  go_end0
  exact ⟨rfl, HX.out⟩
end Go.Proofs.YtlfehjjnepiljaaGreatDoor

namespace Go.Proofs.YtlfehjjnepiljaaGreatDoor
open Go.RowKit Go.Shelf

set_option maxHeartbeats 1000000 in
theorem ins_nil (w : World) : Calls Tryz.prog 109 #[.slice none 0 0, .int .i64 0, .int .i64 0, .func (.func 58) #[] #[]] w fun e w' => e = .returned (.tuple #[]) ∧ w = w' := by
  go_enter Tryz.func109, Tryz.ntmps109
  go_wp2
  refine wp_loop_rounds 1 ?_
  rw [rounds_succ]
  go_wp2
  go_end0
  exact ⟨rfl, rfl⟩
set_option maxHeartbeats 1000000 in
theorem pdq_nil (lim : Int) (w : World) : Calls Tryz.prog 90 #[.slice none 0 0, .int .i64 0, .int .i64 0, .int .i64 lim, .func (.func 58) #[] #[]] w fun e w' => e = .returned (.tuple #[]) ∧ w = w' := by
  go_enter Tryz.func90, Tryz.ntmps90
  go_wp2
  refine wp_loop_rounds 1 ?_
  rw [rounds_succ]
  go_wp2_with (go_at_call 109; refine (ins_nil _).mono ?_; rintro e w' ⟨rfl, rfl⟩)
  (try simp only [Exit.inBlock, Exit.then])
  exact bodyPost_ret (results_none rfl _ _ _) rfl ⟨rfl, rfl⟩
set_option maxHeartbeats 1000000 in
theorem sort_nil (w : World) : Calls Tryz.prog 72 #[.slice none 0 0, .func (.func 58) #[] #[]] w fun e w' => e = .returned (.tuple #[]) ∧ w = w' := by
  have HL : Hid (∀ W, Calls Tryz.prog 91 #[.int .u64 0] W fun e w' => (∃ v : Int, e = .returned (.int .i64 v)) ∧ W = w') := Lib.hid (fun W => (bits_Len 0 W (by omega) (by omega)).mono fun _ _ ⟨he, hw⟩ => ⟨⟨_, he⟩, hw.symm⟩)
  go_enter Tryz.func72, Tryz.ntmps72
  go_wp2_with (first | (go_at_call 91; refine (HL.out _).mono ?_; rintro e w' ⟨⟨v, rfl⟩, rfl⟩) | (go_at_call 90; refine (pdq_nil _ _).mono ?_; rintro e w' ⟨rfl, rfl⟩))
  go_end0
  exact ⟨rfl, rfl⟩

/-- Those that may be. -/
def okV (l : List Ver) : List Ver := l.filter (·.ok)
theorem okV_snoc {l : List Ver} {k : Nat} {v : Ver} (h : l[k]? = some v) : okV (l.take (k + 1)) = okV (l.take k) ++ (if v.ok = true then [v] else []) := by
  unfold okV
  rw [List.take_add_one, h, List.filter_append]
  cases ho : v.ok <;> simp [ho]
theorem okV_len (l : List Ver) (k : Nat) : (okV (l.take k)).length ≤ k := Nat.le_trans (List.length_filter_le _ _) (by rw [List.length_take]; omega)

def SortR (l : List Ver) (w : World) (e : Ending) (w' : World) : Prop := ∃ (x : Value) (r : List Ver), e = .returned x ∧ r.Perm (okV l) ∧ SortedP r ∧ w'.ownsRow w.heap.size 45 7 x r.length (flatV r) ∧ Below w.heap.size w w'
theorem grow_snoc {w : World} {B : Nat} {x : Value} {r : List Ver} {v : Ver} {n : Nat} (h : w.ownsRow B 45 7 x n (flatV r ++ v.cells)) (hn : n = r.length + 1) : w.ownsRow B 45 7 x (r ++ [v]).length (flatV (r ++ [v])) := by
  rw [flatV_append, List.length_append, List.length_singleton, ← hn]
  have e : flatV [v] = v.cells := by unfold flatV; simp
  rw [e]
  exact h

theorem own_form {w : World} {B n : Nat} {x : Value} {xs : List Value} (h : w.ownsRow B 45 7 x n xs) : ∃ a c, x = .slice a n c := by
  rcases h.2 with ⟨rfl, h0⟩ | ⟨g, cap, _, rfl, _⟩
  · exact ⟨none, 0, by rw [h0]⟩
  · exact ⟨_, _, rfl⟩
theorem own_low {w : World} {B n : Nat} {x : Value} {xs : List Value} (h : w.ownsRow B 45 7 x n xs) : ∀ k, x.ownBlock = some k → B ≤ k := by
  intro k hk
  rcases h.2 with ⟨rfl, _⟩ | ⟨g, cap, _, rfl, hg, _⟩
  · simp [Value.ownBlock] at hk
  · simp [Value.ownBlock] at hk
    omega

set_option maxRecDepth 100000 in
set_option maxHeartbeats 4000000 in
theorem vsort_any (l : List Ver) (x : Value) (w : World) (hx : RdV w x l) (hl : l.length ≤ 12) : Calls Tryz.prog 49 #[x] w (SortR l w) := by
  obtain ⟨a, c, rfl, hlc, hcm, hcell⟩ := hx
  obtain ⟨i0, hi, hz0, hz1, hz2⟩ := info_parts info26z
  have HC := Lib.hid hcell
  obtain ⟨n, hn⟩ : ∃ n, n = l.length := ⟨_, rfl⟩
  rw [← hn] at hlc HC hl ⊢
  have HN := Lib.hid hn
  unfold maxLen at hcm
  clear hn hcell
  go_enter Tryz.func49, Tryz.ntmps49
  go_wp2_with fail
  go_loopw [3, 5, 8, 9, 10, 11, 12, 13, 14, 15, 16, 17, 18] (fun r _ i _ _ _ _ _ _ _ _ _ _ W => ∃ k : Nat, k ≤ n ∧ i = .int .i64 k ∧ Hid (W.ownsRow w.heap.size 45 7 r (okV (l.take k)).length (flatV (okV (l.take k)))) ∧ Hid (okV (l.take k) = [] → r = .slice none 0 0) ∧ Hid (Below w.heap.size w W)) (fun _ _ i _ _ _ _ _ _ _ _ _ _ _ => n - (Lib.intOf i).toNat)
  case atStart => exact ⟨0, Nat.zero_le _, rfl, Lib.hid (World.ownsRow_nil _ _ _ _), Lib.hid (fun _ => rfl), Lib.hid (Below.refl _ _)⟩
  case round =>
    obtain ⟨k, hk, rfl, HR, HNIL, HB⟩ := hrel
    obtain ⟨wq, hwq⟩ : ∃ q, q = wr := ⟨_, rfl⟩
    rw [← hwq] at HR HB ⊢
    clear hwq
    by_cases hlt : k < n
    · obtain ⟨v, hv⟩ : ∃ v, l[k]? = some v := ⟨_, List.getElem?_eq_getElem (by have := HN.out; omega)⟩
      obtain ⟨g, o, rfl, hg, hc⟩ := HC.out (by omega)
      obtain ⟨q0, q1, q2, q3, q4, q5, q6⟩ := hc k v hv
      have r0 := (HB.out.cell (p := ⟨g, _, none⟩) hg).trans q0
      have r1 := (HB.out.cell (p := ⟨g, _, none⟩) hg).trans q1
      have r2 := (HB.out.cell (p := ⟨g, _, none⟩) hg).trans q2
      have r3 := (HB.out.cell (p := ⟨g, _, none⟩) hg).trans q3
      have r4 := (HB.out.cell (p := ⟨g, _, none⟩) hg).trans q4
      have r5 := (HB.out.cell (p := ⟨g, _, none⟩) hg).trans q5
      have r6 := (HB.out.cell (p := ⟨g, _, none⟩) hg).trans q6
      have k1 : (k : Int) < (n : Int) := by omega
      have k2 : (0 : Int) ≤ (k : Int) := by omega
      have k4 : IntKind.i64.wrap ((k : Int) + 1) = (k : Int) + 1 := IntWalk.i64_in _ (by omega)
      have HS := Lib.hid (okV_snoc hv)
      have hml := okV_len l k
      clear q0 q1 q2 q3 q4 q5 q6 hc hv
      have X0 : Hid (Box (wq.alloc (.cells Ver.zero.arr 45)) wq.heap.size 45 Ver.zero.arr) := Lib.hid box_new
      obtain ⟨w2, hw2⟩ : ∃ q, q = (wq.alloc (.cells Ver.zero.arr 45)).setRow wq.heap.size v.arr := ⟨_, rfl⟩
      have X2 : Hid (Box w2 wq.heap.size 45 v.arr) := Lib.hid (by rw [hw2]; exact X0.out.row _)
      have b2 : Below wq.heap.size wq w2 := by rw [hw2]; exact below_row ((Below.refl _ _).alloc (Nat.le_refl _) _) (Nat.le_refl _) _
      have B2 : Hid (Below w.heap.size w w2) := Lib.hid (bch HB.out b2)
      have R2 := Lib.hid (owns_below HR.out b2)
      obtain ⟨ok, hok⟩ : ∃ ok, ok = v.ok := ⟨_, rfl⟩
      have HT := Lib.hid (tells_of hok)
      have HOK := Lib.hid hok
      have hgq := HB.out.size
      clear b2 hok
      go_upto_region 5 with (first
        | (with_reducible refine wpList_zero rfl 45 rfl Ver.zero.arr zero26 ?_)
        | (refine wpList_store_row rfl 45 (.tmp 5) (.tmp 11) rfl wq.heap.size v.arr rfl rfl 45 _ X0.out (info26 _) rfl (arr_one _) ?_))
      rw [← hw2]
      clear hw2 X0 r0 r1 r2 r3 r4 r5 r6 HR HB
      go_wp2_with (refine wpList_load_row rfl 45 (.tmp 5) rfl wq.heap.size rfl 45 v.arr (0, 0) _ X2.out Tryz.underlying45 rfl (info26 _) ?_)
      refine (HT.out _).mono ?_
      rintro e w3 ⟨rfl, hb⟩
      have X3 := Lib.hid (X2.out.on hb)
      have B3 := Lib.hid (bch B2.out hb)
      have R3 := Lib.hid (owns_below R2.out hb)
      clear X2 B2 R2 HT hb
      cases ok with
      | false =>
        have HS2 : Hid (okV (l.take (k + 1)) = okV (l.take k)) := Lib.hid (by rw [HS.out, ← HOK.out]; simp)
        clear HS HOK X3
        go_wp2_with fail
        go_roundw
        case rel => exact ⟨k + 1, hlt, by go_num, by rw [HS2.out]; exact R3, by rw [HS2.out]; exact HNIL, B3⟩
        case measure => simp [Lib.intOf]; omega
      | true =>
        have HS2 : Hid (okV (l.take (k + 1)) = okV (l.take k) ++ [v]) := Lib.hid (by rw [HS.out, ← HOK.out]; simp)
        obtain ⟨r, hr⟩ : ∃ r, r = okV (l.take k) := ⟨_, rfl⟩
        rw [← hr] at R3 hml HS2
        have hml12 : r.length ≤ 12 := by omega
        have hfl := flatV_len r
        obtain ⟨ao, cp, rfl⟩ := own_form R3.out
        have HLOW := Lib.hid (own_low R3.out)
        have HNW : Hid (∀ (j : Nat) (u : Value), v.cells[j]? = some u → (w3.alloc (.cells #[.int .i64 v.n0, .int .i64 v.n1, .int .i64 v.n2, .int .i64 v.n3, .int .i64 v.many, .string v.tag, .int .i64 v.step] 45)).cell? ((⟨w3.heap.size, 0, none⟩ : Addr).add j) = some u) := Lib.hid (fun j u hu => by
          rw [add_to, Nat.zero_add, World.cell?_alloc_new]
          show (Ver.arr v)[j]? = some u
          rw [← Array.getElem?_toList]
          exact hu)
        have c0 := X3.out.ver.c0
        have c1 := X3.out.ver.c1
        have c2 := X3.out.ver.c2
        have c3 := X3.out.ver.c3
        have c4 := X3.out.ver.c4
        have c5 := X3.out.ver.c5
        have c6 := X3.out.ver.c6
        have hsz3 := B3.out.size
        clear HS HOK hr X3
        go_wp2_with (at_builtin; refine wpList_append_own _ rfl _ _ 41 rfl w.heap.size 45 i0 (.agg Ver.zero.arr) 7 64 Tryz.underlying41 hi hz0 hz1 hz2 rfl (by decide) _ _ _ rfl (R3.out.alloc _) ⟨w3.heap.size, 0, none⟩ 1 1 v.cells rfl rfl HNW.out (ver_one v) (by unfold maxLen; omega) (by omega) (by simp; omega) ?_; intro v' w4 hown' hgrow _; have HO := Lib.hid hown'; have HG := Lib.hid hgrow; clear hown' hgrow)
        go_roundw
        case rel => exact ⟨k + 1, hlt, by go_num, by rw [HS2.out]; exact Lib.hid (grow_snoc HO.out rfl), Lib.hid (fun h => by rw [HS2.out] at h; simp at h), Lib.hid ((B3.out.alloc hsz3 _).grown HG.out (by simp; omega) HLOW.out)⟩
        case measure => simp [Lib.intOf]; omega
    · have hke : k = n := by omega
      have HF : Hid (okV (l.take k) = okV l) := Lib.hid (by rw [List.take_of_length_le (by have := HN.out; omega)])
      rw [HF.out] at HR
      have hlo : (okV l).length ≤ 12 := by
        have := List.length_filter_le (·.ok) l
        unfold okV
        have := HN.out
        omega
      have k1 : ¬ ((k : Int) < (n : Int)) := by omega
      obtain ⟨r, hr⟩ : ∃ r, r = okV l := ⟨_, rfl⟩
      rw [← hr] at HR hlo
      have HRR := Lib.hid hr
      clear hke hlt hr
      cases r with
      | nil =>
        have h0 : u3 = .slice none 0 0 := HNIL.out (by rw [HF.out, ← HRR.out])
        subst h0
        go_wp2_with (go_at_call 72; refine (sort_nil _).mono ?_; rintro e w' ⟨rfl, rfl⟩)
        go_ret
        exact ⟨_, [], rfl, by rw [← HRR.out], List.Pairwise.nil, World.ownsRow_nil _ _ _ _, HB.out⟩
      | cons v0 r0 =>
        obtain ⟨r, hr⟩ : ∃ r, r = v0 :: r0 := ⟨_, rfl⟩
        have hpos : 0 < r.length := by rw [hr]; simp
        rw [← hr] at HR HRR hlo
        obtain ⟨g, cap, rfl⟩ : ∃ g cap, u3 = .slice (some ⟨g, 0, none⟩) r.length cap := by
          rcases HR.out.2 with ⟨_, h0⟩ | ⟨g, cap, _, h1, _⟩
          · omega
          · exact ⟨g, cap, h1⟩
        have HSO := Lib.hid (sort_some w.heap.size g r.length cap r wq rfl hlo HR.out HB.out.size)
        clear hr hpos HNIL HF
        go_wp2_with (go_at_call 72; refine HSO.out.mono ?_; rintro e w' ⟨rfl, hl'⟩; have HX := Lib.hid hl'; clear hl')
        obtain ⟨q, h1, h2, h3, h4⟩ := HX.out
        go_ret
        refine ⟨_, q, rfl, ?_, h2, ?_, ?_⟩
        · rw [← HRR.out]; exact h1
        · have := h1.length_eq
          unfold RowV at h3
          rw [this] at h3 ⊢
          exact h3
        · exact HB.out.trans h4
end Go.Proofs.YtlfehjjnepiljaaGreatDoor
