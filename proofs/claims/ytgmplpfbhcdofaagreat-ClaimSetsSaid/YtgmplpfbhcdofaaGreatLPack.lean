/- Proved here: CheckLeaves of package pack, and what it calls. -/
import Derived.Test.YtgmplpfbhcdofaaGreatLFind
import Derived.StillTailTactics
import Derived.RegionTactic
namespace Go.Proofs.YtgmplpfbhcdofaaGreat
open Go.RowKit Go.Shelf
attribute [local go_sem] Oper.semAt_some

set_option maxRecDepth 100000 in
set_option maxHeartbeats 2000000 in
theorem leaf_any (x : Lf) (w : World) : Calls Tryz.prog 116 #[.agg #[.string ⟨x.p.toArray⟩, .bool x.dir, .string ⟨x.d.toArray⟩]] w fun e w' => e = .returned (.bool (validLf x)) ∧ Below w.heap.size w w' := by
  obtain ⟨w1, hw1⟩ : ∃ q, q = w.alloc (.cells #[.string ⟨x.p.toArray⟩, .bool x.dir, .string ⟨x.d.toArray⟩] 63) := ⟨_, rfl⟩
  have X1 : Hid (Box w1 w.heap.size 63 x.arr) := Lib.hid (by rw [hw1]; exact box_new)
  have B1 : Hid (Below w.heap.size w w1) := Lib.hid (by rw [hw1]; exact below_new _ _)
  obtain ⟨bx, hbx⟩ : ∃ q, q = w.heap.size := ⟨_, rfl⟩
  rw [← hbx] at X1
  go_enter Tryz.func116, Tryz.ntmps116
  go_upto_region 1 with fail
  rw [← hw1, ← hbx]
  clear hw1 hbx
  have x0 : w1.cell? ⟨bx, 0, none⟩ = some (.string ⟨x.p.toArray⟩) := X1.out.cell (k := 0) rfl
  have x1 : w1.cell? ⟨bx, 1, none⟩ = some (.bool x.dir) := X1.out.cell (k := 1) rfl
  have x2 : w1.cell? ⟨bx, 2, none⟩ = some (.string ⟨x.d.toArray⟩) := X1.out.cell (k := 2) rfl
  by_cases hr : x.p = [47]
  · have t1 : (x.p == [47]) = true := by simp [hr]
    have HV : Hid (validLf x = false) := Lib.hid (by unfold validLf; simp [hr])
    clear hr
    go_wp2
    go_ret
    exact ⟨by rw [HV.out]; rfl, B1.out⟩
  · have t1 : (x.p == [47]) = false := by simp [hr]
    by_cases hl : x.p.length ≤ 60
    · have t2 : decide ((x.p.length : Int) > 60) = false := decide_eq_false (by omega)
      obtain ⟨b, hb⟩ : ∃ b, b = Pt.validB x.p := ⟨_, rfl⟩
      have HCK : Hid (∀ W : World, Calls Tryz.prog 138 #[.string ⟨x.p.toArray⟩] W fun e w' => e = .returned (.int .i64 (Pt.errB b)) ∧ Below W.heap.size W w') := Lib.hid (fun W => by
        rw [hb]; exact Pt.check_any ⟨x.p.toArray⟩ (by show x.p.length ≤ _; omega) W)
      cases b with
      | false =>
        have HV : Hid (validLf x = false) := Lib.hid (by unfold validLf; rw [← hb]; simp)
        have HCK2 : Hid (∀ W : World, Calls Tryz.prog 138 #[.string ⟨x.p.toArray⟩] W fun e w' => e = .returned (.int .i64 110) ∧ Below W.heap.size W w') := HCK
        clear hr hl hb HCK
        go_wp2_with (go_at_call 138; refine (HCK2.out _).mono ?_; rintro e w2 ⟨rfl, hb2⟩; have B2 := Lib.hid (bch B1.out hb2); clear hb2)
        go_ret
        exact ⟨by rw [HV.out]; rfl, B2.out⟩
      | true =>
        have HCK2 : Hid (∀ W : World, Calls Tryz.prog 138 #[.string ⟨x.p.toArray⟩] W fun e w' => e = .returned (.int .i64 0) ∧ Below W.heap.size W w') := HCK
        cases hd : x.dir with
        | true =>
          have HV : Hid (validLf x = x.d.isEmpty) := Lib.hid (by unfold validLf; rw [← hb, hd, decide_eq_true hl]; simp [hr])
          have HD := Lib.hid hd
          rw [hd] at x1
          clear hr hl hb HCK hd
          go_upto_region 3 with (go_at_call 138; refine (HCK2.out _).mono ?_; rintro e w2 ⟨rfl, hb2⟩; have X2 := Lib.hid (X1.out.on hb2); have B2 := Lib.hid (bch B1.out hb2); clear hb2)
          clear x0 x1 x2
          have x1 : w2.cell? ⟨bx, 1, none⟩ = some (.bool true) := by rw [X2.out.cell (k := 1) (v := .bool x.dir) rfl, HD.out]
          have x2 : w2.cell? ⟨bx, 2, none⟩ = some (.string ⟨x.d.toArray⟩) := X2.out.cell (k := 2) rfl
          go_wp2
          go_ret
          exact ⟨by rw [HV.out]; rfl, B2.out⟩
        | false =>
          have HV : Hid (validLf x = decide (x.d.length ≤ 200)) := Lib.hid (by unfold validLf; rw [← hb, hd, decide_eq_true hl]; simp [hr])
          have HD := Lib.hid hd
          rw [hd] at x1
          clear hr hl hb HCK hd
          go_upto_region 3 with (go_at_call 138; refine (HCK2.out _).mono ?_; rintro e w2 ⟨rfl, hb2⟩; have X2 := Lib.hid (X1.out.on hb2); have B2 := Lib.hid (bch B1.out hb2); clear hb2)
          clear x0 x1 x2
          have x1 : w2.cell? ⟨bx, 1, none⟩ = some (.bool false) := by rw [X2.out.cell (k := 1) (v := .bool x.dir) rfl, HD.out]
          have x2 : w2.cell? ⟨bx, 2, none⟩ = some (.string ⟨x.d.toArray⟩) := X2.out.cell (k := 2) rfl
          have HI : Hid (decide ((x.d.length : Int) ≤ 200) = decide (x.d.length ≤ 200)) := Lib.hid (decide_eq_decide.2 (by omega))
          go_wp2
          go_ret
          exact ⟨by rw [HV.out, ← HI.out]; rfl, B2.out⟩
    · have t2 : decide ((x.p.length : Int) > 60) = true := decide_eq_true (by omega)
      have HV : Hid (validLf x = false) := Lib.hid (by unfold validLf; rw [decide_eq_false hl]; simp)
      clear hr hl
      go_wp2
      go_ret
      exact ⟨by rw [HV.out]; rfl, B1.out⟩

/-- Find's answer, cell by cell. -/
theorem find_lit (l : List Lf) (v : Value) (p : Bs) (w : World) (hv : RdL w v l) (hl : l.length ≤ 1000000) {y : Lf} {b : Bool} (hy : findL l p = (y, b)) : Calls Tryz.prog 140 #[v, .string ⟨p.toArray⟩] w fun e w' => e = .returned (.tuple #[.agg #[.string ⟨y.p.toArray⟩, .bool y.dir, .string ⟨y.d.toArray⟩], .bool b]) ∧ Below w.heap.size w w' :=
  (find_any l v ⟨p.toArray⟩ w hv hl).mono (by
    rintro e w' ⟨h, hb⟩
    refine ⟨?_, hb⟩
    rw [h]
    show Ending.returned (.tuple #[.agg (findL l p).1.arr, .bool (findL l p).2]) = _
    rw [hy]; rfl)

set_option maxRecDepth 100000 in
set_option maxHeartbeats 2000000 in
theorem indir_any (x : Lf) (l : List Lf) (v : Value) (w : World) (hv : RdL w v l) (hl : l.length ≤ 1000000) (hx : x.p.length ≤ 140737488355328) : Calls Tryz.prog 117 #[.agg #[.string ⟨x.p.toArray⟩, .bool x.dir, .string ⟨x.d.toArray⟩], v] w fun e w' => e = .returned (.bool (inDirB x l)) ∧ Below w.heap.size w w' := by
  obtain ⟨w1, hw1⟩ : ∃ q, q = w.alloc (.cells #[.string ⟨x.p.toArray⟩, .bool x.dir, .string ⟨x.d.toArray⟩] 63) := ⟨_, rfl⟩
  have X1 : Hid (Box w1 w.heap.size 63 x.arr) := Lib.hid (by rw [hw1]; exact box_new)
  have hb1 : Below w.heap.size w w1 := by rw [hw1]; exact below_new _ _
  have B1 := Lib.hid hb1
  have HV1 := Lib.hid (RdL.on hv hb1)
  obtain ⟨u, hu⟩ : ∃ u, u = Pt.upL x.p := ⟨_, rfl⟩
  have HUP : Hid (∀ W : World, Calls Tryz.prog 139 #[.string ⟨x.p.toArray⟩] W fun e w' => e = .returned (.string ⟨u.toArray⟩) ∧ Below W.heap.size W w') := Lib.hid (fun W => by rw [hu]; exact Pt.up_any ⟨x.p.toArray⟩ hx W)
  have HU := Lib.hid hu
  have HLL := Lib.hid hl
  obtain ⟨a, c, rfl, _, _, _⟩ := hv.open
  obtain ⟨n, hn⟩ : ∃ n, n = l.length := ⟨_, rfl⟩
  rw [← hn] at HV1 ⊢
  obtain ⟨bx, hbx⟩ : ∃ q, q = w.heap.size := ⟨_, rfl⟩
  rw [← hbx] at X1
  have HIN : Hid (inDirB x l = (u == [47] || ((findL l u).2 && (findL l u).1.dir))) := Lib.hid (by rw [hu]; rfl)
  clear hv hb1 hu hl hn hx
  go_enter Tryz.func117, Tryz.ntmps117
  go_upto_region 1 with fail
  rw [← hw1, ← hbx]
  clear hw1 hbx
  have x0 : w1.cell? ⟨bx, 0, none⟩ = some (.string ⟨x.p.toArray⟩) := X1.out.cell (k := 0) rfl
  cases hf : findL l u with
  | mk y b =>
    rw [hf] at HIN
    have HFI : Hid (∀ W : World, Below w1.heap.size w1 W → Calls Tryz.prog 140 #[.slice a n c, .string ⟨u.toArray⟩] W fun e w' => e = .returned (.tuple #[.agg #[.string ⟨y.p.toArray⟩, .bool y.dir, .string ⟨y.d.toArray⟩], .bool b]) ∧ Below W.heap.size W w') := Lib.hid (fun W hW => find_lit l _ u W (HV1.out.on hW) HLL.out hf)
    clear hf
    go_upto_region 2 with (go_at_call 139; refine (HUP.out _).mono ?_; rintro e w2 ⟨rfl, hb2⟩; have HB2 := Lib.hid hb2; clear hb2)
    clear x0
    go_upto_region 3 with (go_at_call 140; refine (HFI.out _ HB2.out).mono ?_; rintro e w3 ⟨rfl, hb3⟩; have HB3 := Lib.hid (bch B1.out (bch HB2.out hb3)); clear hb3)
    obtain ⟨w4, hw4⟩ : ∃ q, q = w3.alloc (.cells #[.string ⟨y.p.toArray⟩, .bool y.dir, .string ⟨y.d.toArray⟩] 63) := ⟨_, rfl⟩
    have X4 : Box w4 w3.heap.size 63 y.arr := by rw [hw4]; exact box_new
    have y1 : w4.cell? ⟨w3.heap.size, 1, none⟩ = some (.bool y.dir) := X4.cell (k := 1) rfl
    have HB4 : Hid (Below w.heap.size w w4) := Lib.hid (by rw [hw4]; exact bch HB3.out (below_new _ _))
    rw [← hw4]
    obtain ⟨b6, hb6⟩ : ∃ q, q = w3.heap.size := ⟨_, rfl⟩
    rw [← hb6] at y1 ⊢
    clear hw4 hb6 X4
    by_cases hr : u = [47]
    · have t1 : (u == [47]) = true := by simp [hr]
      have HV : Hid (inDirB x l = true) := Lib.hid (by rw [HIN.out, t1]; rfl)
      clear hr
      go_wp2
      go_ret
      exact ⟨by rw [HV.out]; rfl, HB4.out⟩
    · have t1 : (u == [47]) = false := by simp [hr]
      clear hr
      cases b with
      | false =>
        have HV : Hid (inDirB x l = false) := Lib.hid (by rw [HIN.out, t1]; rfl)
        go_wp2
        go_ret
        exact ⟨by rw [HV.out]; rfl, HB4.out⟩
      | true =>
        have HV : Hid (inDirB x l = y.dir) := Lib.hid (by rw [HIN.out, t1]; simp)
        go_wp2
        go_ret
        exact ⟨by rw [HV.out]; rfl, HB4.out⟩

set_option maxRecDepth 100000 in
set_option maxHeartbeats 2000000 in
theorem lcmp_any (x y : Lf) (hx : x.p.length ≤ 140737488355328) (hy : y.p.length ≤ 140737488355328) (w : World) : Calls Tryz.prog 119 #[.agg #[.string ⟨x.p.toArray⟩, .bool x.dir, .string ⟨x.d.toArray⟩], .agg #[.string ⟨y.p.toArray⟩, .bool y.dir, .string ⟨y.d.toArray⟩]] w fun e w' => e = .returned (.int .i64 (Pt.cmpL x.p y.p)) ∧ Below w.heap.size w w' := by
  obtain ⟨w1, hw1⟩ : ∃ q, q = (w.alloc (.cells #[.string ⟨x.p.toArray⟩, .bool x.dir, .string ⟨x.d.toArray⟩] 63)).alloc (.cells #[.string ⟨y.p.toArray⟩, .bool y.dir, .string ⟨y.d.toArray⟩] 63) := ⟨_, rfl⟩
  have X1 : Box w1 w.heap.size 63 x.arr := by rw [hw1]; exact box_new.alloc _
  have X2 : Box w1 (w.heap.size + 1) 63 y.arr := by rw [hw1, show w.heap.size + 1 = (w.alloc (.cells #[.string ⟨x.p.toArray⟩, .bool x.dir, .string ⟨x.d.toArray⟩] 63)).heap.size from by simp]; exact box_new
  have B1 : Hid (Below w.heap.size w w1) := Lib.hid (by rw [hw1]; exact bch (below_new _ _) (below_new _ _))
  have HC : Hid (∀ W : World, Calls Tryz.prog 68 #[.string ⟨x.p.toArray⟩, .string ⟨y.p.toArray⟩] W fun e w' => e = .returned (.int .i64 (Pt.cmpL x.p y.p)) ∧ Below W.heap.size W w') := Lib.hid (fun W => Pt.cmp_any ⟨x.p.toArray⟩ ⟨y.p.toArray⟩ hx hy W)
  have x0 : w1.cell? ⟨w.heap.size, 0, none⟩ = some (.string ⟨x.p.toArray⟩) := X1.cell (k := 0) rfl
  have y0 : w1.cell? ⟨w.heap.size + 1, 0, none⟩ = some (.string ⟨y.p.toArray⟩) := X2.cell (k := 0) rfl
  clear X1 X2 hx hy
  go_enter Tryz.func119, Tryz.ntmps119
  go_upto_region 1 with fail
  rw [← hw1]
  clear hw1
  go_wp2_with (go_at_call 68; refine (HC.out _).mono ?_; rintro e w2 ⟨rfl, hb2⟩; have B2 := Lib.hid (bch B1.out hb2); clear hb2)
  go_ret
  exact ⟨rfl, B2.out⟩

set_option maxRecDepth 100000 in
set_option maxHeartbeats 4000000 in
theorem rise_any (l : List Lf) (v : Value) (w : World) (hv : RdL w v l) (hl : l.length ≤ 1000000) (hp : ∀ x ∈ l, x.p.length ≤ 140737488355328) : Calls Tryz.prog 118 #[v, .func (.func 119) #[] #[]] w fun e w' => e = .returned (.bool (riseB l)) ∧ Below w.heap.size w w' := by
  have HP := Lib.hid hp
  have HV := Lib.hid hv
  obtain ⟨a, c, rfl, hlc, hcm, hcc⟩ := hv.open
  obtain ⟨n, hn⟩ : ∃ n, n = l.length := ⟨_, rfl⟩
  rw [← hn] at HV hl hlc ⊢
  have HN := Lib.hid hn
  clear hv hn hp hcc
  unfold maxLen at hcm
  go_enter Tryz.func118, Tryz.ntmps118
  go_wp2_with fail
  go_loopw [5] (fun i W => ∃ k : Nat, (k + 1 ≤ n ∨ k = 0) ∧ i = .int .i64 ((k : Int) + 1) ∧ Hid (∀ (j : Nat) (x y : Lf), j < k → l[j]? = some x → l[j + 1]? = some y → Pt.cmpL x.p y.p < 0) ∧ Hid (Below w.heap.size w W)) (fun i _ => n + 1 - (Lib.intOf i).toNat)
  case atStart => exact ⟨0, .inr rfl, rfl, Lib.hid (fun j x y h => absurd h (Nat.not_lt_zero _)), Lib.hid (Below.refl _ _)⟩
  case round =>
    obtain ⟨k, hk, rfl, HLo, HB⟩ := hrel
    by_cases hlt : k + 1 < n
    · obtain ⟨x, hx⟩ : ∃ x, l[k]? = some x := ⟨_, List.getElem?_eq_getElem (by rw [← HN.out]; omega)⟩
      obtain ⟨y, hy⟩ : ∃ y, l[k + 1]? = some y := ⟨_, List.getElem?_eq_getElem (by rw [← HN.out]; omega)⟩
      obtain ⟨a', c', e, z1, z2, hc⟩ := (HV.out.on HB.out).open
      clear z1 z2
      rw [← HN.out] at e
      cases e
      obtain ⟨g, o, rfl, hg, hd⟩ := hc (by rw [← HN.out]; omega)
      have hxa := hd k x hx
      have hya := hd (k + 1) y hy
      clear hd hc
      have k1 : (k : Int) + 1 < (n : Int) := by omega
      have k2 : (0 : Int) ≤ (k : Int) := by omega
      have k3 : IntKind.i64.wrap (k : Int) = (k : Int) := IntWalk.i64_in _ (by omega)
      have k6 : (k : Int) < (n : Int) := by omega
      have k7 : (0 : Int) ≤ (k : Int) + 1 := by omega
      have k8 : ((k : Int) + 1).toNat = k + 1 := by omega
      have k5 : IntKind.i64.wrap ((k : Int) + 1 - 1) = (k : Int) := by rw [IntWalk.i64_in _ (by omega)]; omega
      have HPX : Hid (x.p.length ≤ 140737488355328) := Lib.hid (HP.out x (List.mem_of_getElem? hx))
      have HPY : Hid (y.p.length ≤ 140737488355328) := Lib.hid (HP.out y (List.mem_of_getElem? hy))
      have HX := Lib.hid hx
      have HY := Lib.hid hy
      clear hx hy
      go_upto_region 4 with fail
      have q0 : wr.cell? ⟨g, o + k * 3, none⟩ = some (.string ⟨x.p.toArray⟩) := hxa.c0
      have q1 : wr.cell? ⟨g, o + k * 3 + 1, none⟩ = some (.bool x.dir) := hxa.c1
      have q2 : wr.cell? ⟨g, o + k * 3 + 2, none⟩ = some (.string ⟨x.d.toArray⟩) := hxa.c2
      have r0 : wr.cell? ⟨g, o + (k + 1) * 3, none⟩ = some (.string ⟨y.p.toArray⟩) := hya.c0
      have r1 : wr.cell? ⟨g, o + (k + 1) * 3 + 1, none⟩ = some (.bool y.dir) := hya.c1
      have r2 : wr.cell? ⟨g, o + (k + 1) * 3 + 2, none⟩ = some (.string ⟨y.d.toArray⟩) := hya.c2
      obtain ⟨z, hz⟩ : ∃ z, z = Pt.cmpL x.p y.p := ⟨_, rfl⟩
      have HCM : Hid (∀ W : World, Calls Tryz.prog 119 #[.agg #[.string ⟨x.p.toArray⟩, .bool x.dir, .string ⟨x.d.toArray⟩], .agg #[.string ⟨y.p.toArray⟩, .bool y.dir, .string ⟨y.d.toArray⟩]] W fun e w' => e = .returned (.int .i64 z) ∧ Below W.heap.size W w') := Lib.hid (fun W => by rw [hz]; exact lcmp_any x y HPX.out HPY.out W)
      have HBW : Hid (∀ w3, Below wr.heap.size wr.drew w3 → Below w.heap.size w w3) := Lib.hid (fun w3 h => bch (below_drewN HB.out 1) h)
      by_cases hz0 : z < 0
      · have tz : decide (z ≥ 0) = false := decide_eq_false (by omega)
        have HLo2 : Hid (∀ (j : Nat) (x y : Lf), j < k + 1 → l[j]? = some x → l[j + 1]? = some y → Pt.cmpL x.p y.p < 0) := Lib.hid (fun j x' y' hj hx' hy' => by
          rcases Nat.lt_or_ge j k with h | h
          · exact HLo.out j x' y' h hx' hy'
          · obtain rfl : j = k := by omega
            rw [HX.out] at hx'; rw [HY.out] at hy'
            cases hx'; cases hy'
            rw [← hz]; exact hz0)
        have k9 : IntKind.i64.wrap ((k : Int) + 1 + 1) = (k : Int) + 1 + 1 := IntWalk.i64_in _ (by omega)
        clear hz hz0
        go_still_tail 10, (by kernel_rfl)
        go_wp2_with (go_at_call 119; refine (HCM.out _).mono ?_; rintro e w3 ⟨rfl, hb3⟩; have B3 := Lib.hid (HBW.out _ hb3); clear hb3)
        go_roundw
        case rel => exact ⟨k + 1, .inl (by omega), by go_num, HLo2, B3⟩
        case measure => simp [Lib.intOf]; omega
      · have tz : decide (z ≥ 0) = true := decide_eq_true (by omega)
        have HR : Hid (riseB l = false) := Lib.hid (Bool.eq_false_iff.2 fun h => hz0 (by rw [hz]; exact (riseB_iff l).1 h k x y HX.out HY.out))
        clear hz hz0
        go_still_tail 10, (by kernel_rfl)
        go_wp2_with (go_at_call 119; refine (HCM.out _).mono ?_; rintro e w3 ⟨rfl, hb3⟩; have B3 := Lib.hid (HBW.out _ hb3); clear hb3)
        go_ret
        exact ⟨by rw [HR.out]; rfl, B3.out⟩
    · have HR : Hid (riseB l = true) := Lib.hid ((riseB_iff l).2 fun j x y hx hy => HLo.out j x y (by
        have := (List.getElem?_eq_some_iff.1 hy).1
        rw [← HN.out] at this
        omega) hx hy)
      have k1 : ¬ ((k : Int) + 1 < (n : Int)) := by omega
      go_wp2
      go_ret
      exact ⟨by rw [HR.out]; rfl, HB.out⟩
end Go.Proofs.YtgmplpfbhcdofaaGreat
