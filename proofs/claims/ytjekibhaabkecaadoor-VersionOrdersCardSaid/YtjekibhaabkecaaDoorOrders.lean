/- Proved here: VersionOrders of puncheonlaw04 returns true for every row of versions, wherever the table of the powers of ten stands. -/
import Derived.Test.YtjekibhaabkecaaDoorRSort
namespace Go.Proofs.YtjekibhaabkecaaDoor
open Go.RowKit Go.Shelf

theorem rd_take {w : World} {a : Option Addr} {n c : Nat} {l : List Ver} (h : RdV w (.slice a n c) l) (m : Nat) (hm : m ≤ n) : RdV w (.slice a m c) (l.take m) := by
  obtain ⟨a', c', e, h1, h2, h3⟩ := h
  cases e
  have el : (l.take m).length = m := by rw [List.length_take]; omega
  refine ⟨a, c, by rw [el], by omega, h2, fun h0 => ?_⟩
  obtain ⟨g, o, e, hg, hc⟩ := h3 (by omega)
  refine ⟨g, o, e, hg, fun j v hj => hc j v ?_⟩
  have hjm : j < m := by have := (List.getElem?_eq_some_iff.1 hj).1; omega
  rwa [List.getElem?_take_of_lt hjm] at hj
/-- The two clones, and all that lies ahead of them. -/
structure Kept (L : List Ver) (x0 x3 : Value) (w W : World) : Prop where
  l : RdV W x0 L
  was : RdV W x3 L
  low : Below w.heap.size w W
theorem Kept.on {L : List Ver} {x0 x3 : Value} {w W W' : World} (h : Kept L x0 x3 w W) (hb : Below W.heap.size W W') : Kept L x0 x3 w W' := ⟨h.l.on hb, h.was.on hb, bch h.low hb⟩
theorem Kept.eqs {L : List Ver} {x0 x3 : Value} {w W : World} (h : Kept L x0 x3 w W) : RdV W x0 L ∧ RdV W x3 L := ⟨h.l, h.was⟩
theorem orders_vals {a b : Ver} {z : Int} {y : Bool} (hz : z = cmpW a b) (hy : y = a.begins b) : (∀ W, Calls Tryd.prog 18 #[.agg a.arr, .agg b.arr] W fun e w' => e = .returned (.int .i64 z) ∧ Below W.heap.size W w') ∧ (∀ W, Calls Tryd.prog 19 #[.agg a.arr, .agg b.arr] W fun e w' => e = .returned (.int .i64 z) ∧ Below W.heap.size W w') ∧ (∀ W, Calls Tryd.prog 20 #[.agg a.arr, .agg b.arr] W fun e w' => e = .returned (.bool y) ∧ Below W.heap.size W w') ∧ (∀ W, Calls Tryd.prog 21 #[.agg a.arr, .agg b.arr] W fun e w' => e = .returned (.bool y) ∧ Below W.heap.size W w') := by
  subst hz hy
  exact ⟨fun W => comparew_any a b W, fun W => rcompare_any a b W, fun W => begins_any a b W, fun W => rbegins_any a b W⟩

set_option maxRecDepth 100000 in
set_option maxHeartbeats 16000000 in
theorem orders_law (l : List Ver) (sl : Value) (w : World) (hsl : RdV w sl l) (hT : TabW w) : Calls Tryd.prog 5 #[sl] w fun e w' => e = .returned (.bool true) ∧ Below w.heap.size w w' := by
  have HSL := Lib.hid hsl
  obtain ⟨a, c, rfl, hlc, hcm, _⟩ := hsl
  have HW := Lib.hid (wakes_any w hT)
  obtain ⟨n, hn⟩ : ∃ n, n = l.length := ⟨_, rfl⟩
  rw [← hn] at hlc HSL ⊢
  have HN := Lib.hid hn
  unfold maxLen at hcm
  obtain ⟨m, hm⟩ : ∃ q, q = min n 12 := ⟨_, rfl⟩
  have m1 : (0 : Int) ≤ (m : Int) := by omega
  have m2 : (m : Int) ≤ (n : Int) := by omega
  have m3 : min (n : Int) 12 = (m : Int) := by omega
  have m4 : (m : Int) ≤ (c : Int) := by omega
  have m12 : m ≤ 12 := by omega
  have hmn : m ≤ n := by omega
  obtain ⟨L, hL⟩ : ∃ L, L = l.take m := ⟨_, rfl⟩
  have hLm : m = L.length := by rw [hL, List.length_take]; omega
  have HLM := Lib.hid hLm
  have HLL := Lib.hid hL
  clear hn hT hm hL hLm
  go_enter Tryd.func5, Tryd.ntmps5
  go_wp2_with fail
  refine HW.out.mono ?_
  rintro e w1 ⟨rfl, hb⟩
  have B1 := Lib.hid hb
  have R1 : Hid (RdV w1 (.slice a m c) L) := Lib.hid (by rw [HLL.out]; exact rd_take (HSL.out.on hb) m hmn)
  clear HW hb
  go_wp2_with fail
  refine (clone_any L _ w1 R1.out (by have := HLM.out; omega)).mono ?_
  rintro e w2 ⟨x0, rfl, hown, hb⟩
  have B2 := Lib.hid (bch B1.out hb)
  have R2 : Hid (RdV w2 x0 L) := Lib.hid (RdV.of_own hown)
  clear hb hown B1 R1
  go_wp2_with fail
  refine (clone_any L _ w2 R2.out (by have := HLM.out; omega)).mono ?_
  rintro e wB ⟨x3, rfl, hown, hb⟩
  have BB := Lib.hid (bch B2.out hb)
  have KB : Hid (Kept L x0 x3 wB wB) := Lib.hid ⟨R2.out.on hb, RdV.of_own hown, Below.refl _ _⟩
  clear hb hown B2 R2
  obtain ⟨a0, c0, hx0, hlc0, hcm0, hcell⟩ := KB.out.l
  have HC := Lib.hid hcell
  rw [← HLM.out] at hx0 hlc0 HC
  unfold maxLen at hcm0
  subst hx0
  clear hcell hlc hcm m3 m4
  go_wp2_with fail
  go_loopw [5, 7, 23, 24, 25, 26, 27, 28, 29, 30, 31, 32, 33, 34, 35, 36, 37, 38, 39, 40, 41, 42, 43, 44, 45, 46, 47, 48, 49, 50] (fun _ _ i _ _ _ _ _ _ _ _ _ _ _ _ _ _ _ _ _ _ _ _ _ _ _ _ _ _ _ W => ∃ k : Nat, k ≤ m ∧ i = .int .i64 k ∧ Hid (Below wB.heap.size wB W)) (fun _ _ i _ _ _ _ _ _ _ _ _ _ _ _ _ _ _ _ _ _ _ _ _ _ _ _ _ _ _ _ => m - (Lib.intOf i).toNat)
  case atStart => exact ⟨0, Nat.zero_le _, rfl, Lib.hid (Below.refl _ _)⟩
  case round =>
    obtain ⟨k, hk, rfl, HB⟩ := hrel
    obtain ⟨wq, hwq⟩ : ∃ q, q = wr := ⟨_, rfl⟩
    rw [← hwq] at HB ⊢
    clear hwq
    by_cases hlt : k < m
    · obtain ⟨v, hv⟩ : ∃ v, L[k]? = some v := ⟨_, List.getElem?_eq_getElem (by have := HLM.out; omega)⟩
      obtain ⟨g, o, rfl, hg, hc⟩ := HC.out (by omega)
      obtain ⟨q0, q1, q2, q3, q4, q5, q6⟩ := hc k v hv
      have r0 := (HB.out.cell (p := ⟨g, _, none⟩) hg).trans q0
      have r1 := (HB.out.cell (p := ⟨g, _, none⟩) hg).trans q1
      have r2 := (HB.out.cell (p := ⟨g, _, none⟩) hg).trans q2
      have r3 := (HB.out.cell (p := ⟨g, _, none⟩) hg).trans q3
      have r4 := (HB.out.cell (p := ⟨g, _, none⟩) hg).trans q4
      have r5 := (HB.out.cell (p := ⟨g, _, none⟩) hg).trans q5
      have r6 := (HB.out.cell (p := ⟨g, _, none⟩) hg).trans q6
      have k1 : (k : Int) < (m : Int) := by omega
      have k2 : (0 : Int) ≤ (k : Int) := by omega
      have k4 : IntKind.i64.wrap ((k : Int) + 1) = (k : Int) + 1 := IntWalk.i64_in _ (by omega)
      have HCC := Lib.hid hc
      clear q0 q1 q2 q3 q4 q5 q6 hc hv
      have X0 : Hid (Box (wq.alloc (.cells Ver.zero.arr 26)) wq.heap.size 26 Ver.zero.arr) := Lib.hid box_new
      obtain ⟨w4, hw4⟩ : ∃ q, q = (wq.alloc (.cells Ver.zero.arr 26)).setRow wq.heap.size v.arr := ⟨_, rfl⟩
      have X4 : Hid (Box w4 wq.heap.size 26 v.arr) := Lib.hid (by rw [hw4]; exact X0.out.row _)
      have B4 : Hid (Below wB.heap.size wB w4) := Lib.hid (by rw [hw4]; exact below_row (HB.out.alloc HB.out.size _) HB.out.size _)
      have hgq := HB.out.size
      go_upto_region 8 with (first
        | (with_reducible refine wpList_zero rfl 26 rfl Ver.zero.arr zero26 ?_)
        | (refine wpList_store_row rfl 26 (.tmp 5) (.tmp 26) rfl wq.heap.size v.arr rfl rfl 26 _ X0.out (info26 _) rfl (arr_one _) ?_))
      rw [← hw4]
      clear hw4 X0 r0 r1 r2 r3 r4 r5 r6 HB
      obtain ⟨g5, hg5⟩ : ∃ q, q = wq.heap.size := ⟨_, rfl⟩
      rw [← hg5] at X4 hgq ⊢
      clear hg5
      go_wp2_with fail
      go_loopw [7, 29, 30, 31, 32, 33, 34, 35, 36, 37, 38, 39, 40, 41, 42, 43, 44, 45, 46, 47, 48, 49] (fun _ i _ _ _ _ _ _ _ _ _ _ _ _ _ _ _ _ _ _ _ _ W => ∃ j : Nat, j ≤ m ∧ i = .int .i64 j ∧ Hid (VBox W g5 v) ∧ Hid (Below wB.heap.size wB W)) (fun _ i _ _ _ _ _ _ _ _ _ _ _ _ _ _ _ _ _ _ _ _ _ => m - (Lib.intOf i).toNat)
      case atStart => exact ⟨0, Nat.zero_le _, rfl, Lib.hid X4.out.ver, B4⟩
      case round =>
        clear X4 B4
        obtain ⟨j, hj, rfl, X4, HB⟩ := hrel
        obtain ⟨wo, hwo⟩ : ∃ q, q = wr := ⟨_, rfl⟩
        rw [← hwo] at X4 HB ⊢
        clear hwo
        by_cases jlt : j < m
        · obtain ⟨u, hu⟩ : ∃ v, L[j]? = some v := ⟨_, List.getElem?_eq_getElem (by have := HLM.out; omega)⟩
          obtain ⟨q0, q1, q2, q3, q4, q5, q6⟩ := HCC.out j u hu
          have r0 := (HB.out.cell (p := ⟨g, _, none⟩) hg).trans q0
          have r1 := (HB.out.cell (p := ⟨g, _, none⟩) hg).trans q1
          have r2 := (HB.out.cell (p := ⟨g, _, none⟩) hg).trans q2
          have r3 := (HB.out.cell (p := ⟨g, _, none⟩) hg).trans q3
          have r4 := (HB.out.cell (p := ⟨g, _, none⟩) hg).trans q4
          have r5 := (HB.out.cell (p := ⟨g, _, none⟩) hg).trans q5
          have r6 := (HB.out.cell (p := ⟨g, _, none⟩) hg).trans q6
          have j1 : (j : Int) < (m : Int) := by omega
          have j2 : (0 : Int) ≤ (j : Int) := by omega
          have j4 : IntKind.i64.wrap ((j : Int) + 1) = (j : Int) + 1 := IntWalk.i64_in _ (by omega)
          clear q0 q1 q2 q3 q4 q5 q6 hu
          have Y0 : Hid (Box (wo.alloc (.cells Ver.zero.arr 26)) wo.heap.size 26 Ver.zero.arr) := Lib.hid box_new
          obtain ⟨w5, hw5⟩ : ∃ q, q = (wo.alloc (.cells Ver.zero.arr 26)).setRow wo.heap.size u.arr := ⟨_, rfl⟩
          have Y5 : Hid (Box w5 wo.heap.size 26 u.arr) := Lib.hid (by rw [hw5]; exact Y0.out.row _)
          have b5 : Below wo.heap.size wo w5 := by rw [hw5]; exact below_row ((Below.refl _ _).alloc (Nat.le_refl _) _) (Nat.le_refl _) _
          have k0 : Hid (Two v u g5 wo.heap.size wB w5) := Lib.hid ⟨X4.out.on b5, Y5.out.ver, bch HB.out b5⟩
          obtain ⟨z, hz⟩ : ∃ z, z = cmpW v u := ⟨_, rfl⟩
          obtain ⟨y, hy⟩ : ∃ y, y = v.begins u := ⟨_, rfl⟩
          obtain ⟨hc1, hc2, hg1, hg2⟩ := orders_vals hz hy
          have HC1 := Lib.hid hc1
          have HC2 := Lib.hid hc2
          have HG1 := Lib.hid hg1
          have HG2 := Lib.hid hg2
          have hzz : (z != z) = false := by simp
          have hbb : (y != y) = false := by simp
          clear b5 hz hy hc1 hc2 hg1 hg2
          go_upto_region 11 with (first
            | (with_reducible refine wpList_zero rfl 26 rfl Ver.zero.arr zero26 ?_)
            | (refine wpList_store_row rfl 26 (.tmp 7) (.tmp 32) rfl wo.heap.size u.arr rfl rfl 26 _ Y0.out (info26 _) rfl (arr_one _) ?_))
          rw [← hw5]
          clear hw5 Y0 Y5 r0 r1 r2 r3 r4 r5 r6 HB X4
          obtain ⟨g7, hg7⟩ : ∃ q, q = wo.heap.size := ⟨_, rfl⟩
          rw [← hg7] at k0 ⊢
          clear hg7
          refine wp_region_held_drew (S := fun w' => Two v u g5 g7 wB w') (by kernel_rfl) k0.out.drew (fun hHeld => ?_)
          refine wpAnyH_take (i := 0) (oi := { dst := some 33, op := Op.load 26 (Operand.tmp 5), type := 26, pos := "law.go:81", after := #[], guard := none }) (v := ?_) rfl (by kernel_rfl) (by kernel_rfl) (by kernel_rfl) (fun _ _ _ h => h) (Or.inl ⟨by rfl, ?_⟩) hHeld ?_
          rotate_left
          · (intro w hSw; obtain ⟨p0, p1, p2, p3, p4, p5, p6⟩ := hSw.l; go_simp; try with_reducible rfl)
          (try simp only [Act.put, List.setIfInBounds_toArray, List.set_cons_zero, List.set_cons_succ])
          refine wpAnyH_take (i := 1) (oi := { dst := some 34, op := Op.load 26 (Operand.tmp 7), type := 26, pos := "law.go:81", after := #[], guard := none }) (v := ?_) rfl (by kernel_rfl) (by kernel_rfl) (by kernel_rfl) (fun _ _ _ h => h) (Or.inl ⟨by rfl, ?_⟩) hHeld ?_
          rotate_left
          · (intro w hSw; obtain ⟨p0, p1, p2, p3, p4, p5, p6⟩ := hSw.r; go_simp; try with_reducible rfl)
          (try simp only [Act.put, List.setIfInBounds_toArray, List.set_cons_zero, List.set_cons_succ])
          refine wpAnyH_take (i := 3) (oi := { dst := some 36, op := Op.load 26 (Operand.tmp 5), type := 26, pos := "law.go:81", after := #[], guard := none }) (v := ?_) rfl (by kernel_rfl) (by kernel_rfl) (by kernel_rfl) (fun _ _ _ h => h) (Or.inl ⟨by rfl, ?_⟩) hHeld ?_
          rotate_left
          · (intro w hSw; obtain ⟨p0, p1, p2, p3, p4, p5, p6⟩ := hSw.l; go_simp; try with_reducible rfl)
          (try simp only [Act.put, List.setIfInBounds_toArray, List.set_cons_zero, List.set_cons_succ])
          refine wpAnyH_take (i := 4) (oi := { dst := some 37, op := Op.load 26 (Operand.tmp 7), type := 26, pos := "law.go:81", after := #[], guard := none }) (v := ?_) rfl (by kernel_rfl) (by kernel_rfl) (by kernel_rfl) (fun _ _ _ h => h) (Or.inl ⟨by rfl, ?_⟩) hHeld ?_
          rotate_left
          · (intro w hSw; obtain ⟨p0, p1, p2, p3, p4, p5, p6⟩ := hSw.r; go_simp; try with_reducible rfl)
          (try simp only [Act.put, List.setIfInBounds_toArray, List.set_cons_zero, List.set_cons_succ])
          refine wpAnyH_ready (rs := [2]) (by kernel_rfl) (by simp) (AllReadyH.cons (o := { dst := some 35, op := Op.call { callee := Callee.value (Operand.func 18), args := #[Operand.tmp 33, Operand.tmp 34], argTypes := #[26, 26] }, type := 3, pos := "law.go:81", after := #[{ on := 0, ground := Ground.data }, { on := 1, ground := Ground.data }], guard := none }) rfl (fun K hK => ?_) AllReadyH.nil)
          · go_simp
            refine (HC1.out _).mono ?_
            rintro e wa ⟨rfl, hba⟩
            refine hK.out _ _ (hHeld.on hba) (fun hHeld => ?_)
            (try simp only [Act.put, List.setIfInBounds_toArray, List.set_cons_zero, List.set_cons_succ])
            refine wpAnyH_ready (rs := [5]) (by kernel_rfl) (by simp) (AllReadyH.cons (o := { dst := some 38, op := Op.call { callee := Callee.value (Operand.func 19), args := #[Operand.tmp 36, Operand.tmp 37], argTypes := #[26, 26] }, type := 3, pos := "law.go:81", after := #[{ on := 3, ground := Ground.data }, { on := 4, ground := Ground.data }, { on := 2, ground := Ground.chain }], guard := none }) rfl (fun K hK => ?_) AllReadyH.nil)
            · go_simp
              refine (HC2.out _).mono ?_
              rintro e wa ⟨rfl, hba⟩
              refine hK.out _ _ (hHeld.on hba) (fun hHeld => ?_)
              (try simp only [Act.put, List.setIfInBounds_toArray, List.set_cons_zero, List.set_cons_succ])
              refine wpAnyH_take (i := 6) (oi := { dst := some 39, op := Op.binOp BinOp.neq 3 (Operand.tmp 35) (Operand.tmp 38) 3, type := 4, pos := "law.go:81", after := #[{ on := 2, ground := Ground.data }, { on := 5, ground := Ground.data }], guard := none }) (v := ?_) rfl (by kernel_rfl) (by kernel_rfl) (by kernel_rfl) (fun _ _ _ h => h) (Or.inl ⟨by rfl, ?_⟩) hHeld ?_
              rotate_left
              · (intro w hSw; go_simp; try with_reducible rfl)
              (try simp only [Act.put, List.setIfInBounds_toArray, List.set_cons_zero, List.set_cons_succ])
              refine wpAnyH_take (i := 7) (oi := { dst := some 40, op := Op.move (Operand.tmp 39), type := 4, pos := "law.go:81", after := #[{ on := 6, ground := Ground.data }, { on := 5, ground := Ground.chain }], guard := none }) (v := ?_) rfl (by kernel_rfl) (by kernel_rfl) (by kernel_rfl) (fun _ _ _ h => h) (Or.inl ⟨by rfl, ?_⟩) hHeld ?_
              rotate_left
              · (intro w hSw; go_simp; try with_reducible rfl)
              (try simp only [Act.put, List.setIfInBounds_toArray, List.set_cons_zero, List.set_cons_succ])
              refine wpAnyH_take (i := 8) (oi := { dst := some 41, op := Op.load 26 (Operand.tmp 5), type := 26, pos := "law.go:81", after := #[{ on := 7, ground := Ground.guard }], guard := some (7, false) }) (v := ?_) rfl (by kernel_rfl) (by kernel_rfl) (by kernel_rfl) (fun _ _ _ h => h) (Or.inl ⟨by rfl, ?_⟩) hHeld ?_
              rotate_left
              · (intro w hSw; obtain ⟨p0, p1, p2, p3, p4, p5, p6⟩ := hSw.l; go_simp; try with_reducible rfl)
              (try simp only [Act.put, List.setIfInBounds_toArray, List.set_cons_zero, List.set_cons_succ])
              refine wpAnyH_take (i := 9) (oi := { dst := some 42, op := Op.load 26 (Operand.tmp 7), type := 26, pos := "law.go:81", after := #[{ on := 7, ground := Ground.guard }], guard := some (7, false) }) (v := ?_) rfl (by kernel_rfl) (by kernel_rfl) (by kernel_rfl) (fun _ _ _ h => h) (Or.inl ⟨by rfl, ?_⟩) hHeld ?_
              rotate_left
              · (intro w hSw; obtain ⟨p0, p1, p2, p3, p4, p5, p6⟩ := hSw.r; go_simp; try with_reducible rfl)
              (try simp only [Act.put, List.setIfInBounds_toArray, List.set_cons_zero, List.set_cons_succ])
              refine wpAnyH_take (i := 11) (oi := { dst := some 44, op := Op.load 26 (Operand.tmp 5), type := 26, pos := "law.go:81", after := #[{ on := 7, ground := Ground.guard }], guard := some (7, false) }) (v := ?_) rfl (by kernel_rfl) (by kernel_rfl) (by kernel_rfl) (fun _ _ _ h => h) (Or.inl ⟨by rfl, ?_⟩) hHeld ?_
              rotate_left
              · (intro w hSw; obtain ⟨p0, p1, p2, p3, p4, p5, p6⟩ := hSw.l; go_simp; try with_reducible rfl)
              (try simp only [Act.put, List.setIfInBounds_toArray, List.set_cons_zero, List.set_cons_succ])
              refine wpAnyH_take (i := 12) (oi := { dst := some 45, op := Op.load 26 (Operand.tmp 7), type := 26, pos := "law.go:81", after := #[{ on := 7, ground := Ground.guard }], guard := some (7, false) }) (v := ?_) rfl (by kernel_rfl) (by kernel_rfl) (by kernel_rfl) (fun _ _ _ h => h) (Or.inl ⟨by rfl, ?_⟩) hHeld ?_
              rotate_left
              · (intro w hSw; obtain ⟨p0, p1, p2, p3, p4, p5, p6⟩ := hSw.r; go_simp; try with_reducible rfl)
              (try simp only [Act.put, List.setIfInBounds_toArray, List.set_cons_zero, List.set_cons_succ])
              refine wpAnyH_ready (rs := [10]) (by kernel_rfl) (by simp) (AllReadyH.cons (o := { dst := some 43, op := Op.call { callee := Callee.value (Operand.func 20), args := #[Operand.tmp 41, Operand.tmp 42], argTypes := #[26, 26] }, type := 4, pos := "law.go:81", after := #[{ on := 8, ground := Ground.data }, { on := 9, ground := Ground.data }, { on := 7, ground := Ground.chain }, { on := 7, ground := Ground.guard }], guard := some (7, false) }) rfl (fun K hK => ?_) AllReadyH.nil)
              · go_simp
                refine (HG1.out _).mono ?_
                rintro e wa ⟨rfl, hba⟩
                refine hK.out _ _ (hHeld.on hba) (fun hHeld => ?_)
                (try simp only [Act.put, List.setIfInBounds_toArray, List.set_cons_zero, List.set_cons_succ])
                refine wpAnyH_ready (rs := [13]) (by kernel_rfl) (by simp) (AllReadyH.cons (o := { dst := some 46, op := Op.call { callee := Callee.value (Operand.func 21), args := #[Operand.tmp 44, Operand.tmp 45], argTypes := #[26, 26] }, type := 4, pos := "law.go:81", after := #[{ on := 11, ground := Ground.data }, { on := 12, ground := Ground.data }, { on := 10, ground := Ground.chain }, { on := 7, ground := Ground.guard }], guard := some (7, false) }) rfl (fun K hK => ?_) AllReadyH.nil)
                · go_simp
                  refine (HG2.out _).mono ?_
                  rintro e wa ⟨rfl, hba⟩
                  refine hK.out _ _ (hHeld.on hba) (fun hHeld => ?_)
                  (try simp only [Act.put, List.setIfInBounds_toArray, List.set_cons_zero, List.set_cons_succ])
                  refine wpAnyH_take (i := 14) (oi := { dst := some 47, op := Op.binOp BinOp.neq 4 (Operand.tmp 43) (Operand.tmp 46) 4, type := 4, pos := "law.go:81", after := #[{ on := 10, ground := Ground.data }, { on := 13, ground := Ground.data }, { on := 7, ground := Ground.guard }], guard := some (7, false) }) (v := ?_) rfl (by kernel_rfl) (by kernel_rfl) (by kernel_rfl) (fun _ _ _ h => h) (Or.inl ⟨by rfl, ?_⟩) hHeld ?_
                  rotate_left
                  · (intro w hSw; go_simp; try with_reducible rfl)
                  (try simp only [Act.put, List.setIfInBounds_toArray, List.set_cons_zero, List.set_cons_succ])
                  refine wpAnyH_take (i := 15) (oi := { dst := some 48, op := Op.pick (Operand.tmp 40) (Operand.const (Value.bool true)) (Operand.tmp 47), type := 4, pos := "law.go:81", after := #[{ on := 7, ground := Ground.data }, { on := 14, ground := Ground.data }], guard := none }) (v := ?_) rfl (by kernel_rfl) (by kernel_rfl) (by kernel_rfl) (fun _ _ _ h => h) (Or.inl ⟨by rfl, ?_⟩) hHeld ?_
                  rotate_left
                  · (intro w hSw; go_simp; try with_reducible rfl)
                  (try simp only [Act.put, List.setIfInBounds_toArray, List.set_cons_zero, List.set_cons_succ])
                  refine wpAnyH_done (by kernel_rfl) ?_ _
                  have HH := Lib.hid hHeld
                  clear hHeld HC1 HC2 HG1 HG2 hzz hbb
                  go_wp2_with fail
                  go_roundw
                  case rel => exact ⟨j + 1, jlt, by go_num, Lib.hid HH.out.l, Lib.hid HH.out.low⟩
                  case measure => simp [Lib.intOf]; omega
        · have j1 : ¬ ((j : Int) < (m : Int)) := by omega
          go_wp2_with fail
          go_roundw
          case rel => exact ⟨k + 1, hlt, by go_num, HB⟩
          case measure => simp [Lib.intOf]; omega
    · have k1 : ¬ ((k : Int) < (m : Int)) := by omega
      have KQ := Lib.hid (KB.out.on HB.out)
      clear KB HB hlt
      go_wp2_with fail
      refine (rsort_any L x3 wq KQ.out.was (by have := HLM.out; omega)).mono ?_
      rintro e w6 ⟨x8, r, rfl, hp, hs, hown, hb⟩
      have HP := Lib.hid hp
      have HS := Lib.hid hs
      have K6 := Lib.hid (KQ.out.on hb)
      have R6 := Lib.hid hown
      clear hp hs hown hb KQ
      go_wp2_with fail
      refine (latest_any L _ w6 K6.out.l).mono ?_
      rintro e w7 ⟨u, hu, rfl, hb⟩
      have K7 := Lib.hid (K6.out.on hb)
      have R7 := Lib.hid (owns_below R6.out hb)
      have HLS := Lib.hid (last_same hu HP.out HS.out)
      obtain ⟨p, hpu⟩ : ∃ p, p = !decide (u = Ver.zero) := ⟨_, rfl⟩
      rw [← hpu]
      have HPU := Lib.hid hpu
      have HUO : Hid (u = Ver.zero ∨ u.ok = true) := Lib.hid (hu.elim (fun h => .inl h.2) (fun h => .inr h.2.1))
      clear hpu hu hb K6 R6
      have X0 : Hid (Box (w7.alloc (.cells Ver.zero.arr 26)) w7.heap.size 26 Ver.zero.arr) := Lib.hid box_new
      obtain ⟨w8, hw8⟩ : ∃ q, q = (w7.alloc (.cells Ver.zero.arr 26)).setRow w7.heap.size u.arr := ⟨_, rfl⟩
      have X8 : Hid (Box w8 w7.heap.size 26 u.arr) := Lib.hid (by rw [hw8]; exact X0.out.row _)
      have b8 : Below w7.heap.size w7 w8 := by rw [hw8]; exact below_row ((Below.refl _ _).alloc (Nat.le_refl _) _) (Nat.le_refl _) _
      have K8 := Lib.hid (K7.out.on b8)
      have R8 := Lib.hid (owns_below R7.out b8)
      go_upto_region 17 with (first
        | (with_reducible refine wpList_zero rfl 26 rfl Ver.zero.arr zero26 ?_)
        | (refine wpList_store_row rfl 26 (.tmp 9) (.tmp 56) rfl w7.heap.size u.arr rfl rfl 26 _ X0.out (info26 _) rfl (arr_one _) ?_))
      rw [← hw8]
      obtain ⟨g9, hg9⟩ : ∃ q, q = w7.heap.size := ⟨_, rfl⟩
      rw [← hg9] at X8 ⊢
      clear hw8 X0 K7 R7 b8 hg9
      go_wp2_with fail
      refine (vsort_any L _ w8 K8.out.l (by have := HLM.out; omega)).mono ?_
      rintro e w9 ⟨x59, q, rfl, hp, hs, hown, hb⟩
      have K9 := Lib.hid (K8.out.on hb)
      have R9 := Lib.hid (RdV.of_own (owns_below R8.out hb))
      have X9 := Lib.hid (X8.out.on hb)
      have Q9 : Hid (RdV w9 x59 r) := Lib.hid (by
        have e := sorted_one (hp.trans HP.out.symm) hs HS.out
        subst e
        exact RdV.of_own hown)
      clear hp hs hown hb K8 R8 X8
      go_wp2_with fail
      refine (equal_any r x59 x8 w9 Q9.out R9.out).mono ?_
      rintro e wA ⟨rfl, hb⟩
      have KA := Lib.hid (K9.out.on hb)
      have RA := Lib.hid (R9.out.on hb)
      have XA := Lib.hid (X9.out.on hb)
      clear hb K9 R9 X9 Q9
      obtain ⟨a8, c8, hx8, hlc8, hcm8, hcell8⟩ := RA.out
      have HC8 := Lib.hid hcell8
      unfold maxLen at hcm8
      subst hx8
      obtain ⟨d, hd⟩ : ∃ d, d = r.length := ⟨_, rfl⟩
      rw [← hd] at hlc8 HC8 ⊢
      have HD := Lib.hid hd
      clear hd hcell8
      by_cases hd0 : d = 0
      · have hrn : r = [] := List.eq_nil_of_length_eq_zero (by have := HD.out; omega)
        have hu0 : u = Ver.zero := by
          rcases HLS.out with ⟨_, h⟩ | ⟨h, _⟩
          · exact h
          · exact absurd hrn h
        have hp0 : p = false := by rw [HPU.out, decide_eq_true hu0]; rfl
        subst hp0 hu0 hd0
        have d1 : decide (((0 : Nat) : Int) > 0) = false := rfl
        have eqf : ∀ W, (Op.equalIn 10000 26 (.agg Ver.zero.arr) (.agg Ver.zero.arr)).run Tryd.prog W = .ok true W := fun W => (eq26 Ver.zero Ver.zero W).trans (by rw [decide_eq_true rfl])
        have hgd := guard26
        clear hrn
        go_wp2_with (go_at_call 24; refine (equal_any L _ _ _ KA.out.l KA.out.was).mono ?_; rintro e wC ⟨rfl, hb⟩; have KC := Lib.hid (KA.out.on hb); have XC := Lib.hid (XA.out.on hb); clear hb; refine Hid.out ?_)
        refine Lib.hid ?_
        go_wp2_with (first
          | (refine wpList_load_row rfl 26 (.tmp 9) rfl g9 rfl 26 Ver.zero.arr (0, 0) _ XC.out Tryd.underlying26 rfl (info26 _) ?_)
          | (refine builds_none26 rfl rfl ?_))
        go_ret
        exact ⟨rfl, bch BB.out KC.out.low⟩
      · obtain ⟨e, he⟩ : ∃ e, d = e + 1 := ⟨d - 1, by omega⟩
        obtain ⟨hne, hul⟩ : ∃ hne : r ≠ [], u = r.getLast hne := by
          rcases HLS.out with ⟨h, _⟩ | h
          · have := HD.out
            rw [h] at this
            simp at this
            omega
          · exact h
        have hre : r[e]? = some u := by
          rw [hul, ← List.getLast?_eq_some_getLast hne, List.getLast?_eq_getElem?]
          have := HD.out
          congr 1
          omega
        have huz : u ≠ Ver.zero := fun h0 => by
          have h1 : u ∈ r := List.mem_of_getElem? hre
          have h2 := HP.out.mem_iff.1 h1
          unfold okV at h2
          have h3 := (List.mem_filter.1 h2).2
          rw [h0] at h3
          revert h3
          decide
        have hp0 : p = true := by rw [HPU.out, decide_eq_false huz]; rfl
        subst hp0
        have d1 : decide ((d : Int) > 0) = true := decide_eq_true (by omega)
        have d2 : ((d : Int) == 0) = false := by rw [beq_eq_false_iff_ne]; omega
        have g2 : IntKind.i64.wrap ((d : Int) - 1) = (e : Int) := by rw [IntWalk.i64_in _ (by omega)]; omega
        have g3 : (0 : Int) ≤ (e : Int) := by omega
        have g4 : (e : Int) < (d : Int) := by omega
        have eqf : ∀ W, (Op.equalIn 10000 26 (.agg #[.int .i64 u.n0, .int .i64 u.n1, .int .i64 u.n2, .int .i64 u.n3, .int .i64 u.many, .string u.tag, .int .i64 u.step]) (.agg #[.int .i64 u.n0, .int .i64 u.n1, .int .i64 u.n2, .int .i64 u.n3, .int .i64 u.many, .string u.tag, .int .i64 u.step])).run Tryd.prog W = .ok true W := fun W => (eq26 u u W).trans (by rw [decide_eq_true rfl])
        have hgd := guard26
        obtain ⟨g, o, rfl, hg, hc⟩ := HC8.out (by omega)
        have HCE := Lib.hid (hc e u hre)
        clear hne hul hre huz he hd0 hc
        go_wp2_with (go_at_call 24; refine (equal_any L _ _ _ KA.out.l KA.out.was).mono ?_; rintro e' wC ⟨rfl, hb⟩; have KC := Lib.hid (KA.out.on hb); have XC := Lib.hid (XA.out.on hb); have HBC := Lib.hid hb; clear hb; refine Hid.out ?_)
        refine Lib.hid ?_
        obtain ⟨q0, q1, q2, q3, q4, q5, q6⟩ := HCE.out
        obtain ⟨y0, y1, y2, y3, y4, y5, y6⟩ := XC.out.ver
        have r0 := (HBC.out.cell (p := ⟨g, _, none⟩) hg).trans q0
        have r1 := (HBC.out.cell (p := ⟨g, _, none⟩) hg).trans q1
        have r2 := (HBC.out.cell (p := ⟨g, _, none⟩) hg).trans q2
        have r3 := (HBC.out.cell (p := ⟨g, _, none⟩) hg).trans q3
        have r4 := (HBC.out.cell (p := ⟨g, _, none⟩) hg).trans q4
        have r5 := (HBC.out.cell (p := ⟨g, _, none⟩) hg).trans q5
        have r6 := (HBC.out.cell (p := ⟨g, _, none⟩) hg).trans q6
        clear q0 q1 q2 q3 q4 q5 q6 KA XA
        go_wp2_with fail
        go_quiet (fail)
        go_wp2_with fail
        go_ret
        exact ⟨rfl, below_drewN (bch BB.out KC.out.low) _⟩
end Go.Proofs.YtjekibhaabkecaaDoor
