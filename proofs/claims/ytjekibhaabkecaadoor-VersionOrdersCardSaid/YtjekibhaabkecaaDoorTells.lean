/- Proved here: VersionTells of puncheonlaw04 returns true for every row of versions, wherever the table of the powers of ten stands. -/
import Derived.Test.YtjekibhaabkecaaDoorRefD
import Derived.Test.YtjekibhaabkecaaDoorBacks
import Derived.Test.YtjekibhaabkecaaDoorAhead
namespace Go.Proofs.YtjekibhaabkecaaDoor
open Go.RowKit Go.Shelf

/-- A row of versions that can be read. -/
def RdV (w : World) (x : Value) (l : List Ver) : Prop :=
  ∃ a c, x = .slice a l.length c ∧ l.length ≤ c ∧ c ≤ maxLen ∧ (0 < l.length → ∃ g o, a = some ⟨g, o, none⟩ ∧ g < w.heap.size ∧ ∀ (j : Nat) (v : Ver), l[j]? = some v →
    w.cell? ⟨g, o + j * 7, none⟩ = some (.int .i64 v.n0) ∧ w.cell? ⟨g, o + j * 7 + 1, none⟩ = some (.int .i64 v.n1) ∧ w.cell? ⟨g, o + j * 7 + 2, none⟩ = some (.int .i64 v.n2) ∧ w.cell? ⟨g, o + j * 7 + 3, none⟩ = some (.int .i64 v.n3) ∧ w.cell? ⟨g, o + j * 7 + 4, none⟩ = some (.int .i64 v.many) ∧ w.cell? ⟨g, o + j * 7 + 5, none⟩ = some (.string v.tag) ∧ w.cell? ⟨g, o + j * 7 + 6, none⟩ = some (.int .i64 v.step))
theorem RdV.nil (w : World) : RdV w (.slice none 0 0) [] := ⟨none, 0, rfl, Nat.le_refl _, Nat.zero_le _, fun h => absurd h (Nat.lt_irrefl _)⟩
theorem next_bare {v : Ver} (h : v.ok = true) : v.next = v.bare.incr (v.many.toNat - 1) := by
  unfold Ver.next
  rw [first_bare h]

set_option maxRecDepth 100000 in
theorem gbuild26 {ops : Array Oper} {rest : List Oper} {o : Oper} {a : Act} {w : World} {Q : Exit → Act → World → Prop} (hw : Region.wanted o (yielded ops a.tmps) = true) (ho : o.op = .build 26 #[]) (h : wpList Tryd.prog ops Q rest (a.put o.dst (.agg Ver.zero.arr)) w) : wpList Tryd.prog ops Q (o :: rest) a w := by
  have e : Tryd.prog.built 26 ((#[] : Array (Nat × Operand)).map fun (i, x) => (i, a.eval x)).toList = some Ver.zero.arr := (congrArg (Tryd.prog.built 26) (by simp)).trans zeroV
  exact wpList_step fun K hK => by
    rw [if_pos hw]
    exact wp_build 26 #[] ho (by rw [e]; rfl) (hK _ _ (by rw [e]; exact h))

set_option maxRecDepth 100000 in
set_option maxHeartbeats 8000000 in
theorem tells_law (l : List Ver) (sl : Value) (w : World) (hsl : RdV w sl l) (hT : TabW w) : Calls Tryd.prog 4 #[sl] w fun e w' => e = .returned (.bool true) ∧ Below w.heap.size w w' := by
  obtain ⟨a, c, rfl, hlc, hcm, hcell⟩ := hsl
  have HT : Hid (∀ W, Below w.heap.size w W → TabW W) := Lib.hid (fun W h => hT.below h)
  have HW := Lib.hid (wakes_any w hT)
  have HC := Lib.hid hcell
  obtain ⟨n, hn⟩ : ∃ n, n = l.length := ⟨_, rfl⟩
  rw [← hn] at hlc HC ⊢
  have HN := Lib.hid hn
  unfold maxLen at hcm
  clear hn hT hcell
  go_enter Tryd.func4, Tryd.ntmps4
  go_wp2_with fail
  refine HW.out.mono ?_
  rintro e w1 ⟨rfl, hb⟩
  have B1 := Lib.hid hb
  clear HW hb
  go_wp2_with fail
  go_loopw [3, 4, 5, 6, 7, 8, 9, 10, 11, 12, 17, 18, 19, 20, 21, 22, 23, 24, 25, 26, 27, 28, 29, 30, 31, 32, 33, 34, 35, 36, 37, 38, 39, 40, 41, 42, 43, 44, 45, 46, 47, 48, 49, 50, 51, 52, 53, 54, 55, 56, 57, 58, 59, 60, 61, 62, 63, 64, 65, 66, 67, 68, 69, 70, 71, 72, 73, 74, 75, 76, 77, 78, 79, 80, 81, 82, 83, 84, 85, 86, 87, 88, 89, 90, 91, 92, 93, 94, 95, 96, 97, 98, 99, 100, 101, 102, 103, 104] (fun _ _ _ _ _ _ _ _ _ _ i _ _ _ _ _ _ _ _ _ _ _ _ _ _ _ _ _ _ _ _ _ _ _ _ _ _ _ _ _ _ _ _ _ _ _ _ _ _ _ _ _ _ _ _ _ _ _ _ _ _ _ _ _ _ _ _ _ _ _ _ _ _ _ _ _ _ _ _ _ _ _ _ _ _ _ _ _ _ _ _ _ _ _ _ _ _ _ W => ∃ k : Nat, k ≤ n ∧ k ≤ 12 ∧ i = .int .i64 k ∧ Hid (Below w.heap.size w W)) (fun _ _ _ _ _ _ _ _ _ _ i _ _ _ _ _ _ _ _ _ _ _ _ _ _ _ _ _ _ _ _ _ _ _ _ _ _ _ _ _ _ _ _ _ _ _ _ _ _ _ _ _ _ _ _ _ _ _ _ _ _ _ _ _ _ _ _ _ _ _ _ _ _ _ _ _ _ _ _ _ _ _ _ _ _ _ _ _ _ _ _ _ _ _ _ _ _ _ _ => n - (Lib.intOf i).toNat)
  case atStart => exact ⟨0, Nat.zero_le _, Nat.zero_le _, rfl, B1⟩
  case round =>
    obtain ⟨k, hk, hk12, rfl, HB⟩ := hrel
    clear B1
    obtain ⟨wq, hwq⟩ : ∃ q, q = wr := ⟨_, rfl⟩
    rw [← hwq] at HB ⊢
    clear hwq
    by_cases hlt : k < n
    · obtain ⟨v, hv⟩ : ∃ v, l[k]? = some v := ⟨_, List.getElem?_eq_getElem (by have := HN.out; omega)⟩
      obtain ⟨g, o, rfl, hg, hc⟩ := HC.out (by omega)
      obtain ⟨q0, q1, q2, q3, q4, q5, q6⟩ := hc k v hv
      have r0 := (HB.out.cell (p := ⟨g, _, none⟩) hg).trans q0
      have r1 := (HB.out.cell (p := ⟨g, _, none⟩) hg).trans q1
      have r2 := (HB.out.cell (p := ⟨g, _, none⟩) hg).trans q2
      have r3 := (HB.out.cell (p := ⟨g, _, none⟩) hg).trans q3
      have r4 := (HB.out.cell (p := ⟨g, _, none⟩) hg).trans q4
      have r5 := (HB.out.cell (p := ⟨g, _, none⟩) hg).trans q5
      have r6 := (HB.out.cell (p := ⟨g, _, none⟩) hg).trans q6
      have k1 : (k : Int) < (n : Int) := by omega
      have k2 : (0 : Int) ≤ (k : Int) := by omega
      have k4 : IntKind.i64.wrap ((k : Int) + 1) = (k : Int) + 1 := IntWalk.i64_in _ (by omega)
      clear q0 q1 q2 q3 q4 q5 q6 hc hv
      have X0 : Hid (Box (wq.alloc (.cells Ver.zero.arr 26)) wq.heap.size 26 Ver.zero.arr) := Lib.hid box_new
      obtain ⟨w2, hw2⟩ : ∃ q, q = (wq.alloc (.cells Ver.zero.arr 26)).setRow wq.heap.size v.arr := ⟨_, rfl⟩
      have X2 : Hid (Box w2 wq.heap.size 26 v.arr) := Lib.hid (by rw [hw2]; exact X0.out.row _)
      have B2 : Hid (Below w.heap.size w w2) := Lib.hid (by rw [hw2]; exact below_row (HB.out.alloc HB.out.size _) HB.out.size _)
      have hgq := HB.out.size
      go_upto_region 6 with (first
        | (with_reducible refine wpList_zero rfl 26 rfl Ver.zero.arr zero26 ?_)
        | (refine wpList_store_row rfl 26 (.tmp 4) (.tmp 21) rfl wq.heap.size v.arr rfl rfl 26 _ X0.out (info26 _) rfl (arr_one _) ?_))
      rw [← hw2]
      clear hw2 X0 r0 r1 r2 r3 r4 r5 r6
      by_cases h12 : k = 12
      · have t12 : ((k : Int) == 12) = true := by simp [h12]
        clear h12
        go_wp2_with fail
        go_ret
        exact ⟨rfl, B2.out⟩
      · have t12 : ((k : Int) == 12) = false := by rw [beq_eq_false_iff_ne]; omega
        have k5 : k < 12 := by omega
        cases hv : v.ok with
        | false =>
          have HR : Hid (∀ W, Calls Tryd.prog 12 #[.agg v.arr] W fun e w' => e = .returned (.bool false) ∧ Below W.heap.size W w') := Lib.hid (fun W => by have := right_any v W; rw [hv] at this; exact this)
          have HX : Hid (∀ W, TabW W → Calls Tryd.prog 13 #[.agg v.arr] W fun e w' => e = .returned (.tuple #[.string ⟨#[]⟩, .int .i64 140]) ∧ Below W.heap.size W w') := Lib.hid (fun W h => text_bad hv W h)
          have HD : Hid (∀ W, Calls Tryd.prog 14 #[.agg v.arr] W fun e w' => e = .returned (.tuple #[.agg Ver.zero.arr, .int .i64 140]) ∧ Below W.heap.size W w') := Lib.hid (fun W => by
            have := behind_any v W
            rw [show v.behind = (Ver.zero, 140) from if_neg (by rw [hv]; decide)] at this
            exact this)
          have HK : Hid (∀ W, Calls Tryd.prog 15 #[.agg v.arr] W fun e w' => e = .returned (.int .i64 140) ∧ Below W.heap.size W w') := Lib.hid (fun W => by have := check_any v W; rw [hv] at this; exact this)
          obtain ⟨m, hm⟩ : ∃ m, m = Ver.zero := ⟨_, rfl⟩
          rw [← hm] at HD
          have HM := Lib.hid hm
          have e0 : ((140 : Int) == 0) = false := rfl
          have e1 : ((140 : Int) != 140) = false := rfl
          have e2 : (Bool.false != Bool.false) = Bool.false := rfl
          clear hv h12 hm
          go_wp2_with (refine wpList_load_row rfl 26 (.tmp 4) rfl wq.heap.size rfl 26 v.arr (0, 0) _ X2.out Tryd.underlying26 rfl (info26 _) ?_)
          refine (HR.out _).mono ?_
          rintro e w3 ⟨rfl, hb⟩
          have X3 := Lib.hid (X2.out.on hb)
          have B3 := Lib.hid (bch B2.out hb)
          clear X2 B2 HR hb
          go_wp2_with (refine wpList_load_row rfl 26 (.tmp 4) rfl wq.heap.size rfl 26 v.arr (0, 0) _ X3.out Tryd.underlying26 rfl (info26 _) ?_)
          refine (HX.out _ (HT.out _ B3.out)).mono ?_
          rintro e w4 ⟨rfl, hb⟩
          have X4 := Lib.hid (X3.out.on hb)
          have B4 := Lib.hid (bch B3.out hb)
          clear X3 B3 HX hb
          go_wp2_with (refine wpList_load_row rfl 26 (.tmp 4) rfl wq.heap.size rfl 26 v.arr (0, 0) _ X4.out Tryd.underlying26 rfl (info26 _) ?_)
          refine (HD.out _).mono ?_
          rintro e w5 ⟨rfl, hb⟩
          have X5 := Lib.hid (X4.out.on hb)
          have B5 := Lib.hid (bch B4.out hb)
          clear X4 B4 HD hb
          have l5 := X5.out.lt
          have Y5 : Hid (Box (w5.alloc (.cells Ver.zero.arr 26)) w5.heap.size 26 Ver.zero.arr) := Lib.hid box_new
          obtain ⟨w6, hw6⟩ : ∃ q, q = (w5.alloc (.cells Ver.zero.arr 26)).setRow w5.heap.size m.arr := ⟨_, rfl⟩
          have Y6' : Hid (Box w6 w5.heap.size 26 m.arr) := Lib.hid (by rw [hw6]; exact Y5.out.row _)
          have X6 : Hid (Box w6 wq.heap.size 26 v.arr) := Lib.hid (by rw [hw6]; exact (X5.out.alloc _).far_row (by omega) _)
          have B6 : Hid (Below w.heap.size w w6) := Lib.hid (by rw [hw6]; exact below_row (B5.out.alloc B5.out.size _) B5.out.size _)
          go_upto_region 10 with (first
            | (with_reducible refine wpList_zero rfl 26 rfl Ver.zero.arr zero26 ?_)
            | (refine wpList_store_row rfl 26 (.tmp 8) (.tmp 34) rfl w5.heap.size m.arr rfl rfl 26 _ Y5.out (info26 _) rfl (arr_one _) ?_))
          rw [← hw6]
          clear hw6 X5 B5 Y5
          obtain ⟨g8, hg8⟩ : ∃ q, q = w5.heap.size := ⟨_, rfl⟩
          rw [← hg8] at Y6' l5 ⊢
          clear hg8
          go_wp2_with (refine wpList_load_row rfl 26 (.tmp 4) rfl wq.heap.size rfl 26 v.arr (0, 0) _ X6.out Tryd.underlying26 rfl (info26 _) ?_)
          refine (HK.out _).mono ?_
          rintro e w7 ⟨rfl, hb⟩
          have X7 := Lib.hid (X6.out.on hb)
          have Y6 := Lib.hid (Y6'.out.on hb)
          have B7 := Lib.hid (bch B6.out hb)
          clear X6 B6 Y6' HK hb
          have eqf : ∀ W, (Op.equalIn 10000 26 (.agg m.arr) (.agg Ver.zero.arr)).run Tryd.prog W = .ok true W := fun W => (eq26 m Ver.zero W).trans (by rw [HM.out, decide_eq_true rfl])
          have hgd : Tryd.prog.eqGuardType Tryd.prog.depth 26 = false := by kernel_rfl
          go_wp2_with (first
            | (refine guarded26 rfl (.tmp 8) rfl g8 rfl m Y6.out ?_)
            | (refine gbuild26 rfl rfl ?_))
          go_roundw
          case rel => exact ⟨k + 1, hlt, by omega, by go_num, B7⟩
          case measure => simp [Lib.intOf]; omega
        | true =>
          obtain ⟨hm1, hm4⟩ := ok_many hv
          obtain ⟨j, hj⟩ : ∃ j : Nat, v.many - 1 = (j : Int) := ⟨(v.many - 1).toNat, by omega⟩
          have hjn : v.many.toNat - 1 = j := by omega
          have hj4 : j < 4 := by omega
          obtain ⟨n0, n9⟩ := ok_num hv hj4
          obtain ⟨z, hz⟩ : ∃ z, z = v.num j := ⟨_, rfl⟩
          obtain ⟨b, hb0⟩ : ∃ b, b = v.bare := ⟨_, rfl⟩
          rw [← hz] at n0 n9
          have HR : Hid (∀ W, Calls Tryd.prog 12 #[.agg v.arr] W fun e w' => e = .returned (.bool true) ∧ Below W.heap.size W w') := Lib.hid (fun W => by have := right_any v W; rw [hv] at this; exact this)
          have HX : Hid (∀ W, TabW W → Calls Tryd.prog 13 #[.agg v.arr] W fun e w' => e = .returned (.tuple #[.string (ofB v.text), .int .i64 0]) ∧ Below W.heap.size W w') := Lib.hid (fun W h => text_good hv W h)
          have HK : Hid (∀ W, Calls Tryd.prog 15 #[.agg v.arr] W fun e w' => e = .returned (.int .i64 0) ∧ Below W.heap.size W w') := Lib.hid (fun W => by have := check_any v W; rw [hv] at this; exact this)
          have HTX : Hid (∀ W, Calls Tryd.prog 16 #[.agg v.arr] W fun e w' => e = .returned (.string (ofB v.text)) ∧ Below W.heap.size W w') := Lib.hid (fun W => rtext_any v hv W)
          obtain ⟨m, x, hm, hx⟩ : ∃ (m : Ver) (x : Int), v.behind = (m, x) ∧ ((z = 9999 ∧ m = Ver.zero ∧ x = 2) ∨ (z ≠ 9999 ∧ m = b.incr j ∧ x = 0)) := by
            unfold Ver.behind
            rw [if_pos hv, hjn, ← hz]
            by_cases h9 : z = 9999
            · exact ⟨_, _, if_pos h9, .inl ⟨h9, rfl, rfl⟩⟩
            · refine ⟨_, _, if_neg h9, .inr ⟨h9, ?_, rfl⟩⟩
              rw [first_bare hv, hb0]
          have HD : Hid (∀ W, Calls Tryd.prog 14 #[.agg v.arr] W fun e w' => e = .returned (.tuple #[.agg m.arr, .int .i64 x]) ∧ Below W.heap.size W w') := Lib.hid (fun W => by
            have := behind_any v W
            rw [hm] at this
            exact this)
          have HZ : Hid (z = b.num j) := Lib.hid (by rw [hz, hb0]; rfl)
          have HBB : Hid (Ver.arr ⟨v.n0, v.n1, v.n2, v.n3, v.many, ⟨#[]⟩, 0⟩ = b.arr) := Lib.hid (by rw [hb0]; rfl)
          have HXC := Lib.hid hx
          have HJ := Lib.hid hj
          have HJ4 := Lib.hid hj4
          have e0 : ((0 : Int) == 0) = true := rfl
          have e1 : ((0 : Int) != 0) = false := rfl
          have e2 : (true != true) = false := rfl
          have j0 : (0 : Int) ≤ (j : Int) := by omega
          have j3 : (j : Int) < 4 := by omega
          have j5 : IntKind.i64.wrap (j : Int) = (j : Int) := IntWalk.i64_in _ (by omega)
          have z5 : IntKind.i64.wrap (z + 1) = z + 1 := IntWalk.i64_in _ (by omega)
          obtain ⟨T, hTT⟩ : ∃ T, T = ofB v.text := ⟨_, rfl⟩
          rw [← hTT] at HX HTX
          clear hv h12 hm hx hz hb0 hm1 hm4 hjn hj4 hTT hj
          go_wp2_with (refine wpList_load_row rfl 26 (.tmp 4) rfl wq.heap.size rfl 26 v.arr (0, 0) _ X2.out Tryd.underlying26 rfl (info26 _) ?_)
          refine (HR.out _).mono ?_
          rintro e w3 ⟨rfl, hb⟩
          have X3 := Lib.hid (X2.out.on hb)
          have B3 := Lib.hid (bch B2.out hb)
          clear X2 B2 HR hb
          go_wp2_with (refine wpList_load_row rfl 26 (.tmp 4) rfl wq.heap.size rfl 26 v.arr (0, 0) _ X3.out Tryd.underlying26 rfl (info26 _) ?_)
          refine (HX.out _ (HT.out _ B3.out)).mono ?_
          rintro e w4 ⟨rfl, hb⟩
          have X4 := Lib.hid (X3.out.on hb)
          have B4 := Lib.hid (bch B3.out hb)
          clear X3 B3 HX hb
          go_wp2_with (refine wpList_load_row rfl 26 (.tmp 4) rfl wq.heap.size rfl 26 v.arr (0, 0) _ X4.out Tryd.underlying26 rfl (info26 _) ?_)
          refine (HD.out _).mono ?_
          rintro e w5 ⟨rfl, hb⟩
          have X5 := Lib.hid (X4.out.on hb)
          have B5 := Lib.hid (bch B4.out hb)
          clear X4 B4 HD hb
          have l5 := X5.out.lt
          have Y5 : Hid (Box (w5.alloc (.cells Ver.zero.arr 26)) w5.heap.size 26 Ver.zero.arr) := Lib.hid box_new
          obtain ⟨w6, hw6⟩ : ∃ q, q = (w5.alloc (.cells Ver.zero.arr 26)).setRow w5.heap.size m.arr := ⟨_, rfl⟩
          have Y6' : Hid (Box w6 w5.heap.size 26 m.arr) := Lib.hid (by rw [hw6]; exact Y5.out.row _)
          have X6 : Hid (Box w6 wq.heap.size 26 v.arr) := Lib.hid (by rw [hw6]; exact (X5.out.alloc _).far_row (by omega) _)
          have B6 : Hid (Below w.heap.size w w6) := Lib.hid (by rw [hw6]; exact below_row (B5.out.alloc B5.out.size _) B5.out.size _)
          go_upto_region 10 with (first
            | (with_reducible refine wpList_zero rfl 26 rfl Ver.zero.arr zero26 ?_)
            | (refine wpList_store_row rfl 26 (.tmp 8) (.tmp 34) rfl w5.heap.size m.arr rfl rfl 26 _ Y5.out (info26 _) rfl (arr_one _) ?_))
          rw [← hw6]
          clear hw6 X5 B5 Y5
          obtain ⟨g8, hg8⟩ : ∃ q, q = w5.heap.size := ⟨_, rfl⟩
          rw [← hg8] at Y6' l5 ⊢
          clear hg8
          go_wp2_with (refine wpList_load_row rfl 26 (.tmp 4) rfl wq.heap.size rfl 26 v.arr (0, 0) _ X6.out Tryd.underlying26 rfl (info26 _) ?_)
          refine (HK.out _).mono ?_
          rintro e w7 ⟨rfl, hb⟩
          have X7 := Lib.hid (X6.out.on hb)
          have Y6 := Lib.hid (Y6'.out.on hb)
          have B7 := Lib.hid (bch B6.out hb)
          clear X6 B6 Y6' HK hb
          have c0 := X7.out.ver.c0
          have c1 := X7.out.ver.c1
          have c2 := X7.out.ver.c2
          have c3 := X7.out.ver.c3
          have c4 := X7.out.ver.c4
          have l7 := X7.out.lt
          have m7 := Y6.out.lt
          have Z0 : Hid (Box (w7.alloc (.cells Ver.zero.arr 26)) w7.heap.size 26 Ver.zero.arr) := Lib.hid box_new
          obtain ⟨w8, hw8⟩ : ∃ q, q = (w7.alloc (.cells Ver.zero.arr 26)).setRow w7.heap.size b.arr := ⟨_, rfl⟩
          have Z8 : Hid (Box w8 w7.heap.size 26 b.arr) := Lib.hid (by rw [hw8]; exact Z0.out.row _)
          have X8 : Hid (Box w8 wq.heap.size 26 v.arr) := Lib.hid (by rw [hw8]; exact (X7.out.alloc _).far_row (by omega) _)
          have Y8 : Hid (Box w8 g8 26 m.arr) := Lib.hid (by rw [hw8]; exact (Y6.out.alloc _).far_row (by omega) _)
          have B8 : Hid (Below w.heap.size w w8) := Lib.hid (by rw [hw8]; exact below_row (B7.out.alloc B7.out.size _) B7.out.size _)
          go_upto_region 17 with (first
            | (with_reducible refine wpList_zero rfl 26 rfl Ver.zero.arr zero26 ?_)
            | (refine builds_ver26 rfl (.tmp 69) (.tmp 71) rfl v.n0 v.n1 v.n2 v.n3 v.many rfl rfl ?_; rw [HBB.out])
            | (refine wpList_store_row rfl 26 (.tmp 11) (.tmp 72) rfl w7.heap.size b.arr rfl rfl 26 _ Z0.out (info26 _) rfl (arr_one _) ?_))
          rw [← hw8]
          clear hw8 X7 Y6 B7 Z0 c0 c1 c2 c3 c4
          obtain ⟨g11, hg11⟩ : ∃ q, q = w7.heap.size := ⟨_, rfl⟩
          rw [← hg11] at Z8 l7 m7 ⊢
          clear hg11
          have c4 := X8.out.ver.c4
          have cj := Z8.out.ver.num HJ4.out
          rw [← HZ.out] at cj
          have fj : w8.frozen? ⟨g11, j, none⟩ = false := frozen_of_row w8 _ j _ _ Z8.out
          have jm := HJ.out
          obtain ⟨w9, hw9⟩ : ∃ q, q = w8.setCell ⟨g11, j, none⟩ (.int .i64 (z + 1)) := ⟨_, rfl⟩
          have Z9 : Hid (Box w9 g11 26 (b.incr j).arr) := Lib.hid (by rw [hw9, ← incr_row b j HJ4.out (z + 1) (by rw [HZ.out])]; exact Z8.out.set _)
          have X9 : Hid (Box w9 wq.heap.size 26 v.arr) := Lib.hid (by rw [hw9]; exact X8.out.far (by show wq.heap.size ≠ g11; omega) _)
          have Y9 : Hid (Box w9 g8 26 m.arr) := Lib.hid (by rw [hw9]; exact Y8.out.far (by show g8 ≠ g11; omega) _)
          have B9 : Hid (Below w.heap.size w w9) := Lib.hid (by rw [hw9]; exact B8.out.setCell (p := ⟨g11, j, none⟩) (by show w.heap.size ≤ g11; omega) _)
          go_upto_region 18 with fail
          rw [← hw9]
          clear hw9 c4 cj fj Z8 X8 Y8 B8
          have c4 := X9.out.ver.c4
          have cj : w9.cell? ⟨g11, j, none⟩ = some (.int .i64 (z + 1)) := by
            have := Z9.out.ver.num HJ4.out
            rw [num_incr b j j HJ4.out HJ4.out, if_pos rfl, ← HZ.out] at this
            exact this
          have eqf : ∀ W, (Op.equalIn 10000 26 (.agg m.arr) (.agg m.arr)).run Tryd.prog W = .ok true W := fun W => (eq26 m m W).trans (by rw [decide_eq_true rfl])
          have hgd : Tryd.prog.eqGuardType Tryd.prog.depth 26 = false := by kernel_rfl
          by_cases h9 : z = 9999
          · have hmx : m = Ver.zero ∧ x = 2 := by
              rcases HXC.out with h | h
              · exact h.2
              · exact absurd h9 h.1
            obtain ⟨hm0, hx0⟩ := hmx
            have d9 : decide (z + 1 > 9999) = true := decide_eq_true (by omega)
            have d9' : z + 1 > 9999 := by omega
            obtain ⟨wa, hwa⟩ : ∃ q, q = w9.setRow g11 Ver.zero.arr := ⟨_, rfl⟩
            have Za : Hid (Box wa g11 26 m.arr) := Lib.hid (by rw [hwa, hm0]; exact Z9.out.row _)
            have Xa : Hid (Box wa wq.heap.size 26 v.arr) := Lib.hid (by rw [hwa]; exact X9.out.far_row (by omega) _)
            have Ya : Hid (Box wa g8 26 m.arr) := Lib.hid (by rw [hwa]; exact Y9.out.far_row (by omega) _)
            have Ba : Hid (Below w.heap.size w wa) := Lib.hid (by rw [hwa]; exact below_row B9.out (by omega) _)
            subst hx0
            clear h9 hm0
            go_upto_region 20 with (first
              | (refine builds_none26 rfl rfl ?_)
              | (refine wpList_store_row rfl 26 (.tmp 11) (.tmp 89) rfl g11 Ver.zero.arr rfl rfl 26 _ Z9.out (info26 _) rfl (arr_one _) ?_))
            rw [← hwa]
            clear hwa X9 Y9 B9 Z9 c4 cj
            have e3 : ((2 : Int) != 2) = false := rfl
            have e4 : ((2 : Int) == 2) = true := rfl
            go_wp2_with (refine wpList_load_row rfl 26 (.tmp 4) rfl wq.heap.size rfl 26 v.arr (0, 0) _ Xa.out Tryd.underlying26 rfl (info26 _) ?_)
            refine (HTX.out _).mono ?_
            rintro e wb ⟨rfl, hb⟩
            have Yb := Lib.hid (Ya.out.on hb)
            have Zb := Lib.hid (Za.out.on hb)
            have Bb := Lib.hid (bch Ba.out hb)
            clear Xa Ya Za Ba hb HTX
            go_wp2_with (first
              | (refine guarded26 rfl (.tmp 8) rfl g8 rfl m Yb.out ?_)
              | (refine guarded26 rfl (.tmp 11) rfl g11 rfl m Zb.out ?_))
            go_roundw
            case rel => exact ⟨k + 1, hlt, by omega, by go_num, Bb⟩
            case measure => simp [Lib.intOf]; omega
          · have hmx : m = b.incr j ∧ x = 0 := by
              rcases HXC.out with h | h
              · exact absurd h.1 h9
              · exact h.2
            obtain ⟨hm0, hx0⟩ := hmx
            have d9 : decide (z + 1 > 9999) = false := decide_eq_false (by omega)
            have d9' : ¬ (z + 1 > 9999) := by omega
            have Za : Hid (Box w9 g11 26 m.arr) := Lib.hid (by rw [hm0]; exact Z9.out)
            subst hx0
            clear h9 hm0 Z9
            go_upto_region 20 with fail
            clear c4 cj
            go_wp2_with (refine wpList_load_row rfl 26 (.tmp 4) rfl wq.heap.size rfl 26 v.arr (0, 0) _ X9.out Tryd.underlying26 rfl (info26 _) ?_)
            refine (HTX.out _).mono ?_
            rintro e wb ⟨rfl, hb⟩
            have Yb := Lib.hid (Y9.out.on hb)
            have Zb := Lib.hid (Za.out.on hb)
            have Bb := Lib.hid (bch B9.out hb)
            clear X9 Y9 Za B9 hb HTX
            go_wp2_with (first
              | (refine guarded26 rfl (.tmp 8) rfl g8 rfl m Yb.out ?_)
              | (refine guarded26 rfl (.tmp 11) rfl g11 rfl m Zb.out ?_))
            go_roundw
            case rel => exact ⟨k + 1, hlt, by omega, by go_num, Bb⟩
            case measure => simp [Lib.intOf]; omega
    · have k1 : ¬ ((k : Int) < (n : Int)) := by omega
      go_wp2_with fail
      go_ret
      exact ⟨rfl, HB.out⟩
end Go.Proofs.YtjekibhaabkecaaDoor
