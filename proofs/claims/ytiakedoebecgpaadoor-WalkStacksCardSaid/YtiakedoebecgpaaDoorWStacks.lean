/- Proved here: WalkStacks of puncheonlaw07 returns true, wherever the tables stand. -/
import Derived.Test.YtiakedoebecgpaaDoorWStk
namespace Go.Proofs.YtiakedoebecgpaaDoor
open Go.RowKit Go.Shelf

theorem own_shape {w : World} {B s n : Nat} {e : TypeId} {v : Value} {xs : List Value} (h : w.ownsRow B e s v n xs) : ∃ a c, v = .slice a n c := by
  rcases h.2 with ⟨rfl, rfl⟩ | ⟨g, cap, cur, rfl, _⟩
  · exact ⟨_, _, rfl⟩
  · exact ⟨_, _, rfl⟩
theorem own_geq {w : World} {B s n : Nat} {e : TypeId} {v : Value} {xs : List Value} (h : w.ownsRow B e s v n xs) (j : Nat) (hj : v.ownBlock = some j) : B ≤ j := by
  rcases h.2 with ⟨rfl, _⟩ | ⟨g, cap, cur, rfl, hB, _⟩
  · cases hj
  · cases hj; exact hB
theorem own_below {w w' : World} {B s n : Nat} {e : TypeId} {v : Value} {xs : List Value} (h : w.ownsRow B e s v n xs) (hb : Below w.heap.size w w') : w'.ownsRow B e s v n xs := by
  refine ⟨h.1, ?_⟩
  rcases h.2 with h0 | ⟨g, cap, cur, hv, hB, hh, hr⟩
  · exact .inl h0
  · have hlt : g < w.heap.size := by
      rcases Nat.lt_or_ge g w.heap.size with h' | h'
      · exact h'
      · rw [Array.getElem?_eq_none h'] at hh; cases hh
    exact .inr ⟨g, cap, cur, hv, hB, (hb.block g hlt).trans hh, hr⟩
theorem box_not_row {w : World} {g : Nat} {t e : TypeId} {cs : Array Value} (h : Box w g t cs) (hte : t ≠ e) {B s n : Nat} {v : Value} {xs : List Value} (hr : w.ownsRow B e s v n xs) : some g ≠ v.ownBlock := by
  intro hg
  rcases hr.2 with ⟨rfl, _⟩ | ⟨k, cap, cur, rfl, _, hh, _⟩
  · cases hg
  · cases hg
    unfold Box at h
    rw [h] at hh
    cases hh
    exact hte rfl
theorem rdT_own {w : World} {B m : Nat} {v : Value} {l : List Str} (hm : m = l.length) (h : w.ownsRow B 9 1 v m (l.map encS)) : RdT w w.heap.size v l := by
  subst hm
  obtain ⟨a, c, h1, h2, h3, h4⟩ := RdF.of_own h
  rcases h.2 with ⟨hv, h0⟩ | ⟨g, cap, cur, hv, hB, hh, hr⟩
  · rw [hv, List.eq_nil_of_length_eq_zero h0]
    exact RdT.nil _ _
  · have hlt : g < w.heap.size := by
      rcases Nat.lt_or_ge g w.heap.size with h' | h'
      · exact h'
      · rw [Array.getElem?_eq_none h'] at hh; cases hh
    rw [hv] at h1
    cases h1
    refine ⟨_, c, hv, h2, h3, (fun e => by cases e), fun ad e => ?_⟩
    cases e
    refine ⟨g, 0, rfl, hlt, Nat.ne_of_lt hlt, fun j x hj => ?_⟩
    obtain ⟨g', o', e', _, hc⟩ := h4 (Nat.lt_of_le_of_lt (Nat.zero_le _) (List.getElem?_eq_some_iff.1 hj).1)
    cases e'
    exact hc j _ (by rw [List.getElem?_map, hj]; rfl)
theorem eq35' (a b : It) (o : Bool) (h : decide (a = b) = o) : ∀ W, (Op.equalIn 10000 35 (.agg #[.string ⟨a.path.toArray⟩, .int .i64 a.kind, .string ⟨a.data.toArray⟩]) (.agg #[.string ⟨b.path.toArray⟩, .int .i64 b.kind, .string ⟨b.data.toArray⟩])).run Tryd.prog W = .ok o W := fun W => by rw [← h]; exact eq35 a b W
set_option maxRecDepth 100000 in
set_option maxHeartbeats 16000000 in
theorem stacks_law (l0 : List It) (v : Value) (ds0 : List Str) (dv : Value) (s : ByteArray) (w : World) (hv : RdI w v l0) (hsz : ∀ x ∈ l0, x.path.length ≤ 140737488355328) (hT : Tabs w) (hd : RdS w dv ds0) (hds : ∀ x ∈ ds0, x.length ≤ 140737488355328) :
    Calls Tryd.prog 10 #[.agg #[v], dv, .string s] w fun e w' => e = .returned (.bool true) ∧ Below w.heap.size w w' := by
  obtain ⟨w1, hw1⟩ : ∃ z, z = w.alloc (.cells #[v] 24) := ⟨_, rfl⟩
  have X : Hid (Box w1 w.heap.size 24 #[v]) := Lib.hid (by rw [hw1]; exact box_new)
  have HB1 : Hid (Below w.heap.size w w1) := Lib.hid (by rw [hw1]; exact below_new _ _)
  have HT := Lib.hid hT
  have HV := Lib.hid hv
  have HD := Lib.hid hd
  have HDS := Lib.hid hds
  obtain ⟨l, hl⟩ : ∃ l, l = l0.take 60 := ⟨_, rfl⟩
  have HL : Hid (l.length ≤ 1000000) := Lib.hid (by rw [hl, List.length_take]; omega)
  have HSZ : Hid (∀ x ∈ l, x.path.length ≤ 140737488355328) := Lib.hid (fun x hx => hsz x (List.mem_of_mem_take (by rwa [hl] at hx)))
  have HW := Lib.hid (wwakes_any w1 (hT.on HB1.out))
  obtain ⟨va, vn, vc, rfl⟩ : ∃ a n c, v = .slice a n c := by obtain ⟨a, c, e, _⟩ := HV.out; exact ⟨_, _, _, e⟩
  obtain ⟨da, dn, dc, rfl⟩ : ∃ a n c, dv = .slice a n c := by obtain ⟨a, c, e, _⟩ := HD.out; exact ⟨_, _, _, e⟩
  obtain ⟨b3, hb3⟩ : ∃ z, z = w.heap.size := ⟨_, rfl⟩
  have H3 : Hid (w.heap.size ≤ b3) := Lib.hid (by rw [hb3]; exact Nat.le_refl _)
  have HB3 := Lib.hid hb3
  rw [← hb3] at X
  clear hT hsz hv hd hds
  go_enter Tryd.func10, Tryd.ntmps10
  go_upto_region 1 with fail
  rw [← hw1, ← HB3.out]
  clear hw1 hb3
  go_wp2_with fail
  refine HW.out.mono ?_
  rintro e w2 ⟨rfl, hb2⟩
  have x2 := X.out.on hb2
  have HB2 := Lib.hid (bch HB1.out hb2)
  have c0 := x2.cell (k := 0) rfl
  have X2 := Lib.hid x2
  have HF := Lib.hid (wfew_own l0 (.slice va vn vc) w2 (HV.out.on HB2.out))
  rw [← hl] at HF
  clear hb2 X HW x2
  go_wp2_with fail
  refine HF.out.mono ?_
  rintro e w3 ⟨x3, rfl, ho3, hb3⟩
  obtain ⟨n, hn⟩ : ∃ n, n = l.length := ⟨_, rfl⟩
  have HN := Lib.hid hn
  rw [← hn] at ho3
  obtain ⟨a3, c3, rfl⟩ := own_shape ho3
  have HI3 : Hid (RdI w3 (.slice a3 n c3) l) := Lib.hid (by show RdF _ _ _ _; rw [← HN.out]; exact RdF.of_own ho3)
  have HO3 := Lib.hid ho3
  have X3 := Lib.hid (X2.out.on hb3)
  have HW3 := Lib.hid (bch HB2.out hb3)
  have HL2 : Hid (b3 < w2.heap.size) := Lib.hid X2.out.lt
  have HW32 : Hid (w2.heap.size ≤ w3.heap.size) := Lib.hid hb3.size
  have HCC := Lib.hid (cut7_any ds0 (.slice da dn dc) w3 (HD.out.below HW3.out) HDS.out)
  clear ho3 hn hb3 X2 c0 HF
  go_wp2_with fail
  refine HCC.out.mono ?_
  rintro e w4 ⟨x4, rfl, ho4, hb4⟩
  obtain ⟨ds, hds⟩ : ∃ ds, ds = fewL ds0 := ⟨_, rfl⟩
  have hd8 : ds.length ≤ 8 := by rw [hds]; exact fewL_len _
  have hdl : ∀ x ∈ ds, x.length ≤ 140737488355328 := by rw [hds]; exact fun x hx => Nat.le_trans (fewL_sizes ds0 x hx) (by decide)
  rw [← hds] at ho4
  obtain ⟨m, hm⟩ : ∃ m, m = ds.length := ⟨_, rfl⟩
  have HM := Lib.hid hm
  rw [← hm] at ho4
  obtain ⟨a4, c4, rfl⟩ := own_shape ho4
  have X4 := Lib.hid (X3.out.on hb4)
  have HW4 := Lib.hid (bch HW3.out hb4)
  obtain ⟨w5, hw5⟩ : ∃ z, z = w4.setRow b3 #[.slice a3 n c3] := ⟨_, rfl⟩
  have x5 : Box w5 b3 24 #[.slice a3 n c3] := by rw [hw5]; exact X4.out.row _
  have hg5 : w4.grownBy w5 (some b3) := by rw [hw5]; exact grown_row _ _ _
  have HI5 : Hid (RdI w5 (.slice a3 n c3) l) := Lib.hid (by
    show RdF _ _ _ _
    rw [← HN.out]
    exact rdF_grown (own_below HO3.out hb4) hg5 HL2.out)
  have HD5 : Hid (RdS w5 (.slice a4 m c4) ds) := Lib.hid (rdS_own (B := w3.heap.size) (by rw [← HM.out]; exact own_grown ho4 hg5 (Nat.lt_of_lt_of_le HL2.out HW32.out)))
  have HOD : Hid (w5.ownsRow w3.heap.size 9 1 (.slice a4 m c4) m (ds.map encS)) := Lib.hid (own_grown ho4 hg5 (Nat.lt_of_lt_of_le HL2.out HW32.out))
  have HT5 : Hid (Tabs w5) := Lib.hid ((HT.out.on HW4.out).grown (Nat.le_trans HT.out.one H3.out) hg5)
  have HWW5 : Hid (Below w.heap.size w w5) := Lib.hid (by rw [hw5]; exact below_row HW4.out H3.out _)
  have c0 := x5.cell (k := 0) rfl
  have X5 := Lib.hid x5
  have HW5 := Lib.hid hw5
  have HM8 := Lib.hid hd8
  have HDL := Lib.hid hdl
  have HLK := Lib.hid (lookup_any l (.slice a3 n c3) ds (.slice a4 m c4) s w5 HI5.out HL.out HSZ.out HT5.out HD5.out (by omega) hdl)
  clear hw5 hg5 x5 ho4 hm hb4 hd8 hdl X3 HCC
  go_wp2_with (first
    | (refine wpList_store_row rfl 24 (.tmp 3) (.tmp 20) rfl b3 #[.slice a3 n c3] rfl rfl 24 _ X4.out (info24 _) rfl (slice_one _ _ _) ?_; rw [← HW5.out])
    | fail)
  refine HLK.out.mono ?_
  rintro e u5 ⟨rfl, hbu⟩
  obtain ⟨R, hR⟩ : ∃ R, R = lookM l ds s.data.toList := ⟨_, rfl⟩
  rw [← hR]
  have HR := Lib.hid hR
  obtain ⟨E, hE⟩ : ∃ E, E = errL R := ⟨_, rfl⟩
  obtain ⟨I, hI⟩ : ∃ I, I = placeL R := ⟨_, rfl⟩
  obtain ⟨y, hy⟩ : ∃ y, y = itL R := ⟨_, rfl⟩
  rw [← hE, ← hI, ← hy]
  have HE := Lib.hid hE
  have HI := Lib.hid hI
  have HY := Lib.hid hy
  obtain ⟨g8, hg8⟩ : ∃ z, z = u5.heap.size := ⟨_, rfl⟩
  obtain ⟨w6, hw6⟩ : ∃ z, z = (u5.alloc (.cells #[.string ⟨#[]⟩, .int .i64 0, .string ⟨#[]⟩] 35)).setRow u5.heap.size y.arr := ⟨_, rfl⟩
  have x8 : Box w6 g8 35 y.arr := by rw [hw6, hg8]; exact Box.row (box_new (w := u5) (t := 35) (cs := It.nil.arr)) _
  have hn6 : Below w5.heap.size w5 w6 := by rw [hw6]; exact bch hbu (below_row (below_new _ _) (Nat.le_refl _) _)
  have HB6 : Hid (Below w.heap.size w w6) := Lib.hid (bch HWW5.out hn6)
  have HN6 := Lib.hid hn6
  have c80 : w6.cell? ⟨g8, 0, none⟩ = some (.string ⟨y.path.toArray⟩) := x8.cell (k := 0) rfl
  have c81 : w6.cell? ⟨g8, 1, none⟩ = some (.int .i64 y.kind) := x8.cell (k := 1) rfl
  have c82 : w6.cell? ⟨g8, 2, none⟩ = some (.string ⟨y.data.toArray⟩) := x8.cell (k := 2) rfl
  have X8 := Lib.hid x8
  have HW6 := Lib.hid hw6
  have HG8 := Lib.hid hg8
  clear hR hE hI hy hbu hw6 hg8 hn6 x8 HLK c0 X4
  rcases (show (∃ z, R = .error z ∧ z ≠ 4) ∨ (R = .error 4 ∨ ∃ r, R = .ok r) by
    cases R with
    | ok r => exact .inr (.inr ⟨r, rfl⟩)
    | error z =>
      by_cases hz : z = 4
      · exact .inr (.inl (by rw [hz]))
      · exact .inl ⟨z, rfl, hz⟩) with ⟨z, hz, hz4⟩ | hR4
  · obtain rfl : y = .nil := by rw [HY.out, hz]; rfl
    obtain rfl : I = 0 := by rw [HI.out, hz]; exact placeL_err hz4
    obtain rfl : E = z := by rw [HE.out, hz]; rfl
    have hz0 : E ≠ 0 := look_ne (HR.out.symm.trans hz)
    have t1 : (E == 0) = false := by simp [hz0]
    have t2 : (E != 0) = true := by simp [hz0]
    have t3 : (E == 4) = false := by simp [hz4]
    have t4 : (E != 4) = true := by simp [hz4]
    have e35 : ∀ W, (Op.equalIn 10000 35 (.agg #[.string ⟨#[]⟩, .int .i64 0, .string ⟨#[]⟩]) (.agg #[.string ⟨#[]⟩, .int .i64 0, .string ⟨#[]⟩])).run Tryd.prog W = .ok true W := eq35' .nil .nil true (decide_eq_true rfl)
    have d80 : w6.cell? ⟨g8, 0, none⟩ = some (.string ⟨#[]⟩) := c80
    have d81 : w6.cell? ⟨g8, 1, none⟩ = some (.int .i64 0) := c81
    have d82 : w6.cell? ⟨g8, 2, none⟩ = some (.string ⟨#[]⟩) := c82
    clear hz hz0 hz4 c80 c81 c82
    go_wp2_with (first
      | (refine wpList_store_row rfl 35 (.tmp 8) (.tmp 29) rfl u5.heap.size It.nil.arr rfl rfl 35 It.nil.arr box_new (info35 _) rfl (iarr_one _) ?_; rw [← HW6.out, ← HG8.out])
      | fail)
    go_ret
    exact ⟨rfl, HB6.out⟩
  · rcases hR4 with h | ⟨⟨i, x⟩, h⟩
    · obtain rfl : y = .nil := by rw [HY.out, h]; rfl
      obtain rfl : I = -1 := by rw [HI.out, h]; rfl
      obtain rfl : E = 4 := by rw [HE.out, h]; rfl
      have HALL : Hid (∀ k d, ds[k]? = some d → RoundOk 4 (-1) .nil k (walkM l d s.data.toList true)) := Lib.hid (by have := look_rounds HR.out.symm (.inl h); rw [h] at this; exact this)
      have HRM : Hid (lookM l (noPath :: ds) s.data.toList = .error 4) := Lib.hid (by rw [look_more, ← HR.out, h]; rfl)
      have hmI : (m : Int) ≤ 8 := by have := HM8.out; rw [← HM.out] at this; omega
      clear h
      go_upto_region 7 with (first
        | (refine wpList_store_row rfl 35 (.tmp 8) (.tmp 29) rfl u5.heap.size It.nil.arr rfl rfl 35 It.nil.arr box_new (info35 _) rfl (iarr_one _) ?_; rw [← HW6.out, ← HG8.out])
        | fail)
      clear c80 c81 c82
      go_wp2_with fail
      go_loopw [46] (fun i W => ∃ k : Nat, k ≤ m ∧ i = .int .i64 k ∧ Hid (Below w6.heap.size w6 W)) (fun i _ => m - (Lib.intOf i).toNat)
      case atStart => exact ⟨0, Nat.zero_le _, rfl, Lib.hid (Below.refl _ _)⟩
      case round =>
        obtain ⟨k, hk, rfl, HBk⟩ := hrel
        obtain ⟨wq, hwq⟩ : ∃ q, q = wr := ⟨_, rfl⟩
        rw [← hwq] at HBk ⊢
        clear hwq
        by_cases hlt : k < m
        · obtain ⟨d, hd⟩ : ∃ d, ds[k]? = some d := ⟨_, List.getElem?_eq_getElem (by rw [← HM.out]; exact hlt)⟩
          have hn : Below w5.heap.size w5 wq := bch HN6.out HBk.out
          obtain ⟨aa, cc, e, _, _, hcell⟩ := HD5.out
          rw [← HM.out] at e
          cases e
          obtain ⟨gg, o, rfl, hgg, hc⟩ := hcell (by rw [← HM.out]; omega)
          have q0 : wq.cell? ⟨gg, o + k, none⟩ = some (.string ⟨d.toArray⟩) := (hn.cell (p := ⟨gg, _, none⟩) hgg).trans (hc k d hd)
          have c0 := (X5.out.on hn).cell (k := 0) rfl
          have k1 : (k : Int) < (m : Int) := by omega
          have k2 : (0 : Int) ≤ (k : Int) := by omega
          have k4 : IntKind.i64.wrap ((k : Int) + 1) = (k : Int) + 1 := IntWalk.i64_in _ (by omega)
          have HRES := Lib.hid (resolve_any l (.slice a3 n c3) ⟨d.toArray⟩ s true wq (HI5.out.on hn) HL.out HSZ.out (HT5.out.on hn) (HDL.out d (List.mem_of_getElem? hd)))
          have hall := HALL.out k d hd
          obtain ⟨r, hr⟩ : ∃ r, r = walkM l d s.data.toList true := ⟨_, rfl⟩
          have HRR : Hid (walkM l (⟨d.toArray⟩ : ByteArray).data.toList s.data.toList true = r) := Lib.hid (by rw [hr])
          rw [← hr] at hall
          have HA := Lib.hid hall
          clear hc hcell hd hall hr hn
          go_wp2_with fail
          refine HRES.out.mono ?_
          rintro e a1 ⟨rfl, hz, hba⟩
          rw [HRR.out] at hz ⊢
          clear HRES
          obtain ⟨z, rfl⟩ : ∃ z, r = .error z := by
            rcases HA.out with ⟨_, _, h⟩ | ⟨h, _⟩ | ⟨h, _⟩ | ⟨h, _⟩
            · exact h
            · exact absurd h (by decide)
            · exact absurd h (by decide)
            · exact absurd h (by decide)
          replace hz := hz z rfl
          have j1 : ((k : Int) == -1) = false := by simp <;> omega
          have t1 : (z == 0) = false := by simp [hz]
          have t2 : (z != 0) = true := by simp [hz]
          clear hz
          rw [show errW (.error z) = z from rfl, show itW (.error z) = It.nil from rfl]
          obtain ⟨g12, hg12⟩ : ∃ z, z = a1.heap.size := ⟨_, rfl⟩
          obtain ⟨v1, hv1⟩ : ∃ z, z = (a1.alloc (.cells #[.string ⟨#[]⟩, .int .i64 0, .string ⟨#[]⟩] 35)).setRow a1.heap.size (It.nil).arr := ⟨_, rfl⟩
          have x12 : Box v1 g12 35 (It.nil).arr := by rw [hv1, hg12]; exact Box.row (box_new (w := a1) (t := 35) (cs := It.nil.arr)) _
          have hn1 : Below wq.heap.size wq v1 := by rw [hv1]; exact bch hba (below_row (below_new _ _) (Nat.le_refl _) _)
          have HBv : Hid (Below w6.heap.size w6 v1) := Lib.hid (bch HBk.out hn1)
          have c80 : v1.cell? ⟨g8, 0, none⟩ = some (.string ⟨#[]⟩) := (X8.out.on HBv.out).cell (k := 0) rfl
          have c81 : v1.cell? ⟨g8, 1, none⟩ = some (.int .i64 0) := (X8.out.on HBv.out).cell (k := 1) rfl
          have c82 : v1.cell? ⟨g8, 2, none⟩ = some (.string ⟨#[]⟩) := (X8.out.on HBv.out).cell (k := 2) rfl
          have d0 : v1.cell? ⟨g12, 0, none⟩ = some (.string ⟨#[]⟩) := x12.cell (k := 0) rfl
          have d1 : v1.cell? ⟨g12, 1, none⟩ = some (.int .i64 0) := x12.cell (k := 1) rfl
          have d2 : v1.cell? ⟨g12, 2, none⟩ = some (.string ⟨#[]⟩) := x12.cell (k := 2) rfl
          have HV1 := Lib.hid hv1
          have HG12 := Lib.hid hg12
          clear hv1 hg12 x12 hn1 hba
          go_wp2_with (first
            | (refine wpList_store_row rfl 35 (.tmp 12) (.tmp 56) rfl a1.heap.size (It.nil).arr rfl rfl 35 It.nil.arr box_new (info35 _) rfl (iarr_one _) ?_; rw [← HV1.out, ← HG12.out])
            | fail)
          go_roundw
          case rel => exact ⟨k + 1, hlt, by go_num, HBv⟩
          case measure => simp [Lib.intOf]; omega
        · have k1 : ¬ ((k : Int) < (m : Int)) := by omega
          have hn : Below w5.heap.size w5 wq := bch HN6.out HBk.out
          have HWq : Hid (Below w.heap.size w wq) := Lib.hid (bch HB6.out HBk.out)
          clear hk hlt
          have HIq : Hid (RdI wq (.slice a3 n c3) l) := Lib.hid (HI5.out.on hn)
          have HTq : Hid (Tabs wq) := Lib.hid (HT5.out.on hn)
          have X3q : Hid (Box wq b3 24 #[.slice a3 n c3]) := Lib.hid (X5.out.on hn)
          have X8q : Hid (Box wq g8 35 (It.nil).arr) := Lib.hid (X8.out.on HBk.out)
          have HRT : Hid (RdT wq w5.heap.size (.slice a4 m c4) ds) := Lib.hid ((rdT_own HM.out HOD.out).on hn)
          have HDN : Hid ((noPath :: ds).length ≤ 1000000) := Lib.hid (by have := HM8.out; rw [List.length_cons]; omega)
          have HDP : Hid (∀ x ∈ noPath :: ds, x.length ≤ 140737488355328) := Lib.hid (fun x hx => by rcases List.mem_cons.1 hx with rfl | hx; exact (by decide); exact HDL.out x hx)
          clear hn
          go_upto_region 14 with fail
          obtain ⟨v0, hv0⟩ : ∃ z, z = World.drew wq := ⟨_, rfl⟩
          refine wp_region_held_drew (S := fun w' => Below wq.heap.size wq w') (by kernel_rfl) (Below.refl _ _).drew (fun hHeld => ?_)
          rw [← hv0] at hHeld ⊢
          clear hv0
          refine wpAnyH_take (i := 0) (oi := { dst := some 94, op := Op.load 24 (Operand.tmp 3), type := 24, pos := "outright.go:78", after := #[], guard := none }) (v := ?_) rfl (by kernel_rfl) (by kernel_rfl) (by kernel_rfl) (fun _ _ _ h => h) (Or.inl ⟨by rfl, ?_⟩) hHeld ?_
          rotate_left
          · (intro w hSw; have p0 := (X3q.out.on hSw).cell (k := 0) rfl; go_simp; try with_reducible rfl)
          (try simp only [Act.put, List.setIfInBounds_toArray, List.set_cons_zero, List.set_cons_succ])
          refine wpAnyH_take (i := 2) (oi := { dst := some 96, op := Op.move (Operand.tmp 1), type := 46, pos := "outright.go:78", after := #[], guard := none }) (v := ?_) rfl (by kernel_rfl) (by kernel_rfl) (by kernel_rfl) (fun _ _ _ h => h) (Or.inl ⟨by rfl, ?_⟩) hHeld ?_
          rotate_left
          · (intro w hSw; go_simp; try with_reducible rfl)
          (try simp only [Act.put, List.setIfInBounds_toArray, List.set_cons_zero, List.set_cons_succ])
          refine wpAnyH_take (i := 4) (oi := { dst := some 98, op := Op.move (Operand.tmp 2), type := 9, pos := "outright.go:78", after := #[], guard := none }) (v := ?_) rfl (by kernel_rfl) (by kernel_rfl) (by kernel_rfl) (fun _ _ _ h => h) (Or.inl ⟨by rfl, ?_⟩) hHeld ?_
          rotate_left
          · (intro w hSw; go_simp; try with_reducible rfl)
          (try simp only [Act.put, List.setIfInBounds_toArray, List.set_cons_zero, List.set_cons_succ])
          refine wpAnyH_ready (rs := [1, 10]) (by kernel_rfl) (by simp) (AllReadyH.cons (o := { dst := some 95, op := Op.buildSlice 46 1 #[(0, Operand.const (Value.string { data := #[110, 111, 32, 112, 97, 116, 104] }))], type := 46, pos := "outright.go:78", after := #[], guard := none }) rfl (fun K hK => ?_) (AllReadyH.cons (o := { dst := some 15, op := Op.alloc 35, type := 0, pos := "outright.go:78", after := #[], guard := none }) rfl (fun K hK => ?_) AllReadyH.nil))
          · go_simp
            have hba : Below v0.heap.size v0 (v0.alloc (.cells #[.string ⟨#[110, 111, 32, 112, 97, 116, 104]⟩] 9)) := below_new _ _
            have OW : Hid ((v0.alloc (.cells #[.string ⟨#[110, 111, 32, 112, 97, 116, 104]⟩] 9)).ownsRow wq.heap.size 9 1 (.slice (some ⟨v0.heap.size, 0, none⟩) 1 1) 1 ([noPath].map encS)) := Lib.hid (own_base (owns_new v0 [noPath] (by decide)) hHeld.size)
            obtain ⟨v1, hv9⟩ : ∃ q, q = v0.alloc (.cells #[.string ⟨#[110, 111, 32, 112, 97, 116, 104]⟩] 9) := ⟨_, rfl⟩
            obtain ⟨h95, hh9⟩ : ∃ q, q = v0.heap.size := ⟨_, rfl⟩
            refine hK.out _ _ (bch hHeld hba) (fun hHeld => ?_)
            clear hba
            rw [← hv9] at OW hHeld ⊢
            rw [← hh9] at OW ⊢
            clear hv9 hh9
            (try simp only [Act.put, List.setIfInBounds_toArray, List.set_cons_zero, List.set_cons_succ])
            refine wpAnyH_ready (rs := [3, 10]) (by kernel_rfl) (by simp) (AllReadyH.cons (o := { dst := some 97, op := Op.call { callee := Callee.builtin Builtin.append, args := #[Operand.tmp 95, Operand.tmp 96], argTypes := #[46, 46] }, type := 46, pos := "outright.go:78", after := #[{ on := 1, ground := Ground.data }, { on := 2, ground := Ground.data }], guard := none }) rfl (fun K hK => ?_) (AllReadyH.cons (o := { dst := some 15, op := Op.alloc 35, type := 0, pos := "outright.go:78", after := #[], guard := none }) rfl (fun K hK => ?_) AllReadyH.nil))
            · refine wp_append_rest (by rfl) (.tmp 95) (.tmp 96) rfl wq.heap.size 1 m [noPath] ds rfl HM.out _ rfl OW.out w5.heap.size _ rfl (HRT.out.on hHeld) (by omega) hHeld.size ?_
              intro w9 v3 how3 hgr3 hone3
              obtain ⟨q97, hq97⟩ : ∃ q, q = ([noPath] ++ ds).length := ⟨_, rfl⟩
              have RD : Hid (RdS v3 w9 (noPath :: ds)) := Lib.hid (rdS_own how3)
              rw [← hq97] at how3
              obtain ⟨a97, c97, rfl⟩ := own_shape how3
              clear hq97
              have hbb : Below wq.heap.size wq v3 := hHeld.grown hgr3 hHeld.size (own_geq OW.out)
              refine hK.out _ _ hbb (fun hHeld => ?_)
              clear hone3 hgr3 how3 OW hbb
              (try simp only [Act.put, List.setIfInBounds_toArray, List.set_cons_zero, List.set_cons_succ])
              refine wpAnyH_ready (rs := [5, 10]) (by kernel_rfl) (by simp) (AllReadyH.cons (o := { dst := some 99, op := Op.call { callee := Callee.value (Operand.func 27), args := #[Operand.tmp 94, Operand.tmp 97, Operand.tmp 98], argTypes := #[24, 46, 9] }, type := 59, pos := "outright.go:78", after := #[{ on := 0, ground := Ground.data }, { on := 3, ground := Ground.data }, { on := 4, ground := Ground.data }, { on := 3, ground := Ground.chain }], guard := none }) rfl (fun K hK => ?_) (AllReadyH.cons (o := { dst := some 15, op := Op.alloc 35, type := 0, pos := "outright.go:78", after := #[], guard := none }) rfl (fun K hK => ?_) AllReadyH.nil))
              · go_simp
                refine (lookup_any l (.slice a3 n c3) (noPath :: ds) _ s v3 (HIq.out.on hHeld) HL.out HSZ.out (HTq.out.on hHeld) RD.out HDN.out HDP.out).mono ?_
                rintro e v5 ⟨rfl, hba⟩
                rw [HRM.out]
                rw [show placeL (.error 4) = -1 from rfl, show itL (.error 4) = It.nil from rfl, show errL (.error 4) = 4 from rfl]
                refine hK.out _ _ (bch hHeld hba) (fun hHeld => ?_)
                clear hba RD
                (try simp only [Act.put, List.setIfInBounds_toArray, List.set_cons_zero, List.set_cons_succ])
                refine wpAnyH_take (i := 6) (oi := { dst := some 93, op := Op.move (Operand.tmp 99), type := 59, pos := "outright.go:78", after := #[{ on := 5, ground := Ground.data }], guard := none }) (v := ?_) rfl (by kernel_rfl) (by kernel_rfl) (by kernel_rfl) (fun _ _ _ h => h) (Or.inl ⟨by rfl, ?_⟩) hHeld ?_
                rotate_left
                · (intro w hSw; go_simp; try with_reducible rfl)
                (try simp only [Act.put, List.setIfInBounds_toArray, List.set_cons_zero, List.set_cons_succ])
                refine wpAnyH_take (i := 7) (oi := { dst := some 100, op := Op.extract (Operand.tmp 93) 0, type := 3, pos := "outright.go:78", after := #[{ on := 6, ground := Ground.data }], guard := none }) (v := ?_) rfl (by kernel_rfl) (by kernel_rfl) (by kernel_rfl) (fun _ _ _ h => h) (Or.inl ⟨by rfl, ?_⟩) hHeld ?_
                rotate_left
                · (intro w hSw; go_simp; try with_reducible rfl)
                (try simp only [Act.put, List.setIfInBounds_toArray, List.set_cons_zero, List.set_cons_succ])
                refine wpAnyH_take (i := 8) (oi := { dst := some 101, op := Op.extract (Operand.tmp 93) 1, type := 35, pos := "outright.go:78", after := #[{ on := 6, ground := Ground.data }, { on := 11, ground := Ground.gcOnly Departure.lateStores }], guard := none }) (v := ?_) rfl (by kernel_rfl) (by kernel_rfl) (by kernel_rfl) (fun _ _ _ h => h) (Or.inl ⟨by rfl, ?_⟩) hHeld ?_
                rotate_left
                · (intro w hSw; go_simp; try with_reducible rfl)
                (try simp only [Act.put, List.setIfInBounds_toArray, List.set_cons_zero, List.set_cons_succ])
                refine wpAnyH_take (i := 9) (oi := { dst := some 102, op := Op.extract (Operand.tmp 93) 2, type := 29, pos := "outright.go:78", after := #[{ on := 6, ground := Ground.data }, { on := 12, ground := Ground.gcOnly Departure.lateStores }], guard := none }) (v := ?_) rfl (by kernel_rfl) (by kernel_rfl) (by kernel_rfl) (fun _ _ _ h => h) (Or.inl ⟨by rfl, ?_⟩) hHeld ?_
                rotate_left
                · (intro w hSw; go_simp; try with_reducible rfl)
                (try simp only [Act.put, List.setIfInBounds_toArray, List.set_cons_zero, List.set_cons_succ])
                refine wpAnyH_ready (rs := [10]) (by kernel_rfl) (by simp) (AllReadyH.cons (o := { dst := some 15, op := Op.alloc 35, type := 0, pos := "outright.go:78", after := #[], guard := none }) rfl (fun K hK => ?_) AllReadyH.nil)
                · go_simp
                  have hba : Below v5.heap.size v5 (v5.alloc (.cells #[.string ⟨#[]⟩, .int .i64 0, .string ⟨#[]⟩] 35)) := below_new _ _
                  have Z : Hid (Box (v5.alloc (.cells #[.string ⟨#[]⟩, .int .i64 0, .string ⟨#[]⟩] 35)) v5.heap.size 35 It.nil.arr) := Lib.hid box_new
                  have HZ15 : Hid (wq.heap.size ≤ v5.heap.size) := Lib.hid hHeld.size
                  obtain ⟨v10, hv9⟩ : ∃ q, q = v5.alloc (.cells #[.string ⟨#[]⟩, .int .i64 0, .string ⟨#[]⟩] 35) := ⟨_, rfl⟩
                  obtain ⟨g15, hh9⟩ : ∃ q, q = v5.heap.size := ⟨_, rfl⟩
                  refine hK.out _ _ (bch hHeld hba) (fun hHeld => ?_)
                  clear hba
                  rw [← hv9] at Z hHeld ⊢
                  rw [← hh9] at Z HZ15 ⊢
                  clear hv9 hh9
                  (try simp only [Act.put, List.setIfInBounds_toArray, List.set_cons_zero, List.set_cons_succ])
                  refine wpAnyH_take (i := 11) (oi := { dst := some 14, op := Op.assign (Operand.tmp 100), type := 3, pos := "outright.go:78", after := #[{ on := 7, ground := Ground.data }, { on := 5, ground := Ground.chain }, { on := 0, ground := Ground.phase }, { on := 1, ground := Ground.phase }, { on := 2, ground := Ground.phase }, { on := 3, ground := Ground.phase }, { on := 4, ground := Ground.phase }, { on := 5, ground := Ground.phase }, { on := 6, ground := Ground.phase }, { on := 7, ground := Ground.phase }, { on := 8, ground := Ground.textOnly Departure.lateStores }, { on := 9, ground := Ground.textOnly Departure.lateStores }, { on := 10, ground := Ground.phase }], guard := none }) (v := ?_) rfl (by kernel_rfl) (by kernel_rfl) (by kernel_rfl) (fun _ _ _ h => h) (Or.inl ⟨by rfl, ?_⟩) hHeld ?_
                  rotate_left
                  · (intro w hSw; go_simp; try with_reducible rfl)
                  (try simp only [Act.put, List.setIfInBounds_toArray, List.set_cons_zero, List.set_cons_succ])
                  refine wpAnyH_ready (rs := [12]) (by kernel_rfl) (by simp) (AllReadyH.cons (o := { dst := none, op := Op.store 35 (Operand.tmp 15) (Operand.tmp 101), type := 0, pos := "outright.go:78", after := #[{ on := 10, ground := Ground.data }, { on := 8, ground := Ground.data }, { on := 11, ground := Ground.chain }, { on := 0, ground := Ground.phase }, { on := 1, ground := Ground.phase }, { on := 2, ground := Ground.phase }, { on := 3, ground := Ground.phase }, { on := 4, ground := Ground.phase }, { on := 5, ground := Ground.phase }, { on := 6, ground := Ground.phase }, { on := 7, ground := Ground.phase }, { on := 8, ground := Ground.phase }, { on := 9, ground := Ground.textOnly Departure.lateStores }, { on := 10, ground := Ground.phase }, { on := 11, ground := Ground.phase }], guard := none }) rfl (fun K hK => ?_) AllReadyH.nil)
                  · refine wp_store_if (by rfl) 35 (.tmp 15) (.tmp 101) rfl g15 35 It.nil.arr (It.nil).arr rfl rfl Z.out (info35 _) rfl (iarr_one _) ?_
                    have ZZ : Hid (Box (v10.setRow g15 (It.nil).arr) g15 35 (It.nil).arr) := Lib.hid (Z.out.row _)
                    have hbb : Below wq.heap.size wq (v10.setRow g15 (It.nil).arr) := below_row hHeld HZ15.out _
                    obtain ⟨v12, hv9⟩ : ∃ q, q = v10.setRow g15 (It.nil).arr := ⟨_, rfl⟩
                    refine hK.out _ _ hbb (fun hHeld => ?_)
                    clear hbb Z
                    rw [← hv9] at ZZ hHeld ⊢
                    clear hv9
                    (try simp only [Act.put])
                    refine wpAnyH_take (i := 13) (oi := { dst := some 16, op := Op.assign (Operand.tmp 102), type := 29, pos := "outright.go:78", after := #[{ on := 9, ground := Ground.data }, { on := 12, ground := Ground.chain }, { on := 0, ground := Ground.phase }, { on := 1, ground := Ground.phase }, { on := 2, ground := Ground.phase }, { on := 3, ground := Ground.phase }, { on := 4, ground := Ground.phase }, { on := 5, ground := Ground.phase }, { on := 6, ground := Ground.phase }, { on := 7, ground := Ground.phase }, { on := 8, ground := Ground.phase }, { on := 9, ground := Ground.phase }, { on := 10, ground := Ground.phase }, { on := 11, ground := Ground.phase }, { on := 12, ground := Ground.phase }], guard := none }) (v := ?_) rfl (by kernel_rfl) (by kernel_rfl) (by kernel_rfl) (fun _ _ _ h => h) (Or.inl ⟨by rfl, ?_⟩) hHeld ?_
                    rotate_left
                    · (intro w hSw; go_simp; try with_reducible rfl)
                    (try simp only [Act.put, List.setIfInBounds_toArray, List.set_cons_zero, List.set_cons_succ])
                    refine wpAnyH_done (by kernel_rfl) ?_ _
                    have HFIN : Hid (Below w.heap.size w v12) := Lib.hid (bch HWq.out hHeld)
                    clear hHeld ZZ
                    go_wp2_with fail
                    go_ret
                    exact ⟨rfl, HFIN.out⟩
              · go_simp
                have hba : Below v3.heap.size v3 (v3.alloc (.cells #[.string ⟨#[]⟩, .int .i64 0, .string ⟨#[]⟩] 35)) := below_new _ _
                have Z : Hid (Box (v3.alloc (.cells #[.string ⟨#[]⟩, .int .i64 0, .string ⟨#[]⟩] 35)) v3.heap.size 35 It.nil.arr) := Lib.hid box_new
                have HZ15 : Hid (wq.heap.size ≤ v3.heap.size) := Lib.hid hHeld.size
                have RD := Lib.hid (RD.out.below hba)
                obtain ⟨v10, hv9⟩ : ∃ q, q = v3.alloc (.cells #[.string ⟨#[]⟩, .int .i64 0, .string ⟨#[]⟩] 35) := ⟨_, rfl⟩
                obtain ⟨g15, hh9⟩ : ∃ q, q = v3.heap.size := ⟨_, rfl⟩
                refine hK.out _ _ (bch hHeld hba) (fun hHeld => ?_)
                clear hba
                rw [← hv9] at Z hHeld RD ⊢
                rw [← hh9] at Z HZ15 ⊢
                clear hv9 hh9
                (try simp only [Act.put, List.setIfInBounds_toArray, List.set_cons_zero, List.set_cons_succ])
                refine wpAnyH_ready (rs := [5]) (by kernel_rfl) (by simp) (AllReadyH.cons (o := { dst := some 99, op := Op.call { callee := Callee.value (Operand.func 27), args := #[Operand.tmp 94, Operand.tmp 97, Operand.tmp 98], argTypes := #[24, 46, 9] }, type := 59, pos := "outright.go:78", after := #[{ on := 0, ground := Ground.data }, { on := 3, ground := Ground.data }, { on := 4, ground := Ground.data }, { on := 3, ground := Ground.chain }], guard := none }) rfl (fun K hK => ?_) AllReadyH.nil)
                · go_simp
                  refine (lookup_any l (.slice a3 n c3) (noPath :: ds) _ s v10 (HIq.out.on hHeld) HL.out HSZ.out (HTq.out.on hHeld) RD.out HDN.out HDP.out).mono ?_
                  rintro e v5 ⟨rfl, hba⟩
                  rw [HRM.out]
                  rw [show placeL (.error 4) = -1 from rfl, show itL (.error 4) = It.nil from rfl, show errL (.error 4) = 4 from rfl]
                  have Z := Lib.hid (Z.out.on hba)
                  refine hK.out _ _ (bch hHeld hba) (fun hHeld => ?_)
                  clear hba RD
                  (try simp only [Act.put, List.setIfInBounds_toArray, List.set_cons_zero, List.set_cons_succ])
                  refine wpAnyH_take (i := 6) (oi := { dst := some 93, op := Op.move (Operand.tmp 99), type := 59, pos := "outright.go:78", after := #[{ on := 5, ground := Ground.data }], guard := none }) (v := ?_) rfl (by kernel_rfl) (by kernel_rfl) (by kernel_rfl) (fun _ _ _ h => h) (Or.inl ⟨by rfl, ?_⟩) hHeld ?_
                  rotate_left
                  · (intro w hSw; go_simp; try with_reducible rfl)
                  (try simp only [Act.put, List.setIfInBounds_toArray, List.set_cons_zero, List.set_cons_succ])
                  refine wpAnyH_take (i := 7) (oi := { dst := some 100, op := Op.extract (Operand.tmp 93) 0, type := 3, pos := "outright.go:78", after := #[{ on := 6, ground := Ground.data }], guard := none }) (v := ?_) rfl (by kernel_rfl) (by kernel_rfl) (by kernel_rfl) (fun _ _ _ h => h) (Or.inl ⟨by rfl, ?_⟩) hHeld ?_
                  rotate_left
                  · (intro w hSw; go_simp; try with_reducible rfl)
                  (try simp only [Act.put, List.setIfInBounds_toArray, List.set_cons_zero, List.set_cons_succ])
                  refine wpAnyH_take (i := 8) (oi := { dst := some 101, op := Op.extract (Operand.tmp 93) 1, type := 35, pos := "outright.go:78", after := #[{ on := 6, ground := Ground.data }, { on := 11, ground := Ground.gcOnly Departure.lateStores }], guard := none }) (v := ?_) rfl (by kernel_rfl) (by kernel_rfl) (by kernel_rfl) (fun _ _ _ h => h) (Or.inl ⟨by rfl, ?_⟩) hHeld ?_
                  rotate_left
                  · (intro w hSw; go_simp; try with_reducible rfl)
                  (try simp only [Act.put, List.setIfInBounds_toArray, List.set_cons_zero, List.set_cons_succ])
                  refine wpAnyH_take (i := 9) (oi := { dst := some 102, op := Op.extract (Operand.tmp 93) 2, type := 29, pos := "outright.go:78", after := #[{ on := 6, ground := Ground.data }, { on := 12, ground := Ground.gcOnly Departure.lateStores }], guard := none }) (v := ?_) rfl (by kernel_rfl) (by kernel_rfl) (by kernel_rfl) (fun _ _ _ h => h) (Or.inl ⟨by rfl, ?_⟩) hHeld ?_
                  rotate_left
                  · (intro w hSw; go_simp; try with_reducible rfl)
                  (try simp only [Act.put, List.setIfInBounds_toArray, List.set_cons_zero, List.set_cons_succ])
                  refine wpAnyH_take (i := 11) (oi := { dst := some 14, op := Op.assign (Operand.tmp 100), type := 3, pos := "outright.go:78", after := #[{ on := 7, ground := Ground.data }, { on := 5, ground := Ground.chain }, { on := 0, ground := Ground.phase }, { on := 1, ground := Ground.phase }, { on := 2, ground := Ground.phase }, { on := 3, ground := Ground.phase }, { on := 4, ground := Ground.phase }, { on := 5, ground := Ground.phase }, { on := 6, ground := Ground.phase }, { on := 7, ground := Ground.phase }, { on := 8, ground := Ground.textOnly Departure.lateStores }, { on := 9, ground := Ground.textOnly Departure.lateStores }, { on := 10, ground := Ground.phase }], guard := none }) (v := ?_) rfl (by kernel_rfl) (by kernel_rfl) (by kernel_rfl) (fun _ _ _ h => h) (Or.inl ⟨by rfl, ?_⟩) hHeld ?_
                  rotate_left
                  · (intro w hSw; go_simp; try with_reducible rfl)
                  (try simp only [Act.put, List.setIfInBounds_toArray, List.set_cons_zero, List.set_cons_succ])
                  refine wpAnyH_ready (rs := [12]) (by kernel_rfl) (by simp) (AllReadyH.cons (o := { dst := none, op := Op.store 35 (Operand.tmp 15) (Operand.tmp 101), type := 0, pos := "outright.go:78", after := #[{ on := 10, ground := Ground.data }, { on := 8, ground := Ground.data }, { on := 11, ground := Ground.chain }, { on := 0, ground := Ground.phase }, { on := 1, ground := Ground.phase }, { on := 2, ground := Ground.phase }, { on := 3, ground := Ground.phase }, { on := 4, ground := Ground.phase }, { on := 5, ground := Ground.phase }, { on := 6, ground := Ground.phase }, { on := 7, ground := Ground.phase }, { on := 8, ground := Ground.phase }, { on := 9, ground := Ground.textOnly Departure.lateStores }, { on := 10, ground := Ground.phase }, { on := 11, ground := Ground.phase }], guard := none }) rfl (fun K hK => ?_) AllReadyH.nil)
                  · refine wp_store_if (by rfl) 35 (.tmp 15) (.tmp 101) rfl g15 35 It.nil.arr (It.nil).arr rfl rfl Z.out (info35 _) rfl (iarr_one _) ?_
                    have ZZ : Hid (Box (v5.setRow g15 (It.nil).arr) g15 35 (It.nil).arr) := Lib.hid (Z.out.row _)
                    have hbb : Below wq.heap.size wq (v5.setRow g15 (It.nil).arr) := below_row hHeld HZ15.out _
                    obtain ⟨v12, hv9⟩ : ∃ q, q = v5.setRow g15 (It.nil).arr := ⟨_, rfl⟩
                    refine hK.out _ _ hbb (fun hHeld => ?_)
                    clear hbb Z
                    rw [← hv9] at ZZ hHeld ⊢
                    clear hv9
                    (try simp only [Act.put])
                    refine wpAnyH_take (i := 13) (oi := { dst := some 16, op := Op.assign (Operand.tmp 102), type := 29, pos := "outright.go:78", after := #[{ on := 9, ground := Ground.data }, { on := 12, ground := Ground.chain }, { on := 0, ground := Ground.phase }, { on := 1, ground := Ground.phase }, { on := 2, ground := Ground.phase }, { on := 3, ground := Ground.phase }, { on := 4, ground := Ground.phase }, { on := 5, ground := Ground.phase }, { on := 6, ground := Ground.phase }, { on := 7, ground := Ground.phase }, { on := 8, ground := Ground.phase }, { on := 9, ground := Ground.phase }, { on := 10, ground := Ground.phase }, { on := 11, ground := Ground.phase }, { on := 12, ground := Ground.phase }], guard := none }) (v := ?_) rfl (by kernel_rfl) (by kernel_rfl) (by kernel_rfl) (fun _ _ _ h => h) (Or.inl ⟨by rfl, ?_⟩) hHeld ?_
                    rotate_left
                    · (intro w hSw; go_simp; try with_reducible rfl)
                    (try simp only [Act.put, List.setIfInBounds_toArray, List.set_cons_zero, List.set_cons_succ])
                    refine wpAnyH_done (by kernel_rfl) ?_ _
                    have HFIN : Hid (Below w.heap.size w v12) := Lib.hid (bch HWq.out hHeld)
                    clear hHeld ZZ
                    go_wp2_with fail
                    go_ret
                    exact ⟨rfl, HFIN.out⟩
            · go_simp
              have hba : Below v1.heap.size v1 (v1.alloc (.cells #[.string ⟨#[]⟩, .int .i64 0, .string ⟨#[]⟩] 35)) := below_new _ _
              have Z : Hid (Box (v1.alloc (.cells #[.string ⟨#[]⟩, .int .i64 0, .string ⟨#[]⟩] 35)) v1.heap.size 35 It.nil.arr) := Lib.hid box_new
              have HZ15 : Hid (wq.heap.size ≤ v1.heap.size) := Lib.hid hHeld.size
              have OW := Lib.hid (OW.out.alloc (.cells #[.string ⟨#[]⟩, .int .i64 0, .string ⟨#[]⟩] 35))
              obtain ⟨v10, hv9⟩ : ∃ q, q = v1.alloc (.cells #[.string ⟨#[]⟩, .int .i64 0, .string ⟨#[]⟩] 35) := ⟨_, rfl⟩
              obtain ⟨g15, hh9⟩ : ∃ q, q = v1.heap.size := ⟨_, rfl⟩
              refine hK.out _ _ (bch hHeld hba) (fun hHeld => ?_)
              clear hba
              rw [← hv9] at Z hHeld OW ⊢
              rw [← hh9] at Z HZ15 ⊢
              clear hv9 hh9
              (try simp only [Act.put, List.setIfInBounds_toArray, List.set_cons_zero, List.set_cons_succ])
              refine wpAnyH_ready (rs := [3]) (by kernel_rfl) (by simp) (AllReadyH.cons (o := { dst := some 97, op := Op.call { callee := Callee.builtin Builtin.append, args := #[Operand.tmp 95, Operand.tmp 96], argTypes := #[46, 46] }, type := 46, pos := "outright.go:78", after := #[{ on := 1, ground := Ground.data }, { on := 2, ground := Ground.data }], guard := none }) rfl (fun K hK => ?_) AllReadyH.nil)
              · refine wp_append_rest (by rfl) (.tmp 95) (.tmp 96) rfl wq.heap.size 1 m [noPath] ds rfl HM.out _ rfl OW.out w5.heap.size _ rfl (HRT.out.on hHeld) (by omega) hHeld.size ?_
                intro w9 v3 how3 hgr3 hone3
                obtain ⟨q97, hq97⟩ : ∃ q, q = ([noPath] ++ ds).length := ⟨_, rfl⟩
                have RD : Hid (RdS v3 w9 (noPath :: ds)) := Lib.hid (rdS_own how3)
                rw [← hq97] at how3
                obtain ⟨a97, c97, rfl⟩ := own_shape how3
                clear hq97
                have hbb : Below wq.heap.size wq v3 := hHeld.grown hgr3 hHeld.size (own_geq OW.out)
                have Z := Lib.hid (Z.out.kept hgr3 (box_not_row Z.out (by decide) OW.out))
                refine hK.out _ _ hbb (fun hHeld => ?_)
                clear hone3 hgr3 how3 OW hbb
                (try simp only [Act.put, List.setIfInBounds_toArray, List.set_cons_zero, List.set_cons_succ])
                refine wpAnyH_ready (rs := [5]) (by kernel_rfl) (by simp) (AllReadyH.cons (o := { dst := some 99, op := Op.call { callee := Callee.value (Operand.func 27), args := #[Operand.tmp 94, Operand.tmp 97, Operand.tmp 98], argTypes := #[24, 46, 9] }, type := 59, pos := "outright.go:78", after := #[{ on := 0, ground := Ground.data }, { on := 3, ground := Ground.data }, { on := 4, ground := Ground.data }, { on := 3, ground := Ground.chain }], guard := none }) rfl (fun K hK => ?_) AllReadyH.nil)
                · go_simp
                  refine (lookup_any l (.slice a3 n c3) (noPath :: ds) _ s v3 (HIq.out.on hHeld) HL.out HSZ.out (HTq.out.on hHeld) RD.out HDN.out HDP.out).mono ?_
                  rintro e v5 ⟨rfl, hba⟩
                  rw [HRM.out]
                  rw [show placeL (.error 4) = -1 from rfl, show itL (.error 4) = It.nil from rfl, show errL (.error 4) = 4 from rfl]
                  have Z := Lib.hid (Z.out.on hba)
                  refine hK.out _ _ (bch hHeld hba) (fun hHeld => ?_)
                  clear hba RD
                  (try simp only [Act.put, List.setIfInBounds_toArray, List.set_cons_zero, List.set_cons_succ])
                  refine wpAnyH_take (i := 6) (oi := { dst := some 93, op := Op.move (Operand.tmp 99), type := 59, pos := "outright.go:78", after := #[{ on := 5, ground := Ground.data }], guard := none }) (v := ?_) rfl (by kernel_rfl) (by kernel_rfl) (by kernel_rfl) (fun _ _ _ h => h) (Or.inl ⟨by rfl, ?_⟩) hHeld ?_
                  rotate_left
                  · (intro w hSw; go_simp; try with_reducible rfl)
                  (try simp only [Act.put, List.setIfInBounds_toArray, List.set_cons_zero, List.set_cons_succ])
                  refine wpAnyH_take (i := 7) (oi := { dst := some 100, op := Op.extract (Operand.tmp 93) 0, type := 3, pos := "outright.go:78", after := #[{ on := 6, ground := Ground.data }], guard := none }) (v := ?_) rfl (by kernel_rfl) (by kernel_rfl) (by kernel_rfl) (fun _ _ _ h => h) (Or.inl ⟨by rfl, ?_⟩) hHeld ?_
                  rotate_left
                  · (intro w hSw; go_simp; try with_reducible rfl)
                  (try simp only [Act.put, List.setIfInBounds_toArray, List.set_cons_zero, List.set_cons_succ])
                  refine wpAnyH_take (i := 8) (oi := { dst := some 101, op := Op.extract (Operand.tmp 93) 1, type := 35, pos := "outright.go:78", after := #[{ on := 6, ground := Ground.data }, { on := 11, ground := Ground.gcOnly Departure.lateStores }], guard := none }) (v := ?_) rfl (by kernel_rfl) (by kernel_rfl) (by kernel_rfl) (fun _ _ _ h => h) (Or.inl ⟨by rfl, ?_⟩) hHeld ?_
                  rotate_left
                  · (intro w hSw; go_simp; try with_reducible rfl)
                  (try simp only [Act.put, List.setIfInBounds_toArray, List.set_cons_zero, List.set_cons_succ])
                  refine wpAnyH_take (i := 9) (oi := { dst := some 102, op := Op.extract (Operand.tmp 93) 2, type := 29, pos := "outright.go:78", after := #[{ on := 6, ground := Ground.data }, { on := 12, ground := Ground.gcOnly Departure.lateStores }], guard := none }) (v := ?_) rfl (by kernel_rfl) (by kernel_rfl) (by kernel_rfl) (fun _ _ _ h => h) (Or.inl ⟨by rfl, ?_⟩) hHeld ?_
                  rotate_left
                  · (intro w hSw; go_simp; try with_reducible rfl)
                  (try simp only [Act.put, List.setIfInBounds_toArray, List.set_cons_zero, List.set_cons_succ])
                  refine wpAnyH_take (i := 11) (oi := { dst := some 14, op := Op.assign (Operand.tmp 100), type := 3, pos := "outright.go:78", after := #[{ on := 7, ground := Ground.data }, { on := 5, ground := Ground.chain }, { on := 0, ground := Ground.phase }, { on := 1, ground := Ground.phase }, { on := 2, ground := Ground.phase }, { on := 3, ground := Ground.phase }, { on := 4, ground := Ground.phase }, { on := 5, ground := Ground.phase }, { on := 6, ground := Ground.phase }, { on := 7, ground := Ground.phase }, { on := 8, ground := Ground.textOnly Departure.lateStores }, { on := 9, ground := Ground.textOnly Departure.lateStores }, { on := 10, ground := Ground.phase }], guard := none }) (v := ?_) rfl (by kernel_rfl) (by kernel_rfl) (by kernel_rfl) (fun _ _ _ h => h) (Or.inl ⟨by rfl, ?_⟩) hHeld ?_
                  rotate_left
                  · (intro w hSw; go_simp; try with_reducible rfl)
                  (try simp only [Act.put, List.setIfInBounds_toArray, List.set_cons_zero, List.set_cons_succ])
                  refine wpAnyH_ready (rs := [12]) (by kernel_rfl) (by simp) (AllReadyH.cons (o := { dst := none, op := Op.store 35 (Operand.tmp 15) (Operand.tmp 101), type := 0, pos := "outright.go:78", after := #[{ on := 10, ground := Ground.data }, { on := 8, ground := Ground.data }, { on := 11, ground := Ground.chain }, { on := 0, ground := Ground.phase }, { on := 1, ground := Ground.phase }, { on := 2, ground := Ground.phase }, { on := 3, ground := Ground.phase }, { on := 4, ground := Ground.phase }, { on := 5, ground := Ground.phase }, { on := 6, ground := Ground.phase }, { on := 7, ground := Ground.phase }, { on := 8, ground := Ground.phase }, { on := 9, ground := Ground.textOnly Departure.lateStores }, { on := 10, ground := Ground.phase }, { on := 11, ground := Ground.phase }], guard := none }) rfl (fun K hK => ?_) AllReadyH.nil)
                  · refine wp_store_if (by rfl) 35 (.tmp 15) (.tmp 101) rfl g15 35 It.nil.arr (It.nil).arr rfl rfl Z.out (info35 _) rfl (iarr_one _) ?_
                    have ZZ : Hid (Box (v5.setRow g15 (It.nil).arr) g15 35 (It.nil).arr) := Lib.hid (Z.out.row _)
                    have hbb : Below wq.heap.size wq (v5.setRow g15 (It.nil).arr) := below_row hHeld HZ15.out _
                    obtain ⟨v12, hv9⟩ : ∃ q, q = v5.setRow g15 (It.nil).arr := ⟨_, rfl⟩
                    refine hK.out _ _ hbb (fun hHeld => ?_)
                    clear hbb Z
                    rw [← hv9] at ZZ hHeld ⊢
                    clear hv9
                    (try simp only [Act.put])
                    refine wpAnyH_take (i := 13) (oi := { dst := some 16, op := Op.assign (Operand.tmp 102), type := 29, pos := "outright.go:78", after := #[{ on := 9, ground := Ground.data }, { on := 12, ground := Ground.chain }, { on := 0, ground := Ground.phase }, { on := 1, ground := Ground.phase }, { on := 2, ground := Ground.phase }, { on := 3, ground := Ground.phase }, { on := 4, ground := Ground.phase }, { on := 5, ground := Ground.phase }, { on := 6, ground := Ground.phase }, { on := 7, ground := Ground.phase }, { on := 8, ground := Ground.phase }, { on := 9, ground := Ground.phase }, { on := 10, ground := Ground.phase }, { on := 11, ground := Ground.phase }, { on := 12, ground := Ground.phase }], guard := none }) (v := ?_) rfl (by kernel_rfl) (by kernel_rfl) (by kernel_rfl) (fun _ _ _ h => h) (Or.inl ⟨by rfl, ?_⟩) hHeld ?_
                    rotate_left
                    · (intro w hSw; go_simp; try with_reducible rfl)
                    (try simp only [Act.put, List.setIfInBounds_toArray, List.set_cons_zero, List.set_cons_succ])
                    refine wpAnyH_done (by kernel_rfl) ?_ _
                    have HFIN : Hid (Below w.heap.size w v12) := Lib.hid (bch HWq.out hHeld)
                    clear hHeld ZZ
                    go_wp2_with fail
                    go_ret
                    exact ⟨rfl, HFIN.out⟩
          · go_simp
            have hba : Below v0.heap.size v0 (v0.alloc (.cells #[.string ⟨#[]⟩, .int .i64 0, .string ⟨#[]⟩] 35)) := below_new _ _
            have Z : Hid (Box (v0.alloc (.cells #[.string ⟨#[]⟩, .int .i64 0, .string ⟨#[]⟩] 35)) v0.heap.size 35 It.nil.arr) := Lib.hid box_new
            have HZ15 : Hid (wq.heap.size ≤ v0.heap.size) := Lib.hid hHeld.size
            obtain ⟨v10, hv9⟩ : ∃ q, q = v0.alloc (.cells #[.string ⟨#[]⟩, .int .i64 0, .string ⟨#[]⟩] 35) := ⟨_, rfl⟩
            obtain ⟨g15, hh9⟩ : ∃ q, q = v0.heap.size := ⟨_, rfl⟩
            refine hK.out _ _ (bch hHeld hba) (fun hHeld => ?_)
            clear hba
            rw [← hv9] at Z hHeld ⊢
            rw [← hh9] at Z HZ15 ⊢
            clear hv9 hh9
            (try simp only [Act.put, List.setIfInBounds_toArray, List.set_cons_zero, List.set_cons_succ])
            refine wpAnyH_ready (rs := [1]) (by kernel_rfl) (by simp) (AllReadyH.cons (o := { dst := some 95, op := Op.buildSlice 46 1 #[(0, Operand.const (Value.string { data := #[110, 111, 32, 112, 97, 116, 104] }))], type := 46, pos := "outright.go:78", after := #[], guard := none }) rfl (fun K hK => ?_) AllReadyH.nil)
            · go_simp
              have hba : Below v10.heap.size v10 (v10.alloc (.cells #[.string ⟨#[110, 111, 32, 112, 97, 116, 104]⟩] 9)) := below_new _ _
              have OW : Hid ((v10.alloc (.cells #[.string ⟨#[110, 111, 32, 112, 97, 116, 104]⟩] 9)).ownsRow wq.heap.size 9 1 (.slice (some ⟨v10.heap.size, 0, none⟩) 1 1) 1 ([noPath].map encS)) := Lib.hid (own_base (owns_new v10 [noPath] (by decide)) hHeld.size)
              have Z := Lib.hid (Z.out.on hba)
              obtain ⟨v1, hv9⟩ : ∃ q, q = v10.alloc (.cells #[.string ⟨#[110, 111, 32, 112, 97, 116, 104]⟩] 9) := ⟨_, rfl⟩
              obtain ⟨h95, hh9⟩ : ∃ q, q = v10.heap.size := ⟨_, rfl⟩
              refine hK.out _ _ (bch hHeld hba) (fun hHeld => ?_)
              clear hba
              rw [← hv9] at OW hHeld Z ⊢
              rw [← hh9] at OW ⊢
              clear hv9 hh9
              (try simp only [Act.put, List.setIfInBounds_toArray, List.set_cons_zero, List.set_cons_succ])
              refine wpAnyH_ready (rs := [3]) (by kernel_rfl) (by simp) (AllReadyH.cons (o := { dst := some 97, op := Op.call { callee := Callee.builtin Builtin.append, args := #[Operand.tmp 95, Operand.tmp 96], argTypes := #[46, 46] }, type := 46, pos := "outright.go:78", after := #[{ on := 1, ground := Ground.data }, { on := 2, ground := Ground.data }], guard := none }) rfl (fun K hK => ?_) AllReadyH.nil)
              · refine wp_append_rest (by rfl) (.tmp 95) (.tmp 96) rfl wq.heap.size 1 m [noPath] ds rfl HM.out _ rfl OW.out w5.heap.size _ rfl (HRT.out.on hHeld) (by omega) hHeld.size ?_
                intro w9 v3 how3 hgr3 hone3
                obtain ⟨q97, hq97⟩ : ∃ q, q = ([noPath] ++ ds).length := ⟨_, rfl⟩
                have RD : Hid (RdS v3 w9 (noPath :: ds)) := Lib.hid (rdS_own how3)
                rw [← hq97] at how3
                obtain ⟨a97, c97, rfl⟩ := own_shape how3
                clear hq97
                have hbb : Below wq.heap.size wq v3 := hHeld.grown hgr3 hHeld.size (own_geq OW.out)
                have Z := Lib.hid (Z.out.kept hgr3 (box_not_row Z.out (by decide) OW.out))
                refine hK.out _ _ hbb (fun hHeld => ?_)
                clear hone3 hgr3 how3 OW hbb
                (try simp only [Act.put, List.setIfInBounds_toArray, List.set_cons_zero, List.set_cons_succ])
                refine wpAnyH_ready (rs := [5]) (by kernel_rfl) (by simp) (AllReadyH.cons (o := { dst := some 99, op := Op.call { callee := Callee.value (Operand.func 27), args := #[Operand.tmp 94, Operand.tmp 97, Operand.tmp 98], argTypes := #[24, 46, 9] }, type := 59, pos := "outright.go:78", after := #[{ on := 0, ground := Ground.data }, { on := 3, ground := Ground.data }, { on := 4, ground := Ground.data }, { on := 3, ground := Ground.chain }], guard := none }) rfl (fun K hK => ?_) AllReadyH.nil)
                · go_simp
                  refine (lookup_any l (.slice a3 n c3) (noPath :: ds) _ s v3 (HIq.out.on hHeld) HL.out HSZ.out (HTq.out.on hHeld) RD.out HDN.out HDP.out).mono ?_
                  rintro e v5 ⟨rfl, hba⟩
                  rw [HRM.out]
                  rw [show placeL (.error 4) = -1 from rfl, show itL (.error 4) = It.nil from rfl, show errL (.error 4) = 4 from rfl]
                  have Z := Lib.hid (Z.out.on hba)
                  refine hK.out _ _ (bch hHeld hba) (fun hHeld => ?_)
                  clear hba RD
                  (try simp only [Act.put, List.setIfInBounds_toArray, List.set_cons_zero, List.set_cons_succ])
                  refine wpAnyH_take (i := 6) (oi := { dst := some 93, op := Op.move (Operand.tmp 99), type := 59, pos := "outright.go:78", after := #[{ on := 5, ground := Ground.data }], guard := none }) (v := ?_) rfl (by kernel_rfl) (by kernel_rfl) (by kernel_rfl) (fun _ _ _ h => h) (Or.inl ⟨by rfl, ?_⟩) hHeld ?_
                  rotate_left
                  · (intro w hSw; go_simp; try with_reducible rfl)
                  (try simp only [Act.put, List.setIfInBounds_toArray, List.set_cons_zero, List.set_cons_succ])
                  refine wpAnyH_take (i := 7) (oi := { dst := some 100, op := Op.extract (Operand.tmp 93) 0, type := 3, pos := "outright.go:78", after := #[{ on := 6, ground := Ground.data }], guard := none }) (v := ?_) rfl (by kernel_rfl) (by kernel_rfl) (by kernel_rfl) (fun _ _ _ h => h) (Or.inl ⟨by rfl, ?_⟩) hHeld ?_
                  rotate_left
                  · (intro w hSw; go_simp; try with_reducible rfl)
                  (try simp only [Act.put, List.setIfInBounds_toArray, List.set_cons_zero, List.set_cons_succ])
                  refine wpAnyH_take (i := 8) (oi := { dst := some 101, op := Op.extract (Operand.tmp 93) 1, type := 35, pos := "outright.go:78", after := #[{ on := 6, ground := Ground.data }, { on := 11, ground := Ground.gcOnly Departure.lateStores }], guard := none }) (v := ?_) rfl (by kernel_rfl) (by kernel_rfl) (by kernel_rfl) (fun _ _ _ h => h) (Or.inl ⟨by rfl, ?_⟩) hHeld ?_
                  rotate_left
                  · (intro w hSw; go_simp; try with_reducible rfl)
                  (try simp only [Act.put, List.setIfInBounds_toArray, List.set_cons_zero, List.set_cons_succ])
                  refine wpAnyH_take (i := 9) (oi := { dst := some 102, op := Op.extract (Operand.tmp 93) 2, type := 29, pos := "outright.go:78", after := #[{ on := 6, ground := Ground.data }, { on := 12, ground := Ground.gcOnly Departure.lateStores }], guard := none }) (v := ?_) rfl (by kernel_rfl) (by kernel_rfl) (by kernel_rfl) (fun _ _ _ h => h) (Or.inl ⟨by rfl, ?_⟩) hHeld ?_
                  rotate_left
                  · (intro w hSw; go_simp; try with_reducible rfl)
                  (try simp only [Act.put, List.setIfInBounds_toArray, List.set_cons_zero, List.set_cons_succ])
                  refine wpAnyH_take (i := 11) (oi := { dst := some 14, op := Op.assign (Operand.tmp 100), type := 3, pos := "outright.go:78", after := #[{ on := 7, ground := Ground.data }, { on := 5, ground := Ground.chain }, { on := 0, ground := Ground.phase }, { on := 1, ground := Ground.phase }, { on := 2, ground := Ground.phase }, { on := 3, ground := Ground.phase }, { on := 4, ground := Ground.phase }, { on := 5, ground := Ground.phase }, { on := 6, ground := Ground.phase }, { on := 7, ground := Ground.phase }, { on := 8, ground := Ground.textOnly Departure.lateStores }, { on := 9, ground := Ground.textOnly Departure.lateStores }, { on := 10, ground := Ground.phase }], guard := none }) (v := ?_) rfl (by kernel_rfl) (by kernel_rfl) (by kernel_rfl) (fun _ _ _ h => h) (Or.inl ⟨by rfl, ?_⟩) hHeld ?_
                  rotate_left
                  · (intro w hSw; go_simp; try with_reducible rfl)
                  (try simp only [Act.put, List.setIfInBounds_toArray, List.set_cons_zero, List.set_cons_succ])
                  refine wpAnyH_ready (rs := [12]) (by kernel_rfl) (by simp) (AllReadyH.cons (o := { dst := none, op := Op.store 35 (Operand.tmp 15) (Operand.tmp 101), type := 0, pos := "outright.go:78", after := #[{ on := 10, ground := Ground.data }, { on := 8, ground := Ground.data }, { on := 11, ground := Ground.chain }, { on := 0, ground := Ground.phase }, { on := 1, ground := Ground.phase }, { on := 2, ground := Ground.phase }, { on := 3, ground := Ground.phase }, { on := 4, ground := Ground.phase }, { on := 5, ground := Ground.phase }, { on := 6, ground := Ground.phase }, { on := 7, ground := Ground.phase }, { on := 8, ground := Ground.phase }, { on := 9, ground := Ground.textOnly Departure.lateStores }, { on := 10, ground := Ground.phase }, { on := 11, ground := Ground.phase }], guard := none }) rfl (fun K hK => ?_) AllReadyH.nil)
                  · refine wp_store_if (by rfl) 35 (.tmp 15) (.tmp 101) rfl g15 35 It.nil.arr (It.nil).arr rfl rfl Z.out (info35 _) rfl (iarr_one _) ?_
                    have ZZ : Hid (Box (v5.setRow g15 (It.nil).arr) g15 35 (It.nil).arr) := Lib.hid (Z.out.row _)
                    have hbb : Below wq.heap.size wq (v5.setRow g15 (It.nil).arr) := below_row hHeld HZ15.out _
                    obtain ⟨v12, hv9⟩ : ∃ q, q = v5.setRow g15 (It.nil).arr := ⟨_, rfl⟩
                    refine hK.out _ _ hbb (fun hHeld => ?_)
                    clear hbb Z
                    rw [← hv9] at ZZ hHeld ⊢
                    clear hv9
                    (try simp only [Act.put])
                    refine wpAnyH_take (i := 13) (oi := { dst := some 16, op := Op.assign (Operand.tmp 102), type := 29, pos := "outright.go:78", after := #[{ on := 9, ground := Ground.data }, { on := 12, ground := Ground.chain }, { on := 0, ground := Ground.phase }, { on := 1, ground := Ground.phase }, { on := 2, ground := Ground.phase }, { on := 3, ground := Ground.phase }, { on := 4, ground := Ground.phase }, { on := 5, ground := Ground.phase }, { on := 6, ground := Ground.phase }, { on := 7, ground := Ground.phase }, { on := 8, ground := Ground.phase }, { on := 9, ground := Ground.phase }, { on := 10, ground := Ground.phase }, { on := 11, ground := Ground.phase }, { on := 12, ground := Ground.phase }], guard := none }) (v := ?_) rfl (by kernel_rfl) (by kernel_rfl) (by kernel_rfl) (fun _ _ _ h => h) (Or.inl ⟨by rfl, ?_⟩) hHeld ?_
                    rotate_left
                    · (intro w hSw; go_simp; try with_reducible rfl)
                    (try simp only [Act.put, List.setIfInBounds_toArray, List.set_cons_zero, List.set_cons_succ])
                    refine wpAnyH_done (by kernel_rfl) ?_ _
                    have HFIN : Hid (Below w.heap.size w v12) := Lib.hid (bch HWq.out hHeld)
                    clear hHeld ZZ
                    go_wp2_with fail
                    go_ret
                    exact ⟨rfl, HFIN.out⟩

    · obtain rfl : y = x := by rw [HY.out, h]; rfl
      obtain rfl : I = (i : Int) := by rw [HI.out, h]; rfl
      obtain rfl : E = 0 := by rw [HE.out, h]; rfl
      have HALL : Hid (∀ k d, ds[k]? = some d → RoundOk 0 (i : Int) y k (walkM l d s.data.toList true)) := Lib.hid (by have := look_rounds HR.out.symm (.inr ⟨_, h⟩); rw [h] at this; exact this)
      have HRM : Hid (lookM l (noPath :: ds) s.data.toList = .ok (i + 1, y)) := Lib.hid (by rw [look_more, ← HR.out, h]; rfl)
      have hmI : (m : Int) ≤ 8 := by have := HM8.out; rw [← HM.out] at this; omega
      have HIM : Hid (i < m) := Lib.hid (by rw [HM.out]; exact look_place (HR.out.symm.trans h))
      clear h
      go_upto_region 7 with (first
        | (refine wpList_store_row rfl 35 (.tmp 8) (.tmp 29) rfl u5.heap.size y.arr rfl rfl 35 It.nil.arr box_new (info35 _) rfl (iarr_one _) ?_; rw [← HW6.out, ← HG8.out])
        | fail)
      clear c80 c81 c82
      go_wp2_with fail
      go_loopw [46] (fun i W => ∃ k : Nat, k ≤ m ∧ i = .int .i64 k ∧ Hid (Below w6.heap.size w6 W)) (fun i _ => m - (Lib.intOf i).toNat)
      case atStart => exact ⟨0, Nat.zero_le _, rfl, Lib.hid (Below.refl _ _)⟩
      case round =>
        obtain ⟨k, hk, rfl, HBk⟩ := hrel
        obtain ⟨wq, hwq⟩ : ∃ q, q = wr := ⟨_, rfl⟩
        rw [← hwq] at HBk ⊢
        clear hwq
        by_cases hlt : k < m
        · obtain ⟨d, hd⟩ : ∃ d, ds[k]? = some d := ⟨_, List.getElem?_eq_getElem (by rw [← HM.out]; exact hlt)⟩
          have hn : Below w5.heap.size w5 wq := bch HN6.out HBk.out
          obtain ⟨aa, cc, e, _, _, hcell⟩ := HD5.out
          rw [← HM.out] at e
          cases e
          obtain ⟨gg, o, rfl, hgg, hc⟩ := hcell (by rw [← HM.out]; omega)
          have q0 : wq.cell? ⟨gg, o + k, none⟩ = some (.string ⟨d.toArray⟩) := (hn.cell (p := ⟨gg, _, none⟩) hgg).trans (hc k d hd)
          have c0 := (X5.out.on hn).cell (k := 0) rfl
          have k1 : (k : Int) < (m : Int) := by omega
          have k2 : (0 : Int) ≤ (k : Int) := by omega
          have k4 : IntKind.i64.wrap ((k : Int) + 1) = (k : Int) + 1 := IntWalk.i64_in _ (by omega)
          have HRES := Lib.hid (resolve_any l (.slice a3 n c3) ⟨d.toArray⟩ s true wq (HI5.out.on hn) HL.out HSZ.out (HT5.out.on hn) (HDL.out d (List.mem_of_getElem? hd)))
          have hall := HALL.out k d hd
          obtain ⟨r, hr⟩ : ∃ r, r = walkM l d s.data.toList true := ⟨_, rfl⟩
          have HRR : Hid (walkM l (⟨d.toArray⟩ : ByteArray).data.toList s.data.toList true = r) := Lib.hid (by rw [hr])
          rw [← hr] at hall
          have HA := Lib.hid hall
          clear hc hcell hd hall hr hn
          go_wp2_with fail
          refine HRES.out.mono ?_
          rintro e a1 ⟨rfl, hz, hba⟩
          rw [HRR.out] at hz ⊢
          clear HRES
          rcases HA.out with ⟨h, _, _⟩ | ⟨_, h, z, rfl⟩ | ⟨_, h, nn, rfl⟩ | ⟨_, h⟩
          · exact absurd rfl h
          · have j1 : ((k : Int) == (i : Int)) = false := by simp <;> omega
            have j2 : ¬ ((i : Int) ≤ (k : Int)) := by omega
            have j3 : (k : Int) < (i : Int) := h
            replace hz := hz z rfl
            clear h
            have t1 : (z == 0) = false := by simp [hz]
            have t2 : (z != 0) = true := by simp [hz]
            clear hz
            rw [show errW (.error z) = z from rfl, show itW (.error z) = It.nil from rfl]
            obtain ⟨g12, hg12⟩ : ∃ z, z = a1.heap.size := ⟨_, rfl⟩
            obtain ⟨v1, hv1⟩ : ∃ z, z = (a1.alloc (.cells #[.string ⟨#[]⟩, .int .i64 0, .string ⟨#[]⟩] 35)).setRow a1.heap.size (It.nil).arr := ⟨_, rfl⟩
            have x12 : Box v1 g12 35 (It.nil).arr := by rw [hv1, hg12]; exact Box.row (box_new (w := a1) (t := 35) (cs := It.nil.arr)) _
            have hn1 : Below wq.heap.size wq v1 := by rw [hv1]; exact bch hba (below_row (below_new _ _) (Nat.le_refl _) _)
            have HBv : Hid (Below w6.heap.size w6 v1) := Lib.hid (bch HBk.out hn1)
            have c80 : v1.cell? ⟨g8, 0, none⟩ = some (.string ⟨y.path.toArray⟩) := (X8.out.on HBv.out).cell (k := 0) rfl
            have c81 : v1.cell? ⟨g8, 1, none⟩ = some (.int .i64 y.kind) := (X8.out.on HBv.out).cell (k := 1) rfl
            have c82 : v1.cell? ⟨g8, 2, none⟩ = some (.string ⟨y.data.toArray⟩) := (X8.out.on HBv.out).cell (k := 2) rfl
            have d0 : v1.cell? ⟨g12, 0, none⟩ = some (.string ⟨#[]⟩) := x12.cell (k := 0) rfl
            have d1 : v1.cell? ⟨g12, 1, none⟩ = some (.int .i64 0) := x12.cell (k := 1) rfl
            have d2 : v1.cell? ⟨g12, 2, none⟩ = some (.string ⟨#[]⟩) := x12.cell (k := 2) rfl
            have HV1 := Lib.hid hv1
            have HG12 := Lib.hid hg12
            clear hv1 hg12 x12 hn1 hba
            go_wp2_with (first
              | (refine wpList_store_row rfl 35 (.tmp 12) (.tmp 56) rfl a1.heap.size (It.nil).arr rfl rfl 35 It.nil.arr box_new (info35 _) rfl (iarr_one _) ?_; rw [← HV1.out, ← HG12.out])
              | fail)
            go_roundw
            case rel => exact ⟨k + 1, hlt, by go_num, HBv⟩
            case measure => simp [Lib.intOf]; omega
          · have j1 : ((k : Int) == (i : Int)) = true := by simp <;> omega
            have j2 : (i : Int) ≤ (k : Int) := by omega
            have j3 : ¬ ((k : Int) < (i : Int)) := by omega
            have j4 : ¬ (k < i) := by omega
            have e35 := eq35' y y true (decide_eq_true rfl)
            clear h hz
            rw [show errW (.ok (y, nn)) = 0 from rfl, show itW (.ok (y, nn)) = y from rfl]
            obtain ⟨g12, hg12⟩ : ∃ z, z = a1.heap.size := ⟨_, rfl⟩
            obtain ⟨v1, hv1⟩ : ∃ z, z = (a1.alloc (.cells #[.string ⟨#[]⟩, .int .i64 0, .string ⟨#[]⟩] 35)).setRow a1.heap.size (y).arr := ⟨_, rfl⟩
            have x12 : Box v1 g12 35 (y).arr := by rw [hv1, hg12]; exact Box.row (box_new (w := a1) (t := 35) (cs := It.nil.arr)) _
            have hn1 : Below wq.heap.size wq v1 := by rw [hv1]; exact bch hba (below_row (below_new _ _) (Nat.le_refl _) _)
            have HBv : Hid (Below w6.heap.size w6 v1) := Lib.hid (bch HBk.out hn1)
            have c80 : v1.cell? ⟨g8, 0, none⟩ = some (.string ⟨y.path.toArray⟩) := (X8.out.on HBv.out).cell (k := 0) rfl
            have c81 : v1.cell? ⟨g8, 1, none⟩ = some (.int .i64 y.kind) := (X8.out.on HBv.out).cell (k := 1) rfl
            have c82 : v1.cell? ⟨g8, 2, none⟩ = some (.string ⟨y.data.toArray⟩) := (X8.out.on HBv.out).cell (k := 2) rfl
            have d0 : v1.cell? ⟨g12, 0, none⟩ = some (.string ⟨y.path.toArray⟩) := x12.cell (k := 0) rfl
            have d1 : v1.cell? ⟨g12, 1, none⟩ = some (.int .i64 y.kind) := x12.cell (k := 1) rfl
            have d2 : v1.cell? ⟨g12, 2, none⟩ = some (.string ⟨y.data.toArray⟩) := x12.cell (k := 2) rfl
            have HV1 := Lib.hid hv1
            have HG12 := Lib.hid hg12
            clear hv1 hg12 x12 hn1 hba
            go_wp2_with (first
              | (refine wpList_store_row rfl 35 (.tmp 12) (.tmp 56) rfl a1.heap.size (y).arr rfl rfl 35 It.nil.arr box_new (info35 _) rfl (iarr_one _) ?_; rw [← HV1.out, ← HG12.out])
              | fail)
            go_roundw
            case rel => exact ⟨k + 1, hlt, by go_num, HBv⟩
            case measure => simp [Lib.intOf]; omega
          · have j1 : ((k : Int) == (i : Int)) = false := by simp <;> omega
            have j2 : (i : Int) ≤ (k : Int) := by omega
            have j3 : ¬ ((k : Int) < (i : Int)) := by omega
            have j4 : ¬ (k < i) := by omega
            clear h
            cases r with
            | error z =>
              replace hz := hz z rfl
              have t1 : (z == 0) = false := by simp [hz]
              have t2 : (z != 0) = true := by simp [hz]
              clear hz
              rw [show errW (.error z) = z from rfl, show itW (.error z) = It.nil from rfl]
              obtain ⟨g12, hg12⟩ : ∃ z, z = a1.heap.size := ⟨_, rfl⟩
              obtain ⟨v1, hv1⟩ : ∃ z, z = (a1.alloc (.cells #[.string ⟨#[]⟩, .int .i64 0, .string ⟨#[]⟩] 35)).setRow a1.heap.size (It.nil).arr := ⟨_, rfl⟩
              have x12 : Box v1 g12 35 (It.nil).arr := by rw [hv1, hg12]; exact Box.row (box_new (w := a1) (t := 35) (cs := It.nil.arr)) _
              have hn1 : Below wq.heap.size wq v1 := by rw [hv1]; exact bch hba (below_row (below_new _ _) (Nat.le_refl _) _)
              have HBv : Hid (Below w6.heap.size w6 v1) := Lib.hid (bch HBk.out hn1)
              have c80 : v1.cell? ⟨g8, 0, none⟩ = some (.string ⟨y.path.toArray⟩) := (X8.out.on HBv.out).cell (k := 0) rfl
              have c81 : v1.cell? ⟨g8, 1, none⟩ = some (.int .i64 y.kind) := (X8.out.on HBv.out).cell (k := 1) rfl
              have c82 : v1.cell? ⟨g8, 2, none⟩ = some (.string ⟨y.data.toArray⟩) := (X8.out.on HBv.out).cell (k := 2) rfl
              have d0 : v1.cell? ⟨g12, 0, none⟩ = some (.string ⟨#[]⟩) := x12.cell (k := 0) rfl
              have d1 : v1.cell? ⟨g12, 1, none⟩ = some (.int .i64 0) := x12.cell (k := 1) rfl
              have d2 : v1.cell? ⟨g12, 2, none⟩ = some (.string ⟨#[]⟩) := x12.cell (k := 2) rfl
              have HV1 := Lib.hid hv1
              have HG12 := Lib.hid hg12
              clear hv1 hg12 x12 hn1 hba
              go_wp2_with (first
                | (refine wpList_store_row rfl 35 (.tmp 12) (.tmp 56) rfl a1.heap.size (It.nil).arr rfl rfl 35 It.nil.arr box_new (info35 _) rfl (iarr_one _) ?_; rw [← HV1.out, ← HG12.out])
                | fail)
              go_roundw
              case rel => exact ⟨k + 1, hlt, by go_num, HBv⟩
              case measure => simp [Lib.intOf]; omega
            | ok q =>
              obtain ⟨x, nn⟩ := q
              clear hz
              rw [show errW (.ok (x, nn)) = 0 from rfl, show itW (.ok (x, nn)) = x from rfl]
              obtain ⟨g12, hg12⟩ : ∃ z, z = a1.heap.size := ⟨_, rfl⟩
              obtain ⟨v1, hv1⟩ : ∃ z, z = (a1.alloc (.cells #[.string ⟨#[]⟩, .int .i64 0, .string ⟨#[]⟩] 35)).setRow a1.heap.size (x).arr := ⟨_, rfl⟩
              have x12 : Box v1 g12 35 (x).arr := by rw [hv1, hg12]; exact Box.row (box_new (w := a1) (t := 35) (cs := It.nil.arr)) _
              have hn1 : Below wq.heap.size wq v1 := by rw [hv1]; exact bch hba (below_row (below_new _ _) (Nat.le_refl _) _)
              have HBv : Hid (Below w6.heap.size w6 v1) := Lib.hid (bch HBk.out hn1)
              have c80 : v1.cell? ⟨g8, 0, none⟩ = some (.string ⟨y.path.toArray⟩) := (X8.out.on HBv.out).cell (k := 0) rfl
              have c81 : v1.cell? ⟨g8, 1, none⟩ = some (.int .i64 y.kind) := (X8.out.on HBv.out).cell (k := 1) rfl
              have c82 : v1.cell? ⟨g8, 2, none⟩ = some (.string ⟨y.data.toArray⟩) := (X8.out.on HBv.out).cell (k := 2) rfl
              have d0 : v1.cell? ⟨g12, 0, none⟩ = some (.string ⟨x.path.toArray⟩) := x12.cell (k := 0) rfl
              have d1 : v1.cell? ⟨g12, 1, none⟩ = some (.int .i64 x.kind) := x12.cell (k := 1) rfl
              have d2 : v1.cell? ⟨g12, 2, none⟩ = some (.string ⟨x.data.toArray⟩) := x12.cell (k := 2) rfl
              have HV1 := Lib.hid hv1
              have HG12 := Lib.hid hg12
              clear hv1 hg12 x12 hn1 hba
              go_wp2_with (first
                | (refine wpList_store_row rfl 35 (.tmp 12) (.tmp 56) rfl a1.heap.size (x).arr rfl rfl 35 It.nil.arr box_new (info35 _) rfl (iarr_one _) ?_; rw [← HV1.out, ← HG12.out])
                | fail)
              go_roundw
              case rel => exact ⟨k + 1, hlt, by go_num, HBv⟩
              case measure => simp [Lib.intOf]; omega
        · have k1 : ¬ ((k : Int) < (m : Int)) := by omega
          have hn : Below w5.heap.size w5 wq := bch HN6.out HBk.out
          have HWq : Hid (Below w.heap.size w wq) := Lib.hid (bch HB6.out HBk.out)
          clear hk hlt
          have HIq : Hid (RdI wq (.slice a3 n c3) l) := Lib.hid (HI5.out.on hn)
          have HTq : Hid (Tabs wq) := Lib.hid (HT5.out.on hn)
          have X3q : Hid (Box wq b3 24 #[.slice a3 n c3]) := Lib.hid (X5.out.on hn)
          have X8q : Hid (Box wq g8 35 (y).arr) := Lib.hid (X8.out.on HBk.out)
          have HRT : Hid (RdT wq w5.heap.size (.slice a4 m c4) ds) := Lib.hid ((rdT_own HM.out HOD.out).on hn)
          have HDN : Hid ((noPath :: ds).length ≤ 1000000) := Lib.hid (by have := HM8.out; rw [List.length_cons]; omega)
          have HDP : Hid (∀ x ∈ noPath :: ds, x.length ≤ 140737488355328) := Lib.hid (fun x hx => by rcases List.mem_cons.1 hx with rfl | hx; exact (by decide); exact HDL.out x hx)
          have j5 : (i : Int) < (m : Int) := by have := HIM.out; omega
          have j6 : i < m := HIM.out
          have j7 : IntKind.i64.wrap ((i : Int) + 1) = (i : Int) + 1 := IntWalk.i64_in _ (by omega)
          clear hn
          go_upto_region 14 with fail
          obtain ⟨v0, hv0⟩ : ∃ z, z = World.drew wq := ⟨_, rfl⟩
          refine wp_region_held_drew (S := fun w' => Below wq.heap.size wq w') (by kernel_rfl) (Below.refl _ _).drew (fun hHeld => ?_)
          rw [← hv0] at hHeld ⊢
          clear hv0
          refine wpAnyH_take (i := 0) (oi := { dst := some 94, op := Op.load 24 (Operand.tmp 3), type := 24, pos := "outright.go:78", after := #[], guard := none }) (v := ?_) rfl (by kernel_rfl) (by kernel_rfl) (by kernel_rfl) (fun _ _ _ h => h) (Or.inl ⟨by rfl, ?_⟩) hHeld ?_
          rotate_left
          · (intro w hSw; have p0 := (X3q.out.on hSw).cell (k := 0) rfl; go_simp; try with_reducible rfl)
          (try simp only [Act.put, List.setIfInBounds_toArray, List.set_cons_zero, List.set_cons_succ])
          refine wpAnyH_take (i := 2) (oi := { dst := some 96, op := Op.move (Operand.tmp 1), type := 46, pos := "outright.go:78", after := #[], guard := none }) (v := ?_) rfl (by kernel_rfl) (by kernel_rfl) (by kernel_rfl) (fun _ _ _ h => h) (Or.inl ⟨by rfl, ?_⟩) hHeld ?_
          rotate_left
          · (intro w hSw; go_simp; try with_reducible rfl)
          (try simp only [Act.put, List.setIfInBounds_toArray, List.set_cons_zero, List.set_cons_succ])
          refine wpAnyH_take (i := 4) (oi := { dst := some 98, op := Op.move (Operand.tmp 2), type := 9, pos := "outright.go:78", after := #[], guard := none }) (v := ?_) rfl (by kernel_rfl) (by kernel_rfl) (by kernel_rfl) (fun _ _ _ h => h) (Or.inl ⟨by rfl, ?_⟩) hHeld ?_
          rotate_left
          · (intro w hSw; go_simp; try with_reducible rfl)
          (try simp only [Act.put, List.setIfInBounds_toArray, List.set_cons_zero, List.set_cons_succ])
          refine wpAnyH_ready (rs := [1, 10]) (by kernel_rfl) (by simp) (AllReadyH.cons (o := { dst := some 95, op := Op.buildSlice 46 1 #[(0, Operand.const (Value.string { data := #[110, 111, 32, 112, 97, 116, 104] }))], type := 46, pos := "outright.go:78", after := #[], guard := none }) rfl (fun K hK => ?_) (AllReadyH.cons (o := { dst := some 15, op := Op.alloc 35, type := 0, pos := "outright.go:78", after := #[], guard := none }) rfl (fun K hK => ?_) AllReadyH.nil))
          · go_simp
            have hba : Below v0.heap.size v0 (v0.alloc (.cells #[.string ⟨#[110, 111, 32, 112, 97, 116, 104]⟩] 9)) := below_new _ _
            have OW : Hid ((v0.alloc (.cells #[.string ⟨#[110, 111, 32, 112, 97, 116, 104]⟩] 9)).ownsRow wq.heap.size 9 1 (.slice (some ⟨v0.heap.size, 0, none⟩) 1 1) 1 ([noPath].map encS)) := Lib.hid (own_base (owns_new v0 [noPath] (by decide)) hHeld.size)
            obtain ⟨v1, hv9⟩ : ∃ q, q = v0.alloc (.cells #[.string ⟨#[110, 111, 32, 112, 97, 116, 104]⟩] 9) := ⟨_, rfl⟩
            obtain ⟨h95, hh9⟩ : ∃ q, q = v0.heap.size := ⟨_, rfl⟩
            refine hK.out _ _ (bch hHeld hba) (fun hHeld => ?_)
            clear hba
            rw [← hv9] at OW hHeld ⊢
            rw [← hh9] at OW ⊢
            clear hv9 hh9
            (try simp only [Act.put, List.setIfInBounds_toArray, List.set_cons_zero, List.set_cons_succ])
            refine wpAnyH_ready (rs := [3, 10]) (by kernel_rfl) (by simp) (AllReadyH.cons (o := { dst := some 97, op := Op.call { callee := Callee.builtin Builtin.append, args := #[Operand.tmp 95, Operand.tmp 96], argTypes := #[46, 46] }, type := 46, pos := "outright.go:78", after := #[{ on := 1, ground := Ground.data }, { on := 2, ground := Ground.data }], guard := none }) rfl (fun K hK => ?_) (AllReadyH.cons (o := { dst := some 15, op := Op.alloc 35, type := 0, pos := "outright.go:78", after := #[], guard := none }) rfl (fun K hK => ?_) AllReadyH.nil))
            · refine wp_append_rest (by rfl) (.tmp 95) (.tmp 96) rfl wq.heap.size 1 m [noPath] ds rfl HM.out _ rfl OW.out w5.heap.size _ rfl (HRT.out.on hHeld) (by omega) hHeld.size ?_
              intro w9 v3 how3 hgr3 hone3
              obtain ⟨q97, hq97⟩ : ∃ q, q = ([noPath] ++ ds).length := ⟨_, rfl⟩
              have RD : Hid (RdS v3 w9 (noPath :: ds)) := Lib.hid (rdS_own how3)
              rw [← hq97] at how3
              obtain ⟨a97, c97, rfl⟩ := own_shape how3
              clear hq97
              have hbb : Below wq.heap.size wq v3 := hHeld.grown hgr3 hHeld.size (own_geq OW.out)
              refine hK.out _ _ hbb (fun hHeld => ?_)
              clear hone3 hgr3 how3 OW hbb
              (try simp only [Act.put, List.setIfInBounds_toArray, List.set_cons_zero, List.set_cons_succ])
              refine wpAnyH_ready (rs := [5, 10]) (by kernel_rfl) (by simp) (AllReadyH.cons (o := { dst := some 99, op := Op.call { callee := Callee.value (Operand.func 27), args := #[Operand.tmp 94, Operand.tmp 97, Operand.tmp 98], argTypes := #[24, 46, 9] }, type := 59, pos := "outright.go:78", after := #[{ on := 0, ground := Ground.data }, { on := 3, ground := Ground.data }, { on := 4, ground := Ground.data }, { on := 3, ground := Ground.chain }], guard := none }) rfl (fun K hK => ?_) (AllReadyH.cons (o := { dst := some 15, op := Op.alloc 35, type := 0, pos := "outright.go:78", after := #[], guard := none }) rfl (fun K hK => ?_) AllReadyH.nil))
              · go_simp
                refine (lookup_any l (.slice a3 n c3) (noPath :: ds) _ s v3 (HIq.out.on hHeld) HL.out HSZ.out (HTq.out.on hHeld) RD.out HDN.out HDP.out).mono ?_
                rintro e v5 ⟨rfl, hba⟩
                rw [HRM.out]
                rw [show placeL (.ok (i + 1, y)) = (i : Int) + 1 from rfl, show itL (.ok (i + 1, y)) = y from rfl, show errL (.ok (i + 1, y)) = 0 from rfl]
                refine hK.out _ _ (bch hHeld hba) (fun hHeld => ?_)
                clear hba RD
                (try simp only [Act.put, List.setIfInBounds_toArray, List.set_cons_zero, List.set_cons_succ])
                refine wpAnyH_take (i := 6) (oi := { dst := some 93, op := Op.move (Operand.tmp 99), type := 59, pos := "outright.go:78", after := #[{ on := 5, ground := Ground.data }], guard := none }) (v := ?_) rfl (by kernel_rfl) (by kernel_rfl) (by kernel_rfl) (fun _ _ _ h => h) (Or.inl ⟨by rfl, ?_⟩) hHeld ?_
                rotate_left
                · (intro w hSw; go_simp; try with_reducible rfl)
                (try simp only [Act.put, List.setIfInBounds_toArray, List.set_cons_zero, List.set_cons_succ])
                refine wpAnyH_take (i := 7) (oi := { dst := some 100, op := Op.extract (Operand.tmp 93) 0, type := 3, pos := "outright.go:78", after := #[{ on := 6, ground := Ground.data }], guard := none }) (v := ?_) rfl (by kernel_rfl) (by kernel_rfl) (by kernel_rfl) (fun _ _ _ h => h) (Or.inl ⟨by rfl, ?_⟩) hHeld ?_
                rotate_left
                · (intro w hSw; go_simp; try with_reducible rfl)
                (try simp only [Act.put, List.setIfInBounds_toArray, List.set_cons_zero, List.set_cons_succ])
                refine wpAnyH_take (i := 8) (oi := { dst := some 101, op := Op.extract (Operand.tmp 93) 1, type := 35, pos := "outright.go:78", after := #[{ on := 6, ground := Ground.data }, { on := 11, ground := Ground.gcOnly Departure.lateStores }], guard := none }) (v := ?_) rfl (by kernel_rfl) (by kernel_rfl) (by kernel_rfl) (fun _ _ _ h => h) (Or.inl ⟨by rfl, ?_⟩) hHeld ?_
                rotate_left
                · (intro w hSw; go_simp; try with_reducible rfl)
                (try simp only [Act.put, List.setIfInBounds_toArray, List.set_cons_zero, List.set_cons_succ])
                refine wpAnyH_take (i := 9) (oi := { dst := some 102, op := Op.extract (Operand.tmp 93) 2, type := 29, pos := "outright.go:78", after := #[{ on := 6, ground := Ground.data }, { on := 12, ground := Ground.gcOnly Departure.lateStores }], guard := none }) (v := ?_) rfl (by kernel_rfl) (by kernel_rfl) (by kernel_rfl) (fun _ _ _ h => h) (Or.inl ⟨by rfl, ?_⟩) hHeld ?_
                rotate_left
                · (intro w hSw; go_simp; try with_reducible rfl)
                (try simp only [Act.put, List.setIfInBounds_toArray, List.set_cons_zero, List.set_cons_succ])
                refine wpAnyH_ready (rs := [10]) (by kernel_rfl) (by simp) (AllReadyH.cons (o := { dst := some 15, op := Op.alloc 35, type := 0, pos := "outright.go:78", after := #[], guard := none }) rfl (fun K hK => ?_) AllReadyH.nil)
                · go_simp
                  have hba : Below v5.heap.size v5 (v5.alloc (.cells #[.string ⟨#[]⟩, .int .i64 0, .string ⟨#[]⟩] 35)) := below_new _ _
                  have Z : Hid (Box (v5.alloc (.cells #[.string ⟨#[]⟩, .int .i64 0, .string ⟨#[]⟩] 35)) v5.heap.size 35 It.nil.arr) := Lib.hid box_new
                  have HZ15 : Hid (wq.heap.size ≤ v5.heap.size) := Lib.hid hHeld.size
                  obtain ⟨v10, hv9⟩ : ∃ q, q = v5.alloc (.cells #[.string ⟨#[]⟩, .int .i64 0, .string ⟨#[]⟩] 35) := ⟨_, rfl⟩
                  obtain ⟨g15, hh9⟩ : ∃ q, q = v5.heap.size := ⟨_, rfl⟩
                  refine hK.out _ _ (bch hHeld hba) (fun hHeld => ?_)
                  clear hba
                  rw [← hv9] at Z hHeld ⊢
                  rw [← hh9] at Z HZ15 ⊢
                  clear hv9 hh9
                  (try simp only [Act.put, List.setIfInBounds_toArray, List.set_cons_zero, List.set_cons_succ])
                  refine wpAnyH_take (i := 11) (oi := { dst := some 14, op := Op.assign (Operand.tmp 100), type := 3, pos := "outright.go:78", after := #[{ on := 7, ground := Ground.data }, { on := 5, ground := Ground.chain }, { on := 0, ground := Ground.phase }, { on := 1, ground := Ground.phase }, { on := 2, ground := Ground.phase }, { on := 3, ground := Ground.phase }, { on := 4, ground := Ground.phase }, { on := 5, ground := Ground.phase }, { on := 6, ground := Ground.phase }, { on := 7, ground := Ground.phase }, { on := 8, ground := Ground.textOnly Departure.lateStores }, { on := 9, ground := Ground.textOnly Departure.lateStores }, { on := 10, ground := Ground.phase }], guard := none }) (v := ?_) rfl (by kernel_rfl) (by kernel_rfl) (by kernel_rfl) (fun _ _ _ h => h) (Or.inl ⟨by rfl, ?_⟩) hHeld ?_
                  rotate_left
                  · (intro w hSw; go_simp; try with_reducible rfl)
                  (try simp only [Act.put, List.setIfInBounds_toArray, List.set_cons_zero, List.set_cons_succ])
                  refine wpAnyH_ready (rs := [12]) (by kernel_rfl) (by simp) (AllReadyH.cons (o := { dst := none, op := Op.store 35 (Operand.tmp 15) (Operand.tmp 101), type := 0, pos := "outright.go:78", after := #[{ on := 10, ground := Ground.data }, { on := 8, ground := Ground.data }, { on := 11, ground := Ground.chain }, { on := 0, ground := Ground.phase }, { on := 1, ground := Ground.phase }, { on := 2, ground := Ground.phase }, { on := 3, ground := Ground.phase }, { on := 4, ground := Ground.phase }, { on := 5, ground := Ground.phase }, { on := 6, ground := Ground.phase }, { on := 7, ground := Ground.phase }, { on := 8, ground := Ground.phase }, { on := 9, ground := Ground.textOnly Departure.lateStores }, { on := 10, ground := Ground.phase }, { on := 11, ground := Ground.phase }], guard := none }) rfl (fun K hK => ?_) AllReadyH.nil)
                  · refine wp_store_if (by rfl) 35 (.tmp 15) (.tmp 101) rfl g15 35 It.nil.arr (y).arr rfl rfl Z.out (info35 _) rfl (iarr_one _) ?_
                    have ZZ : Hid (Box (v10.setRow g15 (y).arr) g15 35 (y).arr) := Lib.hid (Z.out.row _)
                    have hbb : Below wq.heap.size wq (v10.setRow g15 (y).arr) := below_row hHeld HZ15.out _
                    obtain ⟨v12, hv9⟩ : ∃ q, q = v10.setRow g15 (y).arr := ⟨_, rfl⟩
                    refine hK.out _ _ hbb (fun hHeld => ?_)
                    clear hbb Z
                    rw [← hv9] at ZZ hHeld ⊢
                    clear hv9
                    (try simp only [Act.put])
                    refine wpAnyH_take (i := 13) (oi := { dst := some 16, op := Op.assign (Operand.tmp 102), type := 29, pos := "outright.go:78", after := #[{ on := 9, ground := Ground.data }, { on := 12, ground := Ground.chain }, { on := 0, ground := Ground.phase }, { on := 1, ground := Ground.phase }, { on := 2, ground := Ground.phase }, { on := 3, ground := Ground.phase }, { on := 4, ground := Ground.phase }, { on := 5, ground := Ground.phase }, { on := 6, ground := Ground.phase }, { on := 7, ground := Ground.phase }, { on := 8, ground := Ground.phase }, { on := 9, ground := Ground.phase }, { on := 10, ground := Ground.phase }, { on := 11, ground := Ground.phase }, { on := 12, ground := Ground.phase }], guard := none }) (v := ?_) rfl (by kernel_rfl) (by kernel_rfl) (by kernel_rfl) (fun _ _ _ h => h) (Or.inl ⟨by rfl, ?_⟩) hHeld ?_
                    rotate_left
                    · (intro w hSw; go_simp; try with_reducible rfl)
                    (try simp only [Act.put, List.setIfInBounds_toArray, List.set_cons_zero, List.set_cons_succ])
                    refine wpAnyH_done (by kernel_rfl) ?_ _
                    have c80 : v12.cell? ⟨g8, 0, none⟩ = some (.string ⟨y.path.toArray⟩) := (X8q.out.on hHeld).cell (k := 0) rfl
                    have d0 : v12.cell? ⟨g15, 0, none⟩ = some (.string ⟨y.path.toArray⟩) := ZZ.out.cell (k := 0) rfl
                    have c81 : v12.cell? ⟨g8, 1, none⟩ = some (.int .i64 y.kind) := (X8q.out.on hHeld).cell (k := 1) rfl
                    have d1 : v12.cell? ⟨g15, 1, none⟩ = some (.int .i64 y.kind) := ZZ.out.cell (k := 1) rfl
                    have c82 : v12.cell? ⟨g8, 2, none⟩ = some (.string ⟨y.data.toArray⟩) := (X8q.out.on hHeld).cell (k := 2) rfl
                    have d2 : v12.cell? ⟨g15, 2, none⟩ = some (.string ⟨y.data.toArray⟩) := ZZ.out.cell (k := 2) rfl
                    have e35 := eq35' y y true (decide_eq_true rfl)
                    have HFIN : Hid (Below w.heap.size w v12) := Lib.hid (bch HWq.out hHeld)
                    clear hHeld ZZ
                    go_wp2_with fail
                    go_ret
                    exact ⟨rfl, HFIN.out⟩
              · go_simp
                have hba : Below v3.heap.size v3 (v3.alloc (.cells #[.string ⟨#[]⟩, .int .i64 0, .string ⟨#[]⟩] 35)) := below_new _ _
                have Z : Hid (Box (v3.alloc (.cells #[.string ⟨#[]⟩, .int .i64 0, .string ⟨#[]⟩] 35)) v3.heap.size 35 It.nil.arr) := Lib.hid box_new
                have HZ15 : Hid (wq.heap.size ≤ v3.heap.size) := Lib.hid hHeld.size
                have RD := Lib.hid (RD.out.below hba)
                obtain ⟨v10, hv9⟩ : ∃ q, q = v3.alloc (.cells #[.string ⟨#[]⟩, .int .i64 0, .string ⟨#[]⟩] 35) := ⟨_, rfl⟩
                obtain ⟨g15, hh9⟩ : ∃ q, q = v3.heap.size := ⟨_, rfl⟩
                refine hK.out _ _ (bch hHeld hba) (fun hHeld => ?_)
                clear hba
                rw [← hv9] at Z hHeld RD ⊢
                rw [← hh9] at Z HZ15 ⊢
                clear hv9 hh9
                (try simp only [Act.put, List.setIfInBounds_toArray, List.set_cons_zero, List.set_cons_succ])
                refine wpAnyH_ready (rs := [5]) (by kernel_rfl) (by simp) (AllReadyH.cons (o := { dst := some 99, op := Op.call { callee := Callee.value (Operand.func 27), args := #[Operand.tmp 94, Operand.tmp 97, Operand.tmp 98], argTypes := #[24, 46, 9] }, type := 59, pos := "outright.go:78", after := #[{ on := 0, ground := Ground.data }, { on := 3, ground := Ground.data }, { on := 4, ground := Ground.data }, { on := 3, ground := Ground.chain }], guard := none }) rfl (fun K hK => ?_) AllReadyH.nil)
                · go_simp
                  refine (lookup_any l (.slice a3 n c3) (noPath :: ds) _ s v10 (HIq.out.on hHeld) HL.out HSZ.out (HTq.out.on hHeld) RD.out HDN.out HDP.out).mono ?_
                  rintro e v5 ⟨rfl, hba⟩
                  rw [HRM.out]
                  rw [show placeL (.ok (i + 1, y)) = (i : Int) + 1 from rfl, show itL (.ok (i + 1, y)) = y from rfl, show errL (.ok (i + 1, y)) = 0 from rfl]
                  have Z := Lib.hid (Z.out.on hba)
                  refine hK.out _ _ (bch hHeld hba) (fun hHeld => ?_)
                  clear hba RD
                  (try simp only [Act.put, List.setIfInBounds_toArray, List.set_cons_zero, List.set_cons_succ])
                  refine wpAnyH_take (i := 6) (oi := { dst := some 93, op := Op.move (Operand.tmp 99), type := 59, pos := "outright.go:78", after := #[{ on := 5, ground := Ground.data }], guard := none }) (v := ?_) rfl (by kernel_rfl) (by kernel_rfl) (by kernel_rfl) (fun _ _ _ h => h) (Or.inl ⟨by rfl, ?_⟩) hHeld ?_
                  rotate_left
                  · (intro w hSw; go_simp; try with_reducible rfl)
                  (try simp only [Act.put, List.setIfInBounds_toArray, List.set_cons_zero, List.set_cons_succ])
                  refine wpAnyH_take (i := 7) (oi := { dst := some 100, op := Op.extract (Operand.tmp 93) 0, type := 3, pos := "outright.go:78", after := #[{ on := 6, ground := Ground.data }], guard := none }) (v := ?_) rfl (by kernel_rfl) (by kernel_rfl) (by kernel_rfl) (fun _ _ _ h => h) (Or.inl ⟨by rfl, ?_⟩) hHeld ?_
                  rotate_left
                  · (intro w hSw; go_simp; try with_reducible rfl)
                  (try simp only [Act.put, List.setIfInBounds_toArray, List.set_cons_zero, List.set_cons_succ])
                  refine wpAnyH_take (i := 8) (oi := { dst := some 101, op := Op.extract (Operand.tmp 93) 1, type := 35, pos := "outright.go:78", after := #[{ on := 6, ground := Ground.data }, { on := 11, ground := Ground.gcOnly Departure.lateStores }], guard := none }) (v := ?_) rfl (by kernel_rfl) (by kernel_rfl) (by kernel_rfl) (fun _ _ _ h => h) (Or.inl ⟨by rfl, ?_⟩) hHeld ?_
                  rotate_left
                  · (intro w hSw; go_simp; try with_reducible rfl)
                  (try simp only [Act.put, List.setIfInBounds_toArray, List.set_cons_zero, List.set_cons_succ])
                  refine wpAnyH_take (i := 9) (oi := { dst := some 102, op := Op.extract (Operand.tmp 93) 2, type := 29, pos := "outright.go:78", after := #[{ on := 6, ground := Ground.data }, { on := 12, ground := Ground.gcOnly Departure.lateStores }], guard := none }) (v := ?_) rfl (by kernel_rfl) (by kernel_rfl) (by kernel_rfl) (fun _ _ _ h => h) (Or.inl ⟨by rfl, ?_⟩) hHeld ?_
                  rotate_left
                  · (intro w hSw; go_simp; try with_reducible rfl)
                  (try simp only [Act.put, List.setIfInBounds_toArray, List.set_cons_zero, List.set_cons_succ])
                  refine wpAnyH_take (i := 11) (oi := { dst := some 14, op := Op.assign (Operand.tmp 100), type := 3, pos := "outright.go:78", after := #[{ on := 7, ground := Ground.data }, { on := 5, ground := Ground.chain }, { on := 0, ground := Ground.phase }, { on := 1, ground := Ground.phase }, { on := 2, ground := Ground.phase }, { on := 3, ground := Ground.phase }, { on := 4, ground := Ground.phase }, { on := 5, ground := Ground.phase }, { on := 6, ground := Ground.phase }, { on := 7, ground := Ground.phase }, { on := 8, ground := Ground.textOnly Departure.lateStores }, { on := 9, ground := Ground.textOnly Departure.lateStores }, { on := 10, ground := Ground.phase }], guard := none }) (v := ?_) rfl (by kernel_rfl) (by kernel_rfl) (by kernel_rfl) (fun _ _ _ h => h) (Or.inl ⟨by rfl, ?_⟩) hHeld ?_
                  rotate_left
                  · (intro w hSw; go_simp; try with_reducible rfl)
                  (try simp only [Act.put, List.setIfInBounds_toArray, List.set_cons_zero, List.set_cons_succ])
                  refine wpAnyH_ready (rs := [12]) (by kernel_rfl) (by simp) (AllReadyH.cons (o := { dst := none, op := Op.store 35 (Operand.tmp 15) (Operand.tmp 101), type := 0, pos := "outright.go:78", after := #[{ on := 10, ground := Ground.data }, { on := 8, ground := Ground.data }, { on := 11, ground := Ground.chain }, { on := 0, ground := Ground.phase }, { on := 1, ground := Ground.phase }, { on := 2, ground := Ground.phase }, { on := 3, ground := Ground.phase }, { on := 4, ground := Ground.phase }, { on := 5, ground := Ground.phase }, { on := 6, ground := Ground.phase }, { on := 7, ground := Ground.phase }, { on := 8, ground := Ground.phase }, { on := 9, ground := Ground.textOnly Departure.lateStores }, { on := 10, ground := Ground.phase }, { on := 11, ground := Ground.phase }], guard := none }) rfl (fun K hK => ?_) AllReadyH.nil)
                  · refine wp_store_if (by rfl) 35 (.tmp 15) (.tmp 101) rfl g15 35 It.nil.arr (y).arr rfl rfl Z.out (info35 _) rfl (iarr_one _) ?_
                    have ZZ : Hid (Box (v5.setRow g15 (y).arr) g15 35 (y).arr) := Lib.hid (Z.out.row _)
                    have hbb : Below wq.heap.size wq (v5.setRow g15 (y).arr) := below_row hHeld HZ15.out _
                    obtain ⟨v12, hv9⟩ : ∃ q, q = v5.setRow g15 (y).arr := ⟨_, rfl⟩
                    refine hK.out _ _ hbb (fun hHeld => ?_)
                    clear hbb Z
                    rw [← hv9] at ZZ hHeld ⊢
                    clear hv9
                    (try simp only [Act.put])
                    refine wpAnyH_take (i := 13) (oi := { dst := some 16, op := Op.assign (Operand.tmp 102), type := 29, pos := "outright.go:78", after := #[{ on := 9, ground := Ground.data }, { on := 12, ground := Ground.chain }, { on := 0, ground := Ground.phase }, { on := 1, ground := Ground.phase }, { on := 2, ground := Ground.phase }, { on := 3, ground := Ground.phase }, { on := 4, ground := Ground.phase }, { on := 5, ground := Ground.phase }, { on := 6, ground := Ground.phase }, { on := 7, ground := Ground.phase }, { on := 8, ground := Ground.phase }, { on := 9, ground := Ground.phase }, { on := 10, ground := Ground.phase }, { on := 11, ground := Ground.phase }, { on := 12, ground := Ground.phase }], guard := none }) (v := ?_) rfl (by kernel_rfl) (by kernel_rfl) (by kernel_rfl) (fun _ _ _ h => h) (Or.inl ⟨by rfl, ?_⟩) hHeld ?_
                    rotate_left
                    · (intro w hSw; go_simp; try with_reducible rfl)
                    (try simp only [Act.put, List.setIfInBounds_toArray, List.set_cons_zero, List.set_cons_succ])
                    refine wpAnyH_done (by kernel_rfl) ?_ _
                    have c80 : v12.cell? ⟨g8, 0, none⟩ = some (.string ⟨y.path.toArray⟩) := (X8q.out.on hHeld).cell (k := 0) rfl
                    have d0 : v12.cell? ⟨g15, 0, none⟩ = some (.string ⟨y.path.toArray⟩) := ZZ.out.cell (k := 0) rfl
                    have c81 : v12.cell? ⟨g8, 1, none⟩ = some (.int .i64 y.kind) := (X8q.out.on hHeld).cell (k := 1) rfl
                    have d1 : v12.cell? ⟨g15, 1, none⟩ = some (.int .i64 y.kind) := ZZ.out.cell (k := 1) rfl
                    have c82 : v12.cell? ⟨g8, 2, none⟩ = some (.string ⟨y.data.toArray⟩) := (X8q.out.on hHeld).cell (k := 2) rfl
                    have d2 : v12.cell? ⟨g15, 2, none⟩ = some (.string ⟨y.data.toArray⟩) := ZZ.out.cell (k := 2) rfl
                    have e35 := eq35' y y true (decide_eq_true rfl)
                    have HFIN : Hid (Below w.heap.size w v12) := Lib.hid (bch HWq.out hHeld)
                    clear hHeld ZZ
                    go_wp2_with fail
                    go_ret
                    exact ⟨rfl, HFIN.out⟩
            · go_simp
              have hba : Below v1.heap.size v1 (v1.alloc (.cells #[.string ⟨#[]⟩, .int .i64 0, .string ⟨#[]⟩] 35)) := below_new _ _
              have Z : Hid (Box (v1.alloc (.cells #[.string ⟨#[]⟩, .int .i64 0, .string ⟨#[]⟩] 35)) v1.heap.size 35 It.nil.arr) := Lib.hid box_new
              have HZ15 : Hid (wq.heap.size ≤ v1.heap.size) := Lib.hid hHeld.size
              have OW := Lib.hid (OW.out.alloc (.cells #[.string ⟨#[]⟩, .int .i64 0, .string ⟨#[]⟩] 35))
              obtain ⟨v10, hv9⟩ : ∃ q, q = v1.alloc (.cells #[.string ⟨#[]⟩, .int .i64 0, .string ⟨#[]⟩] 35) := ⟨_, rfl⟩
              obtain ⟨g15, hh9⟩ : ∃ q, q = v1.heap.size := ⟨_, rfl⟩
              refine hK.out _ _ (bch hHeld hba) (fun hHeld => ?_)
              clear hba
              rw [← hv9] at Z hHeld OW ⊢
              rw [← hh9] at Z HZ15 ⊢
              clear hv9 hh9
              (try simp only [Act.put, List.setIfInBounds_toArray, List.set_cons_zero, List.set_cons_succ])
              refine wpAnyH_ready (rs := [3]) (by kernel_rfl) (by simp) (AllReadyH.cons (o := { dst := some 97, op := Op.call { callee := Callee.builtin Builtin.append, args := #[Operand.tmp 95, Operand.tmp 96], argTypes := #[46, 46] }, type := 46, pos := "outright.go:78", after := #[{ on := 1, ground := Ground.data }, { on := 2, ground := Ground.data }], guard := none }) rfl (fun K hK => ?_) AllReadyH.nil)
              · refine wp_append_rest (by rfl) (.tmp 95) (.tmp 96) rfl wq.heap.size 1 m [noPath] ds rfl HM.out _ rfl OW.out w5.heap.size _ rfl (HRT.out.on hHeld) (by omega) hHeld.size ?_
                intro w9 v3 how3 hgr3 hone3
                obtain ⟨q97, hq97⟩ : ∃ q, q = ([noPath] ++ ds).length := ⟨_, rfl⟩
                have RD : Hid (RdS v3 w9 (noPath :: ds)) := Lib.hid (rdS_own how3)
                rw [← hq97] at how3
                obtain ⟨a97, c97, rfl⟩ := own_shape how3
                clear hq97
                have hbb : Below wq.heap.size wq v3 := hHeld.grown hgr3 hHeld.size (own_geq OW.out)
                have Z := Lib.hid (Z.out.kept hgr3 (box_not_row Z.out (by decide) OW.out))
                refine hK.out _ _ hbb (fun hHeld => ?_)
                clear hone3 hgr3 how3 OW hbb
                (try simp only [Act.put, List.setIfInBounds_toArray, List.set_cons_zero, List.set_cons_succ])
                refine wpAnyH_ready (rs := [5]) (by kernel_rfl) (by simp) (AllReadyH.cons (o := { dst := some 99, op := Op.call { callee := Callee.value (Operand.func 27), args := #[Operand.tmp 94, Operand.tmp 97, Operand.tmp 98], argTypes := #[24, 46, 9] }, type := 59, pos := "outright.go:78", after := #[{ on := 0, ground := Ground.data }, { on := 3, ground := Ground.data }, { on := 4, ground := Ground.data }, { on := 3, ground := Ground.chain }], guard := none }) rfl (fun K hK => ?_) AllReadyH.nil)
                · go_simp
                  refine (lookup_any l (.slice a3 n c3) (noPath :: ds) _ s v3 (HIq.out.on hHeld) HL.out HSZ.out (HTq.out.on hHeld) RD.out HDN.out HDP.out).mono ?_
                  rintro e v5 ⟨rfl, hba⟩
                  rw [HRM.out]
                  rw [show placeL (.ok (i + 1, y)) = (i : Int) + 1 from rfl, show itL (.ok (i + 1, y)) = y from rfl, show errL (.ok (i + 1, y)) = 0 from rfl]
                  have Z := Lib.hid (Z.out.on hba)
                  refine hK.out _ _ (bch hHeld hba) (fun hHeld => ?_)
                  clear hba RD
                  (try simp only [Act.put, List.setIfInBounds_toArray, List.set_cons_zero, List.set_cons_succ])
                  refine wpAnyH_take (i := 6) (oi := { dst := some 93, op := Op.move (Operand.tmp 99), type := 59, pos := "outright.go:78", after := #[{ on := 5, ground := Ground.data }], guard := none }) (v := ?_) rfl (by kernel_rfl) (by kernel_rfl) (by kernel_rfl) (fun _ _ _ h => h) (Or.inl ⟨by rfl, ?_⟩) hHeld ?_
                  rotate_left
                  · (intro w hSw; go_simp; try with_reducible rfl)
                  (try simp only [Act.put, List.setIfInBounds_toArray, List.set_cons_zero, List.set_cons_succ])
                  refine wpAnyH_take (i := 7) (oi := { dst := some 100, op := Op.extract (Operand.tmp 93) 0, type := 3, pos := "outright.go:78", after := #[{ on := 6, ground := Ground.data }], guard := none }) (v := ?_) rfl (by kernel_rfl) (by kernel_rfl) (by kernel_rfl) (fun _ _ _ h => h) (Or.inl ⟨by rfl, ?_⟩) hHeld ?_
                  rotate_left
                  · (intro w hSw; go_simp; try with_reducible rfl)
                  (try simp only [Act.put, List.setIfInBounds_toArray, List.set_cons_zero, List.set_cons_succ])
                  refine wpAnyH_take (i := 8) (oi := { dst := some 101, op := Op.extract (Operand.tmp 93) 1, type := 35, pos := "outright.go:78", after := #[{ on := 6, ground := Ground.data }, { on := 11, ground := Ground.gcOnly Departure.lateStores }], guard := none }) (v := ?_) rfl (by kernel_rfl) (by kernel_rfl) (by kernel_rfl) (fun _ _ _ h => h) (Or.inl ⟨by rfl, ?_⟩) hHeld ?_
                  rotate_left
                  · (intro w hSw; go_simp; try with_reducible rfl)
                  (try simp only [Act.put, List.setIfInBounds_toArray, List.set_cons_zero, List.set_cons_succ])
                  refine wpAnyH_take (i := 9) (oi := { dst := some 102, op := Op.extract (Operand.tmp 93) 2, type := 29, pos := "outright.go:78", after := #[{ on := 6, ground := Ground.data }, { on := 12, ground := Ground.gcOnly Departure.lateStores }], guard := none }) (v := ?_) rfl (by kernel_rfl) (by kernel_rfl) (by kernel_rfl) (fun _ _ _ h => h) (Or.inl ⟨by rfl, ?_⟩) hHeld ?_
                  rotate_left
                  · (intro w hSw; go_simp; try with_reducible rfl)
                  (try simp only [Act.put, List.setIfInBounds_toArray, List.set_cons_zero, List.set_cons_succ])
                  refine wpAnyH_take (i := 11) (oi := { dst := some 14, op := Op.assign (Operand.tmp 100), type := 3, pos := "outright.go:78", after := #[{ on := 7, ground := Ground.data }, { on := 5, ground := Ground.chain }, { on := 0, ground := Ground.phase }, { on := 1, ground := Ground.phase }, { on := 2, ground := Ground.phase }, { on := 3, ground := Ground.phase }, { on := 4, ground := Ground.phase }, { on := 5, ground := Ground.phase }, { on := 6, ground := Ground.phase }, { on := 7, ground := Ground.phase }, { on := 8, ground := Ground.textOnly Departure.lateStores }, { on := 9, ground := Ground.textOnly Departure.lateStores }, { on := 10, ground := Ground.phase }], guard := none }) (v := ?_) rfl (by kernel_rfl) (by kernel_rfl) (by kernel_rfl) (fun _ _ _ h => h) (Or.inl ⟨by rfl, ?_⟩) hHeld ?_
                  rotate_left
                  · (intro w hSw; go_simp; try with_reducible rfl)
                  (try simp only [Act.put, List.setIfInBounds_toArray, List.set_cons_zero, List.set_cons_succ])
                  refine wpAnyH_ready (rs := [12]) (by kernel_rfl) (by simp) (AllReadyH.cons (o := { dst := none, op := Op.store 35 (Operand.tmp 15) (Operand.tmp 101), type := 0, pos := "outright.go:78", after := #[{ on := 10, ground := Ground.data }, { on := 8, ground := Ground.data }, { on := 11, ground := Ground.chain }, { on := 0, ground := Ground.phase }, { on := 1, ground := Ground.phase }, { on := 2, ground := Ground.phase }, { on := 3, ground := Ground.phase }, { on := 4, ground := Ground.phase }, { on := 5, ground := Ground.phase }, { on := 6, ground := Ground.phase }, { on := 7, ground := Ground.phase }, { on := 8, ground := Ground.phase }, { on := 9, ground := Ground.textOnly Departure.lateStores }, { on := 10, ground := Ground.phase }, { on := 11, ground := Ground.phase }], guard := none }) rfl (fun K hK => ?_) AllReadyH.nil)
                  · refine wp_store_if (by rfl) 35 (.tmp 15) (.tmp 101) rfl g15 35 It.nil.arr (y).arr rfl rfl Z.out (info35 _) rfl (iarr_one _) ?_
                    have ZZ : Hid (Box (v5.setRow g15 (y).arr) g15 35 (y).arr) := Lib.hid (Z.out.row _)
                    have hbb : Below wq.heap.size wq (v5.setRow g15 (y).arr) := below_row hHeld HZ15.out _
                    obtain ⟨v12, hv9⟩ : ∃ q, q = v5.setRow g15 (y).arr := ⟨_, rfl⟩
                    refine hK.out _ _ hbb (fun hHeld => ?_)
                    clear hbb Z
                    rw [← hv9] at ZZ hHeld ⊢
                    clear hv9
                    (try simp only [Act.put])
                    refine wpAnyH_take (i := 13) (oi := { dst := some 16, op := Op.assign (Operand.tmp 102), type := 29, pos := "outright.go:78", after := #[{ on := 9, ground := Ground.data }, { on := 12, ground := Ground.chain }, { on := 0, ground := Ground.phase }, { on := 1, ground := Ground.phase }, { on := 2, ground := Ground.phase }, { on := 3, ground := Ground.phase }, { on := 4, ground := Ground.phase }, { on := 5, ground := Ground.phase }, { on := 6, ground := Ground.phase }, { on := 7, ground := Ground.phase }, { on := 8, ground := Ground.phase }, { on := 9, ground := Ground.phase }, { on := 10, ground := Ground.phase }, { on := 11, ground := Ground.phase }, { on := 12, ground := Ground.phase }], guard := none }) (v := ?_) rfl (by kernel_rfl) (by kernel_rfl) (by kernel_rfl) (fun _ _ _ h => h) (Or.inl ⟨by rfl, ?_⟩) hHeld ?_
                    rotate_left
                    · (intro w hSw; go_simp; try with_reducible rfl)
                    (try simp only [Act.put, List.setIfInBounds_toArray, List.set_cons_zero, List.set_cons_succ])
                    refine wpAnyH_done (by kernel_rfl) ?_ _
                    have c80 : v12.cell? ⟨g8, 0, none⟩ = some (.string ⟨y.path.toArray⟩) := (X8q.out.on hHeld).cell (k := 0) rfl
                    have d0 : v12.cell? ⟨g15, 0, none⟩ = some (.string ⟨y.path.toArray⟩) := ZZ.out.cell (k := 0) rfl
                    have c81 : v12.cell? ⟨g8, 1, none⟩ = some (.int .i64 y.kind) := (X8q.out.on hHeld).cell (k := 1) rfl
                    have d1 : v12.cell? ⟨g15, 1, none⟩ = some (.int .i64 y.kind) := ZZ.out.cell (k := 1) rfl
                    have c82 : v12.cell? ⟨g8, 2, none⟩ = some (.string ⟨y.data.toArray⟩) := (X8q.out.on hHeld).cell (k := 2) rfl
                    have d2 : v12.cell? ⟨g15, 2, none⟩ = some (.string ⟨y.data.toArray⟩) := ZZ.out.cell (k := 2) rfl
                    have e35 := eq35' y y true (decide_eq_true rfl)
                    have HFIN : Hid (Below w.heap.size w v12) := Lib.hid (bch HWq.out hHeld)
                    clear hHeld ZZ
                    go_wp2_with fail
                    go_ret
                    exact ⟨rfl, HFIN.out⟩
          · go_simp
            have hba : Below v0.heap.size v0 (v0.alloc (.cells #[.string ⟨#[]⟩, .int .i64 0, .string ⟨#[]⟩] 35)) := below_new _ _
            have Z : Hid (Box (v0.alloc (.cells #[.string ⟨#[]⟩, .int .i64 0, .string ⟨#[]⟩] 35)) v0.heap.size 35 It.nil.arr) := Lib.hid box_new
            have HZ15 : Hid (wq.heap.size ≤ v0.heap.size) := Lib.hid hHeld.size
            obtain ⟨v10, hv9⟩ : ∃ q, q = v0.alloc (.cells #[.string ⟨#[]⟩, .int .i64 0, .string ⟨#[]⟩] 35) := ⟨_, rfl⟩
            obtain ⟨g15, hh9⟩ : ∃ q, q = v0.heap.size := ⟨_, rfl⟩
            refine hK.out _ _ (bch hHeld hba) (fun hHeld => ?_)
            clear hba
            rw [← hv9] at Z hHeld ⊢
            rw [← hh9] at Z HZ15 ⊢
            clear hv9 hh9
            (try simp only [Act.put, List.setIfInBounds_toArray, List.set_cons_zero, List.set_cons_succ])
            refine wpAnyH_ready (rs := [1]) (by kernel_rfl) (by simp) (AllReadyH.cons (o := { dst := some 95, op := Op.buildSlice 46 1 #[(0, Operand.const (Value.string { data := #[110, 111, 32, 112, 97, 116, 104] }))], type := 46, pos := "outright.go:78", after := #[], guard := none }) rfl (fun K hK => ?_) AllReadyH.nil)
            · go_simp
              have hba : Below v10.heap.size v10 (v10.alloc (.cells #[.string ⟨#[110, 111, 32, 112, 97, 116, 104]⟩] 9)) := below_new _ _
              have OW : Hid ((v10.alloc (.cells #[.string ⟨#[110, 111, 32, 112, 97, 116, 104]⟩] 9)).ownsRow wq.heap.size 9 1 (.slice (some ⟨v10.heap.size, 0, none⟩) 1 1) 1 ([noPath].map encS)) := Lib.hid (own_base (owns_new v10 [noPath] (by decide)) hHeld.size)
              have Z := Lib.hid (Z.out.on hba)
              obtain ⟨v1, hv9⟩ : ∃ q, q = v10.alloc (.cells #[.string ⟨#[110, 111, 32, 112, 97, 116, 104]⟩] 9) := ⟨_, rfl⟩
              obtain ⟨h95, hh9⟩ : ∃ q, q = v10.heap.size := ⟨_, rfl⟩
              refine hK.out _ _ (bch hHeld hba) (fun hHeld => ?_)
              clear hba
              rw [← hv9] at OW hHeld Z ⊢
              rw [← hh9] at OW ⊢
              clear hv9 hh9
              (try simp only [Act.put, List.setIfInBounds_toArray, List.set_cons_zero, List.set_cons_succ])
              refine wpAnyH_ready (rs := [3]) (by kernel_rfl) (by simp) (AllReadyH.cons (o := { dst := some 97, op := Op.call { callee := Callee.builtin Builtin.append, args := #[Operand.tmp 95, Operand.tmp 96], argTypes := #[46, 46] }, type := 46, pos := "outright.go:78", after := #[{ on := 1, ground := Ground.data }, { on := 2, ground := Ground.data }], guard := none }) rfl (fun K hK => ?_) AllReadyH.nil)
              · refine wp_append_rest (by rfl) (.tmp 95) (.tmp 96) rfl wq.heap.size 1 m [noPath] ds rfl HM.out _ rfl OW.out w5.heap.size _ rfl (HRT.out.on hHeld) (by omega) hHeld.size ?_
                intro w9 v3 how3 hgr3 hone3
                obtain ⟨q97, hq97⟩ : ∃ q, q = ([noPath] ++ ds).length := ⟨_, rfl⟩
                have RD : Hid (RdS v3 w9 (noPath :: ds)) := Lib.hid (rdS_own how3)
                rw [← hq97] at how3
                obtain ⟨a97, c97, rfl⟩ := own_shape how3
                clear hq97
                have hbb : Below wq.heap.size wq v3 := hHeld.grown hgr3 hHeld.size (own_geq OW.out)
                have Z := Lib.hid (Z.out.kept hgr3 (box_not_row Z.out (by decide) OW.out))
                refine hK.out _ _ hbb (fun hHeld => ?_)
                clear hone3 hgr3 how3 OW hbb
                (try simp only [Act.put, List.setIfInBounds_toArray, List.set_cons_zero, List.set_cons_succ])
                refine wpAnyH_ready (rs := [5]) (by kernel_rfl) (by simp) (AllReadyH.cons (o := { dst := some 99, op := Op.call { callee := Callee.value (Operand.func 27), args := #[Operand.tmp 94, Operand.tmp 97, Operand.tmp 98], argTypes := #[24, 46, 9] }, type := 59, pos := "outright.go:78", after := #[{ on := 0, ground := Ground.data }, { on := 3, ground := Ground.data }, { on := 4, ground := Ground.data }, { on := 3, ground := Ground.chain }], guard := none }) rfl (fun K hK => ?_) AllReadyH.nil)
                · go_simp
                  refine (lookup_any l (.slice a3 n c3) (noPath :: ds) _ s v3 (HIq.out.on hHeld) HL.out HSZ.out (HTq.out.on hHeld) RD.out HDN.out HDP.out).mono ?_
                  rintro e v5 ⟨rfl, hba⟩
                  rw [HRM.out]
                  rw [show placeL (.ok (i + 1, y)) = (i : Int) + 1 from rfl, show itL (.ok (i + 1, y)) = y from rfl, show errL (.ok (i + 1, y)) = 0 from rfl]
                  have Z := Lib.hid (Z.out.on hba)
                  refine hK.out _ _ (bch hHeld hba) (fun hHeld => ?_)
                  clear hba RD
                  (try simp only [Act.put, List.setIfInBounds_toArray, List.set_cons_zero, List.set_cons_succ])
                  refine wpAnyH_take (i := 6) (oi := { dst := some 93, op := Op.move (Operand.tmp 99), type := 59, pos := "outright.go:78", after := #[{ on := 5, ground := Ground.data }], guard := none }) (v := ?_) rfl (by kernel_rfl) (by kernel_rfl) (by kernel_rfl) (fun _ _ _ h => h) (Or.inl ⟨by rfl, ?_⟩) hHeld ?_
                  rotate_left
                  · (intro w hSw; go_simp; try with_reducible rfl)
                  (try simp only [Act.put, List.setIfInBounds_toArray, List.set_cons_zero, List.set_cons_succ])
                  refine wpAnyH_take (i := 7) (oi := { dst := some 100, op := Op.extract (Operand.tmp 93) 0, type := 3, pos := "outright.go:78", after := #[{ on := 6, ground := Ground.data }], guard := none }) (v := ?_) rfl (by kernel_rfl) (by kernel_rfl) (by kernel_rfl) (fun _ _ _ h => h) (Or.inl ⟨by rfl, ?_⟩) hHeld ?_
                  rotate_left
                  · (intro w hSw; go_simp; try with_reducible rfl)
                  (try simp only [Act.put, List.setIfInBounds_toArray, List.set_cons_zero, List.set_cons_succ])
                  refine wpAnyH_take (i := 8) (oi := { dst := some 101, op := Op.extract (Operand.tmp 93) 1, type := 35, pos := "outright.go:78", after := #[{ on := 6, ground := Ground.data }, { on := 11, ground := Ground.gcOnly Departure.lateStores }], guard := none }) (v := ?_) rfl (by kernel_rfl) (by kernel_rfl) (by kernel_rfl) (fun _ _ _ h => h) (Or.inl ⟨by rfl, ?_⟩) hHeld ?_
                  rotate_left
                  · (intro w hSw; go_simp; try with_reducible rfl)
                  (try simp only [Act.put, List.setIfInBounds_toArray, List.set_cons_zero, List.set_cons_succ])
                  refine wpAnyH_take (i := 9) (oi := { dst := some 102, op := Op.extract (Operand.tmp 93) 2, type := 29, pos := "outright.go:78", after := #[{ on := 6, ground := Ground.data }, { on := 12, ground := Ground.gcOnly Departure.lateStores }], guard := none }) (v := ?_) rfl (by kernel_rfl) (by kernel_rfl) (by kernel_rfl) (fun _ _ _ h => h) (Or.inl ⟨by rfl, ?_⟩) hHeld ?_
                  rotate_left
                  · (intro w hSw; go_simp; try with_reducible rfl)
                  (try simp only [Act.put, List.setIfInBounds_toArray, List.set_cons_zero, List.set_cons_succ])
                  refine wpAnyH_take (i := 11) (oi := { dst := some 14, op := Op.assign (Operand.tmp 100), type := 3, pos := "outright.go:78", after := #[{ on := 7, ground := Ground.data }, { on := 5, ground := Ground.chain }, { on := 0, ground := Ground.phase }, { on := 1, ground := Ground.phase }, { on := 2, ground := Ground.phase }, { on := 3, ground := Ground.phase }, { on := 4, ground := Ground.phase }, { on := 5, ground := Ground.phase }, { on := 6, ground := Ground.phase }, { on := 7, ground := Ground.phase }, { on := 8, ground := Ground.textOnly Departure.lateStores }, { on := 9, ground := Ground.textOnly Departure.lateStores }, { on := 10, ground := Ground.phase }], guard := none }) (v := ?_) rfl (by kernel_rfl) (by kernel_rfl) (by kernel_rfl) (fun _ _ _ h => h) (Or.inl ⟨by rfl, ?_⟩) hHeld ?_
                  rotate_left
                  · (intro w hSw; go_simp; try with_reducible rfl)
                  (try simp only [Act.put, List.setIfInBounds_toArray, List.set_cons_zero, List.set_cons_succ])
                  refine wpAnyH_ready (rs := [12]) (by kernel_rfl) (by simp) (AllReadyH.cons (o := { dst := none, op := Op.store 35 (Operand.tmp 15) (Operand.tmp 101), type := 0, pos := "outright.go:78", after := #[{ on := 10, ground := Ground.data }, { on := 8, ground := Ground.data }, { on := 11, ground := Ground.chain }, { on := 0, ground := Ground.phase }, { on := 1, ground := Ground.phase }, { on := 2, ground := Ground.phase }, { on := 3, ground := Ground.phase }, { on := 4, ground := Ground.phase }, { on := 5, ground := Ground.phase }, { on := 6, ground := Ground.phase }, { on := 7, ground := Ground.phase }, { on := 8, ground := Ground.phase }, { on := 9, ground := Ground.textOnly Departure.lateStores }, { on := 10, ground := Ground.phase }, { on := 11, ground := Ground.phase }], guard := none }) rfl (fun K hK => ?_) AllReadyH.nil)
                  · refine wp_store_if (by rfl) 35 (.tmp 15) (.tmp 101) rfl g15 35 It.nil.arr (y).arr rfl rfl Z.out (info35 _) rfl (iarr_one _) ?_
                    have ZZ : Hid (Box (v5.setRow g15 (y).arr) g15 35 (y).arr) := Lib.hid (Z.out.row _)
                    have hbb : Below wq.heap.size wq (v5.setRow g15 (y).arr) := below_row hHeld HZ15.out _
                    obtain ⟨v12, hv9⟩ : ∃ q, q = v5.setRow g15 (y).arr := ⟨_, rfl⟩
                    refine hK.out _ _ hbb (fun hHeld => ?_)
                    clear hbb Z
                    rw [← hv9] at ZZ hHeld ⊢
                    clear hv9
                    (try simp only [Act.put])
                    refine wpAnyH_take (i := 13) (oi := { dst := some 16, op := Op.assign (Operand.tmp 102), type := 29, pos := "outright.go:78", after := #[{ on := 9, ground := Ground.data }, { on := 12, ground := Ground.chain }, { on := 0, ground := Ground.phase }, { on := 1, ground := Ground.phase }, { on := 2, ground := Ground.phase }, { on := 3, ground := Ground.phase }, { on := 4, ground := Ground.phase }, { on := 5, ground := Ground.phase }, { on := 6, ground := Ground.phase }, { on := 7, ground := Ground.phase }, { on := 8, ground := Ground.phase }, { on := 9, ground := Ground.phase }, { on := 10, ground := Ground.phase }, { on := 11, ground := Ground.phase }, { on := 12, ground := Ground.phase }], guard := none }) (v := ?_) rfl (by kernel_rfl) (by kernel_rfl) (by kernel_rfl) (fun _ _ _ h => h) (Or.inl ⟨by rfl, ?_⟩) hHeld ?_
                    rotate_left
                    · (intro w hSw; go_simp; try with_reducible rfl)
                    (try simp only [Act.put, List.setIfInBounds_toArray, List.set_cons_zero, List.set_cons_succ])
                    refine wpAnyH_done (by kernel_rfl) ?_ _
                    have c80 : v12.cell? ⟨g8, 0, none⟩ = some (.string ⟨y.path.toArray⟩) := (X8q.out.on hHeld).cell (k := 0) rfl
                    have d0 : v12.cell? ⟨g15, 0, none⟩ = some (.string ⟨y.path.toArray⟩) := ZZ.out.cell (k := 0) rfl
                    have c81 : v12.cell? ⟨g8, 1, none⟩ = some (.int .i64 y.kind) := (X8q.out.on hHeld).cell (k := 1) rfl
                    have d1 : v12.cell? ⟨g15, 1, none⟩ = some (.int .i64 y.kind) := ZZ.out.cell (k := 1) rfl
                    have c82 : v12.cell? ⟨g8, 2, none⟩ = some (.string ⟨y.data.toArray⟩) := (X8q.out.on hHeld).cell (k := 2) rfl
                    have d2 : v12.cell? ⟨g15, 2, none⟩ = some (.string ⟨y.data.toArray⟩) := ZZ.out.cell (k := 2) rfl
                    have e35 := eq35' y y true (decide_eq_true rfl)
                    have HFIN : Hid (Below w.heap.size w v12) := Lib.hid (bch HWq.out hHeld)
                    clear hHeld ZZ
                    go_wp2_with fail
                    go_ret
                    exact ⟨rfl, HFIN.out⟩

end Go.Proofs.YtiakedoebecgpaaDoor
