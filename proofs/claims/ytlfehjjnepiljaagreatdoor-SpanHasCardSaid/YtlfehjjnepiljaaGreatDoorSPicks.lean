/- Proved here: SpanPicks of puncheonlaw05 returns true for every span and row of versions that lie in memory, wherever the tables stand. -/
import Derived.Test.YtlfehjjnepiljaaGreatDoorSKey
namespace Go.Proofs.YtlfehjjnepiljaaGreatDoor
open Go.RowKit Go.Shelf Go.Maps

theorem pk_has {ls : List (List Bd)} {v : Ver} {o : Bool} {x : Value} {w : World} (h : hasS ls v = o) (hx : RdR w x ls) : ∀ W, Below w.heap.size w W → Calls Tryz.prog 20 #[.agg #[x], .agg v.arr] W fun e w' => e = .returned (.bool o) ∧ Below W.heap.size W w' := fun W hb => by
  rw [← h]
  exact sHas_any ls v x W (hx.on hb)
theorem rdV_take {w : World} {a : Option Addr} {n c : Nat} {l : List Ver} (hn : n = l.length) (h : RdV w (.slice a n c) l) (q : Nat) (hq : q ≤ n) : RdV w (.slice a q c) (l.take q) := by
  obtain ⟨a', c', e, h1, h2, h3⟩ := h
  injection e with e1 e2 e3
  subst e1 e3
  have hl : (l.take q).length = q := by rw [List.length_take]; omega
  refine ⟨a, c, by rw [hl], by omega, h2, fun h0 => ?_⟩
  obtain ⟨g, o, rfl, hg, hc⟩ := h3 (by omega)
  exact ⟨g, o, rfl, hg, fun j v hj => hc j v (by rw [List.getElem?_take] at hj; split at hj; exact hj; cases hj)⟩
/-- A version at a place of memory. -/
structure VAtP (w : World) (g o : Nat) (v : Ver) : Prop where
  c0 : w.cell? ⟨g, o, none⟩ = some (.int .i64 v.n0)
  c1 : w.cell? ⟨g, o + 1, none⟩ = some (.int .i64 v.n1)
  c2 : w.cell? ⟨g, o + 2, none⟩ = some (.int .i64 v.n2)
  c3 : w.cell? ⟨g, o + 3, none⟩ = some (.int .i64 v.n3)
  c4 : w.cell? ⟨g, o + 4, none⟩ = some (.int .i64 v.many)
  c5 : w.cell? ⟨g, o + 5, none⟩ = some (.string v.tag)
  c6 : w.cell? ⟨g, o + 6, none⟩ = some (.int .i64 v.step)
theorem VAtP.on {w w' : World} {g o : Nat} {v : Ver} (h : VAtP w g o v) (hb : Below w.heap.size w w') : VAtP w' g o v := by
  have hg : g < w.heap.size := World.block_lt_of_cell? w _ h.c0
  exact ⟨(hb.cell (p := ⟨g, _, none⟩) hg).trans h.c0, (hb.cell (p := ⟨g, _, none⟩) hg).trans h.c1, (hb.cell (p := ⟨g, _, none⟩) hg).trans h.c2, (hb.cell (p := ⟨g, _, none⟩) hg).trans h.c3, (hb.cell (p := ⟨g, _, none⟩) hg).trans h.c4, (hb.cell (p := ⟨g, _, none⟩) hg).trans h.c5, (hb.cell (p := ⟨g, _, none⟩) hg).trans h.c6⟩
theorem RdV.at {w : World} {a : Option Addr} {n c : Nat} {l : List Ver} (h : RdV w (.slice a n c) l) {k : Nat} {v : Ver} (hv : l[k]? = some v) : ∃ g o, a = some ⟨g, o, none⟩ ∧ VAtP w g (o + k * 7) v := by
  obtain ⟨a', c', e, h1, h2, h3⟩ := h
  injection e with e1 e2 e3
  subst e1 e3
  obtain ⟨g, o, rfl, hg, hc⟩ := h3 (by have := (List.getElem?_eq_some_iff.1 hv).1; omega)
  obtain ⟨q0, q1, q2, q3, q4, q5, q6⟩ := hc k v hv
  exact ⟨g, o, rfl, q0, q1, q2, q3, q4, q5, q6⟩
theorem fall_next {r : List Ver} (h : FallP r) {k : Nat} {u v : Ver} (hu : r[k]? = some u) (hv : r[k + 1]? = some v) : cmpV u v = 1 := by
  have h1 := List.pairwise_iff_getElem.1 h k (k + 1) (List.getElem?_eq_some_iff.1 hu).1 (List.getElem?_eq_some_iff.1 hv).1 (Nat.lt_succ_self _)
  rw [(List.getElem?_eq_some_iff.1 hu).2, (List.getElem?_eq_some_iff.1 hv).2] at h1
  have h2 := good_cmpV.anti v u
  have h3 := good_cmpV.rng u v
  omega
theorem fall_apart {r : List Ver} (h : FallP r) {k : Nat} {v : Ver} (hv : r[k]? = some v) : v ∉ r.take k := by
  intro hm
  obtain ⟨j, hj⟩ := List.mem_iff_getElem?.1 hm
  rw [List.getElem?_take] at hj
  split at hj
  · rename_i hjk
    have h1 := List.pairwise_iff_getElem.1 h j k (List.getElem?_eq_some_iff.1 hj).1 (List.getElem?_eq_some_iff.1 hv).1 hjk
    rw [(List.getElem?_eq_some_iff.1 hj).2, (List.getElem?_eq_some_iff.1 hv).2, cmpV_self] at h1
    omega
  · cases hj
theorem has_fit {ls : List (List Bd)} {v : Ver} (h : hasS ls v = true) : v.ok = true := by
  unfold hasS at h
  simp at h
  exact h.1.2

set_option maxRecDepth 100000 in
set_option maxHeartbeats 40000000 in
theorem picks_law (la : List (List Bd)) (l : List Ver) (x z : Value) (w : World) (hx : RdR w x la) (hz : RdV w z l) (hT : Tabs w) (hF : ∀ v ∈ l, v.Fits) : Calls Tryz.prog 8 #[.agg #[x], z] w fun e w' => e = .returned (.bool true) ∧ Below w.heap.size w w' := by
  have hmm := @run_makeMap Tryz.prog
  have HX := Lib.hid hx
  have HZ := Lib.hid hz
  have HF := Lib.hid hF
  obtain ⟨ax, cx, rfl, -⟩ := hx.open
  obtain ⟨az, cz, rfl, hlz, hmz, hcz⟩ := hz
  obtain ⟨nx, hnx⟩ : ∃ n, n = la.length := ⟨_, rfl⟩
  obtain ⟨m, hm⟩ : ∃ n, n = l.length := ⟨_, rfl⟩
  rw [← hnx] at HX ⊢
  rw [← hm] at HZ hlz ⊢
  have HM := Lib.hid hm
  unfold maxLen at hmz
  obtain ⟨w1, hw1⟩ : ∃ q, q = w.alloc (.cells #[.slice ax nx cx] 27) := ⟨_, rfl⟩
  have X1 : Hid (Box w1 w.heap.size 27 #[.slice ax nx cx]) := Lib.hid (by rw [hw1]; exact box_new)
  have B1 : Hid (Below w.heap.size w w1) := Lib.hid (by rw [hw1]; exact below_new _ _)
  have T1 := Lib.hid (hT.on B1.out)
  have HW := Lib.hid (swakes_any w1 T1.out)
  clear hT hnx hm hcz hx hF
  go_enter Tryz.func8, Tryz.ntmps8
  go_upto_region 1 with fail
  rw [← hw1]
  clear hw1
  go_wp2_with fail
  refine HW.out.mono ?_
  rintro e w2 ⟨rfl, hb⟩
  replace X1 := Lib.hid (X1.out.on hb)
  have B2 := Lib.hid (bch B1.out hb)
  replace HX := Lib.hid (HX.out.on B2.out)
  replace HZ := Lib.hid (HZ.out.on B2.out)
  clear HW hb B1 T1
  obtain ⟨fa, hfa⟩ : ∃ t, t = fewR la := ⟨_, rfl⟩
  obtain ⟨na, hna⟩ : ∃ t, t = fa.length := ⟨_, rfl⟩
  have HFA := Lib.hid hfa
  have HNA := Lib.hid hna
  clear hfa hna
  have p0 := X1.out.cell (k := 0) rfl
  have HFE := Lib.hid (few_any la _ w2 HX.out)
  go_wp2_with fail
  refine HFE.out.mono ?_
  rintro e w3 ⟨x9, rfl, hown, hb⟩
  rw [← HFA.out] at hown
  obtain ⟨aa, ca, rfl⟩ := hown.form
  rw [← HNA.out] at hown ⊢
  have RA3 := Lib.hid hown.rd
  have B3 := Lib.hid (bch B2.out hb)
  replace HZ := Lib.hid (HZ.out.on hb)
  clear hown hb HFE p0 X1 HX B2
  obtain ⟨w4, hw4⟩ : ∃ q, q = w3.alloc (.cells #[.slice aa na ca] 27) := ⟨_, rfl⟩
  have b4 : Below w3.heap.size w3 w4 := by rw [hw4]; exact below_new _ _
  have Z5 : Hid (Box w4 w3.heap.size 27 #[.slice aa na ca]) := Lib.hid (by rw [hw4]; exact box_new)
  have RA := Lib.hid (RA3.out.on b4)
  have B4 := Lib.hid (bch B3.out b4)
  replace HZ := Lib.hid (HZ.out.on b4)
  go_upto_region 4 with fail
  rw [← hw4]
  obtain ⟨g5, hg5⟩ : ∃ q, q = w3.heap.size := ⟨_, rfl⟩
  rw [← hg5] at Z5 ⊢
  clear hw4 b4 hg5 RA3 B3
  obtain ⟨q, hq⟩ : ∃ q, q = min m 12 := ⟨_, rfl⟩
  have hq1 : q ≤ m := by omega
  have hq2 : q ≤ 12 := by omega
  have m1 : (q : Int) ≤ (m : Int) := by omega
  have m2 : (0 : Int) ≤ (q : Int) := by omega
  have m3 : min (m : Int) 12 = (q : Int) := by omega
  have m5 : (q : Int) ≤ (cz : Int) := by omega
  have HZQ := Lib.hid (rdV_take HM.out HZ.out q hq1)
  obtain ⟨lq, hlq⟩ : ∃ t, t = l.take q := ⟨_, rfl⟩
  have HQ : Hid (q = lq.length) := Lib.hid (by rw [hlq, List.length_take]; have := HM.out; omega)
  have HFQ : Hid (∀ v ∈ lq, v.Fits) := Lib.hid (fun v hv => HF.out v (by rw [hlq] at hv; exact List.mem_of_mem_take hv))
  rw [← hlq] at HZQ
  have p0 := Z5.out.cell (k := 0) rfl
  have HPI := Lib.hid (pick_any fa lq (.slice aa na ca) (.slice az q cz) w4 RA.out HZQ.out (by rw [← HQ.out]; exact hq2))
  clear hq hlq HZ HF
  go_wp2_with fail
  refine HPI.out.mono ?_
  rintro e w5 ⟨a6, n6, c6, r, rfl, hfall, hmem, hn6, hlen, hown, hb⟩
  have HFALL := Lib.hid hfall
  have HMEM := Lib.hid hmem
  have HN6 := Lib.hid hn6
  have R6 : Hid (RdV w5 (.slice a6 n6 c6) r) := Lib.hid (by rw [hn6] at hown ⊢; exact RdV.of_own hown)
  have hn612 : n6 ≤ 12 := by have := HQ.out; omega
  have Z5' := Lib.hid (Z5.out.on hb)
  have RA' := Lib.hid (RA.out.on hb)
  have ZQ' := Lib.hid (HZQ.out.on hb)
  have B5 := Lib.hid (bch B4.out hb)
  have HFR : Hid (∀ v ∈ r, v.Fits) := Lib.hid (fun v hv => HFQ.out v ((hmem v).1 hv).1)
  clear HPI p0 Z5 RA HZQ B4 hfall hmem hn6 hown hb hlen
  -- the first map
  obtain ⟨wM, hwM⟩ : ∃ q, q = w5.alloc (.map #[] 0) := ⟨_, rfl⟩
  have M1 : Hid (SetM wM w5.heap.size 0 []) := Lib.hid (by rw [hwM]; exact setM_made _)
  have BM : Hid (Below w5.heap.size w5 wM) := Lib.hid (by rw [hwM]; exact below_new _ _)
  go_upto_region 7 with fail
  rw [← hwM]
  obtain ⟨wB, hwB⟩ : ∃ q, q = w5 := ⟨_, rfl⟩
  rw [← hwB] at R6 Z5' RA' ZQ' B5 M1 BM ⊢
  obtain ⟨gm, hgm⟩ : ∃ q, q = wB.heap.size := ⟨_, rfl⟩
  have HGM : Hid (wB.heap.size ≤ gm) := Lib.hid (Nat.le_of_eq hgm.symm)
  rw [← hgm] at M1 ⊢
  clear hwM hwB hgm hmm
  go_wp2_with fail
  go_loopw [29] (fun i W => ∃ k : Nat, k ≤ n6 ∧ i = .int .i64 k ∧ Hid (SetM W gm k (r.take k)) ∧ Hid (Below wB.heap.size wB W)) (fun i _ => n6 - (Lib.intOf i).toNat)
  case atStart => exact ⟨0, Nat.zero_le _, rfl, M1, BM⟩
  case round =>
    clear M1 BM
    obtain ⟨k, hk, rfl, HS, HB⟩ := hrel
    obtain ⟨wq, hwq⟩ : ∃ q, q = wr := ⟨_, rfl⟩
    rw [← hwq] at HS HB ⊢
    clear hwq
    by_cases hlt : k < n6
    · obtain ⟨v, hv⟩ : ∃ v, r[k]? = some v := ⟨_, List.getElem?_eq_getElem (by have := HN6.out; omega)⟩
      obtain ⟨g, o, rfl, hat⟩ := R6.out.at hv
      obtain ⟨r0, r1, r2, r3, r4, r5, r6⟩ := hat.on HB.out
      have k1 : (k : Int) < (n6 : Int) := by omega
      have k2 : (0 : Int) ≤ (k : Int) := by omega
      have k4 : IntKind.i64.wrap ((k : Int) + 1) = (k : Int) + 1 := IntWalk.i64_in _ (by omega)
      have HV := Lib.hid hv
      have HVM : Hid (v ∈ r) := Lib.hid (List.mem_of_getElem? hv)
      have HVF := Lib.hid (HFR.out v HVM.out)
      have HVH : Hid (hasS fa v = true) := Lib.hid ((HMEM.out v).1 HVM.out).2
      clear hat hv
      have X0 : Hid (Box (wq.alloc (.cells Ver.zero.arr 45)) wq.heap.size 45 Ver.zero.arr) := Lib.hid box_new
      obtain ⟨wv, hwv⟩ : ∃ q, q = (wq.alloc (.cells Ver.zero.arr 45)).setRow wq.heap.size v.arr := ⟨_, rfl⟩
      have XV : Hid (Box wv wq.heap.size 45 v.arr) := Lib.hid (by rw [hwv]; exact X0.out.row _)
      have bv : Below wq.heap.size wq wv := by rw [hwv]; exact below_row ((Below.refl _ _).alloc (Nat.le_refl _) _) (Nat.le_refl _) _
      have BV : Hid (Below wB.heap.size wB wv) := Lib.hid (bch HB.out bv)
      go_upto_region 10 with (first
        | (with_reducible refine wpList_zero rfl 45 rfl Ver.zero.arr zero26 ?_)
        | (refine wpList_store_row rfl 45 (.tmp 9) (.tmp 33) rfl wq.heap.size v.arr rfl rfl 45 _ X0.out (info26 _) rfl (arr_one _) ?_))
      rw [← hwv]
      clear hwv X0 r0 r1 r2 r3 r4 r5 r6
      obtain ⟨gx, hgx⟩ : ∃ q, q = wq.heap.size := ⟨_, rfl⟩
      rw [← hgx] at XV ⊢
      clear hgx
      (try go_frame)
      have LK : Hid (∀ W, Below wv.heap.size wv W → (Instr.lookup 62 (.map (some gm)) (.agg #[.int .i64 v.n0, .int .i64 v.n1, .int .i64 v.n2, .int .i64 v.n3, .int .i64 v.many, .string v.tag, .int .i64 v.step]) false).run Tryz.prog W = .ok (.int .i64 0) W) := Lib.hid (fun W hb => by
        have h := ((HS.out.on bv).on hb).look HVF.out
        rw [if_neg (fall_apart HFALL.out HV.out)] at h
        exact h)
      have HSV := Lib.hid (HS.out.on bv)
      have Y5 := Lib.hid (Z5'.out.on BV.out)
      have CH := Lib.hid (pk_has HVH.out (RA'.out.on BV.out))
      clear bv HS HB
      go_cut [57] (fun b wx => b = .bool false ∧ Hid (Below wv.heap.size wv wx))
      case first =>
        rename_i J2 K2 hJ hK2
        by_cases hk0 : k = 0
        · subst hk0
          try clear HMEM
          try clear HFR
          try clear HFQ
          refine wp_region_held_drew (S := fun w' => Below wv.heap.size wv w') (by kernel_rfl) (Below.refl _ _).drew (fun hHeld => ?_)
          refine wpAnyH_take (i := 0) (oi := { dst := some 34, op := Op.move (Operand.tmp 7), type := 62, pos := "outright.go:68", after := #[], guard := none }) (v := ?_) rfl (by kernel_rfl) (by kernel_rfl) (by kernel_rfl) (fun _ _ _ h => h) (Or.inl ⟨by rfl, ?_⟩) hHeld ?_
          rotate_left
          · (intro w hSw; go_simp; try with_reducible rfl)
          (try simp only [Act.put, List.setIfInBounds_toArray, List.set_cons_zero, List.set_cons_succ])
          refine wpAnyH_take (i := 1) (oi := { dst := some 35, op := Op.load 45 (Operand.tmp 9), type := 45, pos := "outright.go:68", after := #[], guard := none }) (v := ?_) rfl (by kernel_rfl) (by kernel_rfl) (by kernel_rfl) (fun _ _ _ h => h) (Or.inl ⟨by rfl, ?_⟩) hHeld ?_
          rotate_left
          · (intro w hSw; obtain ⟨p0, p1, p2, p3, p4, p5, p6⟩ := (XV.out.on hSw).ver; go_simp; try with_reducible rfl)
          (try simp only [Act.put, List.setIfInBounds_toArray, List.set_cons_zero, List.set_cons_succ])
          refine wpAnyH_take (i := 2) (oi := { dst := some 36, op := Op.lookup 62 (Operand.tmp 34) (Operand.tmp 35) false, type := 3, pos := "outright.go:68", after := #[{ on := 0, ground := Ground.data }, { on := 1, ground := Ground.data }], guard := none }) (v := ?_) rfl (by kernel_rfl) (by kernel_rfl) (by kernel_rfl) (fun _ _ _ h => h) (Or.inl ⟨by rfl, ?_⟩) hHeld ?_
          rotate_left
          · (intro w hSw; have hlk := LK.out _ hSw; go_simp; try with_reducible rfl)
          (try simp only [Act.put, List.setIfInBounds_toArray, List.set_cons_zero, List.set_cons_succ])
          refine wpAnyH_take (i := 3) (oi := { dst := some 37, op := Op.binOp BinOp.eql 3 (Operand.tmp 36) (Operand.const (Value.int IntKind.i64 1)) 3, type := 4, pos := "outright.go:68", after := #[{ on := 2, ground := Ground.data }], guard := none }) (v := ?_) rfl (by kernel_rfl) (by kernel_rfl) (by kernel_rfl) (fun _ _ _ h => h) (Or.inl ⟨by rfl, ?_⟩) hHeld ?_
          rotate_left
          · (intro w hSw; go_simp; try with_reducible rfl)
          (try simp only [Act.put, List.setIfInBounds_toArray, List.set_cons_zero, List.set_cons_succ])
          refine wpAnyH_take (i := 4) (oi := { dst := some 38, op := Op.move (Operand.tmp 37), type := 4, pos := "outright.go:68", after := #[{ on := 3, ground := Ground.data }], guard := none }) (v := ?_) rfl (by kernel_rfl) (by kernel_rfl) (by kernel_rfl) (fun _ _ _ h => h) (Or.inl ⟨by rfl, ?_⟩) hHeld ?_
          rotate_left
          · (intro w hSw; go_simp; try with_reducible rfl)
          (try simp only [Act.put, List.setIfInBounds_toArray, List.set_cons_zero, List.set_cons_succ])
          refine wpAnyH_take (i := 5) (oi := { dst := some 39, op := Op.load 27 (Operand.tmp 5), type := 27, pos := "outright.go:68", after := #[{ on := 4, ground := Ground.guard }], guard := some (4, false) }) (v := ?_) rfl (by kernel_rfl) (by kernel_rfl) (by kernel_rfl) (fun _ _ _ h => h) (Or.inl ⟨by rfl, ?_⟩) hHeld ?_
          rotate_left
          · (intro w hSw; have p0 := (Y5.out.on hSw).cell (k := 0) rfl; go_simp; try with_reducible rfl)
          (try simp only [Act.put, List.setIfInBounds_toArray, List.set_cons_zero, List.set_cons_succ])
          refine wpAnyH_take (i := 6) (oi := { dst := some 40, op := Op.load 45 (Operand.tmp 9), type := 45, pos := "outright.go:68", after := #[{ on := 4, ground := Ground.guard }], guard := some (4, false) }) (v := ?_) rfl (by kernel_rfl) (by kernel_rfl) (by kernel_rfl) (fun _ _ _ h => h) (Or.inl ⟨by rfl, ?_⟩) hHeld ?_
          rotate_left
          · (intro w hSw; obtain ⟨p0, p1, p2, p3, p4, p5, p6⟩ := (XV.out.on hSw).ver; go_simp; try with_reducible rfl)
          (try simp only [Act.put, List.setIfInBounds_toArray, List.set_cons_zero, List.set_cons_succ])
          refine wpAnyH_ready (rs := [7]) (by kernel_rfl) (by simp) (AllReadyH.cons (o := { dst := some 41, op := Op.call { callee := Callee.value (Operand.func 20), args := #[Operand.tmp 39, Operand.tmp 40], argTypes := #[27, 45] }, type := 4, pos := "outright.go:68", after := #[{ on := 5, ground := Ground.data }, { on := 6, ground := Ground.data }, { on := 4, ground := Ground.chain }, { on := 4, ground := Ground.guard }], guard := some (4, false) }) rfl (fun K hK => ?_) AllReadyH.nil)
          · go_simp
            refine (CH.out _ hHeld).mono ?_
            rintro e wa ⟨rfl, hba⟩
            refine hK.out _ _ (bch hHeld hba) (fun hHeld => ?_)
            clear hba
            (try simp only [Act.put, List.setIfInBounds_toArray, List.set_cons_zero, List.set_cons_succ])
            refine wpAnyH_take (i := 8) (oi := { dst := some 42, op := Op.unOp UnOp.not 4 (Operand.tmp 41), type := 4, pos := "outright.go:68", after := #[{ on := 7, ground := Ground.data }, { on := 4, ground := Ground.guard }], guard := some (4, false) }) (v := ?_) rfl (by kernel_rfl) (by kernel_rfl) (by kernel_rfl) (fun _ _ _ h => h) (Or.inl ⟨by rfl, ?_⟩) hHeld ?_
            rotate_left
            · (intro w hSw; go_simp; try with_reducible rfl)
            (try simp only [Act.put, List.setIfInBounds_toArray, List.set_cons_zero, List.set_cons_succ])
            refine wpAnyH_take (i := 9) (oi := { dst := some 43, op := Op.pick (Operand.tmp 38) (Operand.const (Value.bool true)) (Operand.tmp 42), type := 4, pos := "outright.go:68", after := #[{ on := 4, ground := Ground.data }, { on := 8, ground := Ground.data }], guard := none }) (v := ?_) rfl (by kernel_rfl) (by kernel_rfl) (by kernel_rfl) (fun _ _ _ h => h) (Or.inl ⟨by rfl, ?_⟩) hHeld ?_
            rotate_left
            · (intro w hSw; go_simp; try with_reducible rfl)
            (try simp only [Act.put, List.setIfInBounds_toArray, List.set_cons_zero, List.set_cons_succ])
            refine wpAnyH_take (i := 10) (oi := { dst := some 44, op := Op.move (Operand.tmp 43), type := 4, pos := "outright.go:68", after := #[{ on := 9, ground := Ground.data }, { on := 7, ground := Ground.chain }], guard := none }) (v := ?_) rfl (by kernel_rfl) (by kernel_rfl) (by kernel_rfl) (fun _ _ _ h => h) (Or.inl ⟨by rfl, ?_⟩) hHeld ?_
            rotate_left
            · (intro w hSw; go_simp; try with_reducible rfl)
            (try simp only [Act.put, List.setIfInBounds_toArray, List.set_cons_zero, List.set_cons_succ])
            refine wpAnyH_take (i := 11) (oi := { dst := some 45, op := Op.move (Operand.tmp 8), type := 3, pos := "outright.go:68", after := #[{ on := 10, ground := Ground.guard }], guard := some (10, false) }) (v := ?_) rfl (by kernel_rfl) (by kernel_rfl) (by kernel_rfl) (fun _ _ _ h => h) (Or.inl ⟨by rfl, ?_⟩) hHeld ?_
            rotate_left
            · (intro w hSw; go_simp; try with_reducible rfl)
            (try simp only [Act.put, List.setIfInBounds_toArray, List.set_cons_zero, List.set_cons_succ])
            refine wpAnyH_take (i := 12) (oi := { dst := some 46, op := Op.binOp BinOp.gtr 3 (Operand.tmp 45) (Operand.const (Value.int IntKind.i64 0)) 3, type := 4, pos := "outright.go:68", after := #[{ on := 11, ground := Ground.data }, { on := 10, ground := Ground.guard }], guard := some (10, false) }) (v := ?_) rfl (by kernel_rfl) (by kernel_rfl) (by kernel_rfl) (fun _ _ _ h => h) (Or.inl ⟨by rfl, ?_⟩) hHeld ?_
            rotate_left
            · (intro w hSw; go_simp; try with_reducible rfl)
            (try simp only [Act.put, List.setIfInBounds_toArray, List.set_cons_zero, List.set_cons_succ])
            refine wpAnyH_take (i := 13) (oi := { dst := some 47, op := Op.move (Operand.tmp 46), type := 4, pos := "outright.go:68", after := #[{ on := 12, ground := Ground.data }, { on := 10, ground := Ground.chain }, { on := 10, ground := Ground.guard }], guard := some (10, false) }) (v := ?_) rfl (by kernel_rfl) (by kernel_rfl) (by kernel_rfl) (fun _ _ _ h => h) (Or.inl ⟨by rfl, ?_⟩) hHeld ?_
            rotate_left
            · (intro w hSw; go_simp; try with_reducible rfl)
            (try simp only [Act.put, List.setIfInBounds_toArray, List.set_cons_zero, List.set_cons_succ])
            refine wpAnyH_take (i := 14) (oi := { dst := some 48, op := Op.move (Operand.tmp 6), type := 41, pos := "outright.go:68", after := #[{ on := 13, ground := Ground.guard }], guard := some (13, true) }) (v := undef) rfl (by kernel_rfl) (by kernel_rfl) (by kernel_rfl) (fun _ _ _ h => h) (Or.inr ⟨by rfl, rfl⟩) hHeld ?_
            (try simp only [Act.put, List.setIfInBounds_toArray, List.set_cons_zero, List.set_cons_succ])
            refine wpAnyH_take (i := 15) (oi := { dst := some 49, op := Op.move (Operand.tmp 8), type := 3, pos := "outright.go:68", after := #[{ on := 13, ground := Ground.guard }], guard := some (13, true) }) (v := undef) rfl (by kernel_rfl) (by kernel_rfl) (by kernel_rfl) (fun _ _ _ h => h) (Or.inr ⟨by rfl, rfl⟩) hHeld ?_
            (try simp only [Act.put, List.setIfInBounds_toArray, List.set_cons_zero, List.set_cons_succ])
            refine wpAnyH_take (i := 16) (oi := { dst := some 50, op := Op.binOp BinOp.sub 3 (Operand.tmp 49) (Operand.const (Value.int IntKind.i64 1)) 3, type := 3, pos := "outright.go:68", after := #[{ on := 15, ground := Ground.data }, { on := 13, ground := Ground.guard }], guard := some (13, true) }) (v := undef) rfl (by kernel_rfl) (by kernel_rfl) (by kernel_rfl) (fun _ _ _ h => h) (Or.inr ⟨by rfl, rfl⟩) hHeld ?_
            (try simp only [Act.put, List.setIfInBounds_toArray, List.set_cons_zero, List.set_cons_succ])
            refine wpAnyH_take (i := 17) (oi := { dst := some 51, op := Op.indexAddr 41 (Operand.tmp 48) (Operand.tmp 50), type := 0, pos := "outright.go:68", after := #[{ on := 14, ground := Ground.data }, { on := 16, ground := Ground.data }, { on := 13, ground := Ground.guard }], guard := some (13, true) }) (v := undef) rfl (by kernel_rfl) (by kernel_rfl) (by kernel_rfl) (fun _ _ _ h => h) (Or.inr ⟨by rfl, rfl⟩) hHeld ?_
            (try simp only [Act.put, List.setIfInBounds_toArray, List.set_cons_zero, List.set_cons_succ])
            refine wpAnyH_take (i := 18) (oi := { dst := some 52, op := Op.load 45 (Operand.tmp 51), type := 45, pos := "outright.go:68", after := #[{ on := 17, ground := Ground.data }, { on := 13, ground := Ground.guard }], guard := some (13, true) }) (v := undef) rfl (by kernel_rfl) (by kernel_rfl) (by kernel_rfl) (fun _ _ _ h => h) (Or.inr ⟨by rfl, rfl⟩) hHeld ?_
            (try simp only [Act.put, List.setIfInBounds_toArray, List.set_cons_zero, List.set_cons_succ])
            refine wpAnyH_take (i := 19) (oi := { dst := some 53, op := Op.load 45 (Operand.tmp 9), type := 45, pos := "outright.go:68", after := #[{ on := 13, ground := Ground.guard }], guard := some (13, true) }) (v := undef) rfl (by kernel_rfl) (by kernel_rfl) (by kernel_rfl) (fun _ _ _ h => h) (Or.inr ⟨by rfl, rfl⟩) hHeld ?_
            (try simp only [Act.put, List.setIfInBounds_toArray, List.set_cons_zero, List.set_cons_succ])
            refine wpAnyH_take (i := 20) (oi := { dst := some 54, op := Op.call { callee := Callee.value (Operand.func 31), args := #[Operand.tmp 52, Operand.tmp 53], argTypes := #[45, 45] }, type := 3, pos := "outright.go:68", after := #[{ on := 18, ground := Ground.data }, { on := 19, ground := Ground.data }, { on := 13, ground := Ground.chain }, { on := 13, ground := Ground.guard }], guard := some (13, true) }) (v := undef) rfl (by kernel_rfl) (by kernel_rfl) (by kernel_rfl) (fun _ _ _ h => h) (Or.inr ⟨by rfl, rfl⟩) hHeld ?_
            (try simp only [Act.put, List.setIfInBounds_toArray, List.set_cons_zero, List.set_cons_succ])
            refine wpAnyH_take (i := 21) (oi := { dst := some 55, op := Op.binOp BinOp.neq 3 (Operand.tmp 54) (Operand.const (Value.int IntKind.i64 1)) 3, type := 4, pos := "outright.go:68", after := #[{ on := 20, ground := Ground.data }, { on := 13, ground := Ground.guard }], guard := some (13, true) }) (v := undef) rfl (by kernel_rfl) (by kernel_rfl) (by kernel_rfl) (fun _ _ _ h => h) (Or.inr ⟨by rfl, rfl⟩) hHeld ?_
            (try simp only [Act.put, List.setIfInBounds_toArray, List.set_cons_zero, List.set_cons_succ])
            refine wpAnyH_take (i := 22) (oi := { dst := some 56, op := Op.pick (Operand.tmp 47) (Operand.tmp 55) (Operand.const (Value.bool false)), type := 4, pos := "outright.go:68", after := #[{ on := 13, ground := Ground.data }, { on := 21, ground := Ground.data }, { on := 10, ground := Ground.guard }], guard := some (10, false) }) (v := ?_) rfl (by kernel_rfl) (by kernel_rfl) (by kernel_rfl) (fun _ _ _ h => h) (Or.inl ⟨by rfl, ?_⟩) hHeld ?_
            rotate_left
            · (intro w hSw; go_simp; try with_reducible rfl)
            (try simp only [Act.put, List.setIfInBounds_toArray, List.set_cons_zero, List.set_cons_succ])
            refine wpAnyH_take (i := 23) (oi := { dst := some 57, op := Op.pick (Operand.tmp 44) (Operand.const (Value.bool true)) (Operand.tmp 56), type := 4, pos := "outright.go:68", after := #[{ on := 10, ground := Ground.data }, { on := 22, ground := Ground.data }], guard := none }) (v := ?_) rfl (by kernel_rfl) (by kernel_rfl) (by kernel_rfl) (fun _ _ _ h => h) (Or.inl ⟨by rfl, ?_⟩) hHeld ?_
            rotate_left
            · (intro w hSw; go_simp; try with_reducible rfl)
            (try simp only [Act.put, List.setIfInBounds_toArray, List.set_cons_zero, List.set_cons_succ])
            refine wpAnyH_done (by kernel_rfl) ?_ _
            first | refine hK2 _ _ (Met.intro (hJ _ _ ?_)) | refine Met.intro (hJ _ _ ?_)
            (repeat apply Exists.intro)
            refine ⟨?_, rfl⟩
            exact ⟨rfl, Lib.hid hHeld⟩
        · obtain ⟨j, hj⟩ : ∃ j, k = j + 1 := ⟨k - 1, by omega⟩
          obtain ⟨u, hu⟩ : ∃ v, r[j]? = some v := ⟨_, List.getElem?_eq_getElem (by have := HN6.out; omega)⟩
          obtain ⟨g', o', eg, hatu⟩ := R6.out.at hu
          injection eg with eg
          injection eg with eg1 eg2
          subst eg1 eg2
          have VP : Hid (∀ W, Below wv.heap.size wv W → VAtP W g (o + j * 7) u) := Lib.hid (fun W hb => (hatu.on BV.out).on hb)
          have HC1 : cmpW u v = 1 := by
            have h := fall_next HFALL.out hu (by rw [← hj]; exact HV.out)
            unfold cmpW
            rw [has_fit HVH.out, has_fit ((HMEM.out u).1 (List.mem_of_getElem? hu)).2]
            simpa using h
          have CC : Hid (∀ W, Below wv.heap.size wv W → Calls Tryz.prog 31 #[.agg #[.int .i64 u.n0, .int .i64 u.n1, .int .i64 u.n2, .int .i64 u.n3, .int .i64 u.many, .string u.tag, .int .i64 u.step], .agg #[.int .i64 v.n0, .int .i64 v.n1, .int .i64 v.n2, .int .i64 v.n3, .int .i64 v.many, .string v.tag, .int .i64 v.step]] W fun e w' => e = .returned (.int .i64 1) ∧ Below W.heap.size W w') := Lib.hid (fun W _ => by
            have h := comparew_any u v W
            rw [HC1] at h
            exact h)
          have g1 : decide ((k : Int) > 0) = true := decide_eq_true (by omega)
          have g2 : IntKind.i64.wrap ((k : Int) - 1) = (j : Int) := by rw [IntWalk.i64_in _ (by omega)]; omega
          have g3 : (j : Int) < (n6 : Int) := by omega
          have g4 : (0 : Int) ≤ (j : Int) := by omega
          have g5 : (0 : Int) < (k : Int) := by omega
          have g6 : 0 < k := by omega
          clear hu hatu HC1 hj hk0
          try clear HMEM
          try clear HFR
          try clear HFQ
          refine wp_region_held_drew (S := fun w' => Below wv.heap.size wv w') (by kernel_rfl) (Below.refl _ _).drew (fun hHeld => ?_)
          refine wpAnyH_take (i := 0) (oi := { dst := some 34, op := Op.move (Operand.tmp 7), type := 62, pos := "outright.go:68", after := #[], guard := none }) (v := ?_) rfl (by kernel_rfl) (by kernel_rfl) (by kernel_rfl) (fun _ _ _ h => h) (Or.inl ⟨by rfl, ?_⟩) hHeld ?_
          rotate_left
          · (intro w hSw; go_simp; try with_reducible rfl)
          (try simp only [Act.put, List.setIfInBounds_toArray, List.set_cons_zero, List.set_cons_succ])
          refine wpAnyH_take (i := 1) (oi := { dst := some 35, op := Op.load 45 (Operand.tmp 9), type := 45, pos := "outright.go:68", after := #[], guard := none }) (v := ?_) rfl (by kernel_rfl) (by kernel_rfl) (by kernel_rfl) (fun _ _ _ h => h) (Or.inl ⟨by rfl, ?_⟩) hHeld ?_
          rotate_left
          · (intro w hSw; obtain ⟨p0, p1, p2, p3, p4, p5, p6⟩ := (XV.out.on hSw).ver; go_simp; try with_reducible rfl)
          (try simp only [Act.put, List.setIfInBounds_toArray, List.set_cons_zero, List.set_cons_succ])
          refine wpAnyH_take (i := 2) (oi := { dst := some 36, op := Op.lookup 62 (Operand.tmp 34) (Operand.tmp 35) false, type := 3, pos := "outright.go:68", after := #[{ on := 0, ground := Ground.data }, { on := 1, ground := Ground.data }], guard := none }) (v := ?_) rfl (by kernel_rfl) (by kernel_rfl) (by kernel_rfl) (fun _ _ _ h => h) (Or.inl ⟨by rfl, ?_⟩) hHeld ?_
          rotate_left
          · (intro w hSw; have hlk := LK.out _ hSw; go_simp; try with_reducible rfl)
          (try simp only [Act.put, List.setIfInBounds_toArray, List.set_cons_zero, List.set_cons_succ])
          refine wpAnyH_take (i := 3) (oi := { dst := some 37, op := Op.binOp BinOp.eql 3 (Operand.tmp 36) (Operand.const (Value.int IntKind.i64 1)) 3, type := 4, pos := "outright.go:68", after := #[{ on := 2, ground := Ground.data }], guard := none }) (v := ?_) rfl (by kernel_rfl) (by kernel_rfl) (by kernel_rfl) (fun _ _ _ h => h) (Or.inl ⟨by rfl, ?_⟩) hHeld ?_
          rotate_left
          · (intro w hSw; go_simp; try with_reducible rfl)
          (try simp only [Act.put, List.setIfInBounds_toArray, List.set_cons_zero, List.set_cons_succ])
          refine wpAnyH_take (i := 4) (oi := { dst := some 38, op := Op.move (Operand.tmp 37), type := 4, pos := "outright.go:68", after := #[{ on := 3, ground := Ground.data }], guard := none }) (v := ?_) rfl (by kernel_rfl) (by kernel_rfl) (by kernel_rfl) (fun _ _ _ h => h) (Or.inl ⟨by rfl, ?_⟩) hHeld ?_
          rotate_left
          · (intro w hSw; go_simp; try with_reducible rfl)
          (try simp only [Act.put, List.setIfInBounds_toArray, List.set_cons_zero, List.set_cons_succ])
          refine wpAnyH_take (i := 5) (oi := { dst := some 39, op := Op.load 27 (Operand.tmp 5), type := 27, pos := "outright.go:68", after := #[{ on := 4, ground := Ground.guard }], guard := some (4, false) }) (v := ?_) rfl (by kernel_rfl) (by kernel_rfl) (by kernel_rfl) (fun _ _ _ h => h) (Or.inl ⟨by rfl, ?_⟩) hHeld ?_
          rotate_left
          · (intro w hSw; have p0 := (Y5.out.on hSw).cell (k := 0) rfl; go_simp; try with_reducible rfl)
          (try simp only [Act.put, List.setIfInBounds_toArray, List.set_cons_zero, List.set_cons_succ])
          refine wpAnyH_take (i := 6) (oi := { dst := some 40, op := Op.load 45 (Operand.tmp 9), type := 45, pos := "outright.go:68", after := #[{ on := 4, ground := Ground.guard }], guard := some (4, false) }) (v := ?_) rfl (by kernel_rfl) (by kernel_rfl) (by kernel_rfl) (fun _ _ _ h => h) (Or.inl ⟨by rfl, ?_⟩) hHeld ?_
          rotate_left
          · (intro w hSw; obtain ⟨p0, p1, p2, p3, p4, p5, p6⟩ := (XV.out.on hSw).ver; go_simp; try with_reducible rfl)
          (try simp only [Act.put, List.setIfInBounds_toArray, List.set_cons_zero, List.set_cons_succ])
          refine wpAnyH_ready (rs := [7]) (by kernel_rfl) (by simp) (AllReadyH.cons (o := { dst := some 41, op := Op.call { callee := Callee.value (Operand.func 20), args := #[Operand.tmp 39, Operand.tmp 40], argTypes := #[27, 45] }, type := 4, pos := "outright.go:68", after := #[{ on := 5, ground := Ground.data }, { on := 6, ground := Ground.data }, { on := 4, ground := Ground.chain }, { on := 4, ground := Ground.guard }], guard := some (4, false) }) rfl (fun K hK => ?_) AllReadyH.nil)
          · go_simp
            refine (CH.out _ hHeld).mono ?_
            rintro e wa ⟨rfl, hba⟩
            refine hK.out _ _ (bch hHeld hba) (fun hHeld => ?_)
            clear hba
            (try simp only [Act.put, List.setIfInBounds_toArray, List.set_cons_zero, List.set_cons_succ])
            refine wpAnyH_take (i := 8) (oi := { dst := some 42, op := Op.unOp UnOp.not 4 (Operand.tmp 41), type := 4, pos := "outright.go:68", after := #[{ on := 7, ground := Ground.data }, { on := 4, ground := Ground.guard }], guard := some (4, false) }) (v := ?_) rfl (by kernel_rfl) (by kernel_rfl) (by kernel_rfl) (fun _ _ _ h => h) (Or.inl ⟨by rfl, ?_⟩) hHeld ?_
            rotate_left
            · (intro w hSw; go_simp; try with_reducible rfl)
            (try simp only [Act.put, List.setIfInBounds_toArray, List.set_cons_zero, List.set_cons_succ])
            refine wpAnyH_take (i := 9) (oi := { dst := some 43, op := Op.pick (Operand.tmp 38) (Operand.const (Value.bool true)) (Operand.tmp 42), type := 4, pos := "outright.go:68", after := #[{ on := 4, ground := Ground.data }, { on := 8, ground := Ground.data }], guard := none }) (v := ?_) rfl (by kernel_rfl) (by kernel_rfl) (by kernel_rfl) (fun _ _ _ h => h) (Or.inl ⟨by rfl, ?_⟩) hHeld ?_
            rotate_left
            · (intro w hSw; go_simp; try with_reducible rfl)
            (try simp only [Act.put, List.setIfInBounds_toArray, List.set_cons_zero, List.set_cons_succ])
            refine wpAnyH_take (i := 10) (oi := { dst := some 44, op := Op.move (Operand.tmp 43), type := 4, pos := "outright.go:68", after := #[{ on := 9, ground := Ground.data }, { on := 7, ground := Ground.chain }], guard := none }) (v := ?_) rfl (by kernel_rfl) (by kernel_rfl) (by kernel_rfl) (fun _ _ _ h => h) (Or.inl ⟨by rfl, ?_⟩) hHeld ?_
            rotate_left
            · (intro w hSw; go_simp; try with_reducible rfl)
            (try simp only [Act.put, List.setIfInBounds_toArray, List.set_cons_zero, List.set_cons_succ])
            refine wpAnyH_take (i := 11) (oi := { dst := some 45, op := Op.move (Operand.tmp 8), type := 3, pos := "outright.go:68", after := #[{ on := 10, ground := Ground.guard }], guard := some (10, false) }) (v := ?_) rfl (by kernel_rfl) (by kernel_rfl) (by kernel_rfl) (fun _ _ _ h => h) (Or.inl ⟨by rfl, ?_⟩) hHeld ?_
            rotate_left
            · (intro w hSw; go_simp; try with_reducible rfl)
            (try simp only [Act.put, List.setIfInBounds_toArray, List.set_cons_zero, List.set_cons_succ])
            refine wpAnyH_take (i := 12) (oi := { dst := some 46, op := Op.binOp BinOp.gtr 3 (Operand.tmp 45) (Operand.const (Value.int IntKind.i64 0)) 3, type := 4, pos := "outright.go:68", after := #[{ on := 11, ground := Ground.data }, { on := 10, ground := Ground.guard }], guard := some (10, false) }) (v := ?_) rfl (by kernel_rfl) (by kernel_rfl) (by kernel_rfl) (fun _ _ _ h => h) (Or.inl ⟨by rfl, ?_⟩) hHeld ?_
            rotate_left
            · (intro w hSw; go_simp; try with_reducible rfl)
            (try simp only [Act.put, List.setIfInBounds_toArray, List.set_cons_zero, List.set_cons_succ])
            refine wpAnyH_take (i := 13) (oi := { dst := some 47, op := Op.move (Operand.tmp 46), type := 4, pos := "outright.go:68", after := #[{ on := 12, ground := Ground.data }, { on := 10, ground := Ground.chain }, { on := 10, ground := Ground.guard }], guard := some (10, false) }) (v := ?_) rfl (by kernel_rfl) (by kernel_rfl) (by kernel_rfl) (fun _ _ _ h => h) (Or.inl ⟨by rfl, ?_⟩) hHeld ?_
            rotate_left
            · (intro w hSw; go_simp; try with_reducible rfl)
            (try simp only [Act.put, List.setIfInBounds_toArray, List.set_cons_zero, List.set_cons_succ])
            refine wpAnyH_take (i := 14) (oi := { dst := some 48, op := Op.move (Operand.tmp 6), type := 41, pos := "outright.go:68", after := #[{ on := 13, ground := Ground.guard }], guard := some (13, true) }) (v := ?_) rfl (by kernel_rfl) (by kernel_rfl) (by kernel_rfl) (fun _ _ _ h => h) (Or.inl ⟨by rfl, ?_⟩) hHeld ?_
            rotate_left
            · (intro w hSw; go_simp; try with_reducible rfl)
            (try simp only [Act.put, List.setIfInBounds_toArray, List.set_cons_zero, List.set_cons_succ])
            refine wpAnyH_take (i := 15) (oi := { dst := some 49, op := Op.move (Operand.tmp 8), type := 3, pos := "outright.go:68", after := #[{ on := 13, ground := Ground.guard }], guard := some (13, true) }) (v := ?_) rfl (by kernel_rfl) (by kernel_rfl) (by kernel_rfl) (fun _ _ _ h => h) (Or.inl ⟨by rfl, ?_⟩) hHeld ?_
            rotate_left
            · (intro w hSw; go_simp; try with_reducible rfl)
            (try simp only [Act.put, List.setIfInBounds_toArray, List.set_cons_zero, List.set_cons_succ])
            refine wpAnyH_take (i := 16) (oi := { dst := some 50, op := Op.binOp BinOp.sub 3 (Operand.tmp 49) (Operand.const (Value.int IntKind.i64 1)) 3, type := 3, pos := "outright.go:68", after := #[{ on := 15, ground := Ground.data }, { on := 13, ground := Ground.guard }], guard := some (13, true) }) (v := ?_) rfl (by kernel_rfl) (by kernel_rfl) (by kernel_rfl) (fun _ _ _ h => h) (Or.inl ⟨by rfl, ?_⟩) hHeld ?_
            rotate_left
            · (intro w hSw; go_simp; try with_reducible rfl)
            (try simp only [Act.put, List.setIfInBounds_toArray, List.set_cons_zero, List.set_cons_succ])
            refine wpAnyH_take (i := 17) (oi := { dst := some 51, op := Op.indexAddr 41 (Operand.tmp 48) (Operand.tmp 50), type := 0, pos := "outright.go:68", after := #[{ on := 14, ground := Ground.data }, { on := 16, ground := Ground.data }, { on := 13, ground := Ground.guard }], guard := some (13, true) }) (v := ?_) rfl (by kernel_rfl) (by kernel_rfl) (by kernel_rfl) (fun _ _ _ h => h) (Or.inl ⟨by rfl, ?_⟩) hHeld ?_
            rotate_left
            · (intro w hSw; go_simp; try with_reducible rfl)
            (try simp only [Act.put, List.setIfInBounds_toArray, List.set_cons_zero, List.set_cons_succ])
            refine wpAnyH_take (i := 18) (oi := { dst := some 52, op := Op.load 45 (Operand.tmp 51), type := 45, pos := "outright.go:68", after := #[{ on := 17, ground := Ground.data }, { on := 13, ground := Ground.guard }], guard := some (13, true) }) (v := ?_) rfl (by kernel_rfl) (by kernel_rfl) (by kernel_rfl) (fun _ _ _ h => h) (Or.inl ⟨by rfl, ?_⟩) hHeld ?_
            rotate_left
            · (intro w hSw; obtain ⟨p0, p1, p2, p3, p4, p5, p6⟩ := VP.out _ hSw; go_simp; try with_reducible rfl)
            (try simp only [Act.put, List.setIfInBounds_toArray, List.set_cons_zero, List.set_cons_succ])
            refine wpAnyH_take (i := 19) (oi := { dst := some 53, op := Op.load 45 (Operand.tmp 9), type := 45, pos := "outright.go:68", after := #[{ on := 13, ground := Ground.guard }], guard := some (13, true) }) (v := ?_) rfl (by kernel_rfl) (by kernel_rfl) (by kernel_rfl) (fun _ _ _ h => h) (Or.inl ⟨by rfl, ?_⟩) hHeld ?_
            rotate_left
            · (intro w hSw; obtain ⟨p0, p1, p2, p3, p4, p5, p6⟩ := (XV.out.on hSw).ver; go_simp; try with_reducible rfl)
            (try simp only [Act.put, List.setIfInBounds_toArray, List.set_cons_zero, List.set_cons_succ])
            refine wpAnyH_ready (rs := [20]) (by kernel_rfl) (by simp) (AllReadyH.cons (o := { dst := some 54, op := Op.call { callee := Callee.value (Operand.func 31), args := #[Operand.tmp 52, Operand.tmp 53], argTypes := #[45, 45] }, type := 3, pos := "outright.go:68", after := #[{ on := 18, ground := Ground.data }, { on := 19, ground := Ground.data }, { on := 13, ground := Ground.chain }, { on := 13, ground := Ground.guard }], guard := some (13, true) }) rfl (fun K hK => ?_) AllReadyH.nil)
            · go_simp
              refine (CC.out _ hHeld).mono ?_
              rintro e wa ⟨rfl, hba⟩
              refine hK.out _ _ (bch hHeld hba) (fun hHeld => ?_)
              clear hba
              (try simp only [Act.put, List.setIfInBounds_toArray, List.set_cons_zero, List.set_cons_succ])
              refine wpAnyH_take (i := 21) (oi := { dst := some 55, op := Op.binOp BinOp.neq 3 (Operand.tmp 54) (Operand.const (Value.int IntKind.i64 1)) 3, type := 4, pos := "outright.go:68", after := #[{ on := 20, ground := Ground.data }, { on := 13, ground := Ground.guard }], guard := some (13, true) }) (v := ?_) rfl (by kernel_rfl) (by kernel_rfl) (by kernel_rfl) (fun _ _ _ h => h) (Or.inl ⟨by rfl, ?_⟩) hHeld ?_
              rotate_left
              · (intro w hSw; go_simp; try with_reducible rfl)
              (try simp only [Act.put, List.setIfInBounds_toArray, List.set_cons_zero, List.set_cons_succ])
              refine wpAnyH_take (i := 22) (oi := { dst := some 56, op := Op.pick (Operand.tmp 47) (Operand.tmp 55) (Operand.const (Value.bool false)), type := 4, pos := "outright.go:68", after := #[{ on := 13, ground := Ground.data }, { on := 21, ground := Ground.data }, { on := 10, ground := Ground.guard }], guard := some (10, false) }) (v := ?_) rfl (by kernel_rfl) (by kernel_rfl) (by kernel_rfl) (fun _ _ _ h => h) (Or.inl ⟨by rfl, ?_⟩) hHeld ?_
              rotate_left
              · (intro w hSw; go_simp; try with_reducible rfl)
              (try simp only [Act.put, List.setIfInBounds_toArray, List.set_cons_zero, List.set_cons_succ])
              refine wpAnyH_take (i := 23) (oi := { dst := some 57, op := Op.pick (Operand.tmp 44) (Operand.const (Value.bool true)) (Operand.tmp 56), type := 4, pos := "outright.go:68", after := #[{ on := 10, ground := Ground.data }, { on := 22, ground := Ground.data }], guard := none }) (v := ?_) rfl (by kernel_rfl) (by kernel_rfl) (by kernel_rfl) (fun _ _ _ h => h) (Or.inl ⟨by rfl, ?_⟩) hHeld ?_
              rotate_left
              · (intro w hSw; go_simp; try with_reducible rfl)
              (try simp only [Act.put, List.setIfInBounds_toArray, List.set_cons_zero, List.set_cons_succ])
              refine wpAnyH_done (by kernel_rfl) ?_ _
              first | refine hK2 _ _ (Met.intro (hJ _ _ ?_)) | refine Met.intro (hJ _ _ ?_)
              (repeat apply Exists.intro)
              refine ⟨?_, rfl⟩
              exact ⟨rfl, Lib.hid hHeld⟩
      case rest =>
        obtain ⟨rfl, HD⟩ := hcut
        obtain ⟨wx, hwx⟩ : ∃ q, q = wc := ⟨_, rfl⟩
        rw [← hwx] at HD ⊢
        obtain ⟨D, hmap, hD1, hD2, hD3⟩ := HSV.out.on HD.out
        have HMAP := Lib.hid hmap
        have BX := Lib.hid (bch BV.out HD.out)
        obtain ⟨c0, c1, c2, c3, c4, c5, c6⟩ := (XV.out.on HD.out).ver
        have HFIN : Hid (∀ w', w'.ownsMap Tryz.prog 45 (plainElem (H := Unit) Tryz.prog 3) gm (k + 1) (D.put (klV v) (.lit (.int .i64 1))) → SetM w' gm (k + 1) (r.take (k + 1))) := Lib.hid (fun w' h => by
          rw [take_last HV.out]
          exact SetM.put HVF.out hD1 hD2 hD3 h)
        have HKV := Lib.hid (key_v HVF.out)
        clear hwx HD XV BV LK HSV Y5 CH hmap hD1 hD2 hD3
        go_wp2_with (first | (at_mapUpdate; refine wpList_mapUpdate_own _ rfl _ _ _ 62 rfl 45 3 law45 Tryz.underlying62 (plainElem (H := Unit) Tryz.prog 3) gm k D rfl HMAP.out (by unfold maxLen; omega) _ _ (klV v) rfl rfl HKV.out (.lit (.int .i64 1)) [] (plainElem_int Tryz.underlying3 (by decide)) ?_; intro wu hu hgu) | fail)
        go_roundw
        case rel => exact ⟨k + 1, hlt, by go_num, Lib.hid (HFIN.out _ hu), Lib.hid (BX.out.grown hgu BX.out.size (fun j hj => by cases hj; exact HGM.out))⟩
        case measure => simp [Lib.intOf]; omega
    · have k1 : ¬ ((k : Int) < (n6 : Int)) := by omega
      have HS2 : Hid (SetM wq gm n6 r) := Lib.hid (by
        have e : k = n6 := by omega
        subst e
        have h := HS.out
        rw [List.take_of_length_le (Nat.le_of_eq HN6.out.symm)] at h
        exact h)
      clear HS
      go_upto_region 14 with fail
      obtain ⟨wC, hwC⟩ : ∃ q, q = wq := ⟨_, rfl⟩
      rw [← hwC] at HS2 HB ⊢
      clear hwC
      obtain ⟨wN, hwN⟩ : ∃ q, q = wC.alloc (.map #[] 0) := ⟨_, rfl⟩
      have N1 : Hid (SetM wN wC.heap.size 0 []) := Lib.hid (by rw [hwN]; exact setM_made _)
      have BN : Hid (Below wC.heap.size wC wN) := Lib.hid (by rw [hwN]; exact below_new _ _)
      have hmm := @run_makeMap Tryz.prog
      go_upto_region 15 with fail
      rw [← hwN]
      obtain ⟨gn, hgn⟩ : ∃ q, q = wC.heap.size := ⟨_, rfl⟩
      have HGN : Hid (wC.heap.size ≤ gn) := Lib.hid (Nat.le_of_eq hgn.symm)
      rw [← hgn] at N1 ⊢
      clear hwN hgn hmm k1 hlt hk
      have Y5 := Lib.hid (Z5'.out.on HB.out)
      have YA := Lib.hid (RA'.out.on HB.out)
      have YQ := Lib.hid (ZQ'.out.on HB.out)
      have BC : Hid (Below w.heap.size w wC) := Lib.hid (bch B5.out HB.out)
      clear Z5' RA' ZQ' R6 HB B5 HGM
      go_wp2_with fail
      go_loopw [64] (fun i W => ∃ k : Nat, k ≤ q ∧ i = .int .i64 k ∧ Hid (SetM W gn k (lq.take k)) ∧ Hid (Below wC.heap.size wC W)) (fun i _ => q - (Lib.intOf i).toNat)
      case atStart => exact ⟨0, Nat.zero_le _, rfl, N1, BN⟩
      case round =>
        clear N1 BN
        obtain ⟨k, hk, rfl, HS, HB⟩ := hrel
        obtain ⟨wq, hwq⟩ : ∃ q, q = wr := ⟨_, rfl⟩
        rw [← hwq] at HS HB ⊢
        clear hwq
        by_cases hlt : k < q
        · obtain ⟨v, hv⟩ : ∃ v, lq[k]? = some v := ⟨_, List.getElem?_eq_getElem (by have := HQ.out; omega)⟩
          obtain ⟨g, o, rfl, hat⟩ := YQ.out.at hv
          obtain ⟨r0, r1, r2, r3, r4, r5, r6⟩ := hat.on HB.out
          have k1 : (k : Int) < (q : Int) := by omega
          have k2 : (0 : Int) ≤ (k : Int) := by omega
          have k4 : IntKind.i64.wrap ((k : Int) + 1) = (k : Int) + 1 := IntWalk.i64_in _ (by omega)
          have HV := Lib.hid hv
          have HVM : Hid (v ∈ lq) := Lib.hid (List.mem_of_getElem? hv)
          have HVF := Lib.hid (HFQ.out v HVM.out)
          clear hat hv
          have X0 : Hid (Box (wq.alloc (.cells Ver.zero.arr 45)) wq.heap.size 45 Ver.zero.arr) := Lib.hid box_new
          obtain ⟨wv, hwv⟩ : ∃ q, q = (wq.alloc (.cells Ver.zero.arr 45)).setRow wq.heap.size v.arr := ⟨_, rfl⟩
          have XV : Hid (Box wv wq.heap.size 45 v.arr) := Lib.hid (by rw [hwv]; exact X0.out.row _)
          have bv : Below wq.heap.size wq wv := by rw [hwv]; exact below_row ((Below.refl _ _).alloc (Nat.le_refl _) _) (Nat.le_refl _) _
          have BV : Hid (Below wC.heap.size wC wv) := Lib.hid (bch HB.out bv)
          go_upto_region 18 with (first
            | (with_reducible refine wpList_zero rfl 45 rfl Ver.zero.arr zero26 ?_)
            | (refine wpList_store_row rfl 45 (.tmp 12) (.tmp 67) rfl wq.heap.size v.arr rfl rfl 45 _ X0.out (info26 _) rfl (arr_one _) ?_))
          rw [← hwv]
          clear hwv X0 r0 r1 r2 r3 r4 r5 r6
          obtain ⟨gx, hgx⟩ : ∃ q, q = wq.heap.size := ⟨_, rfl⟩
          have HMNE : Hid (gn < gx) := Lib.hid (by rw [hgx]; exact HS.out.lt)
          rw [← hgx] at XV ⊢
          clear hgx
          (try go_frame)
          obtain ⟨D, hmap, hD1, hD2, hD3⟩ := HS.out.on bv
          have HMAP := Lib.hid hmap
          have HFIN : Hid (∀ w', w'.ownsMap Tryz.prog 45 (plainElem (H := Unit) Tryz.prog 3) gn (k + 1) (D.put (klV v) (.lit (.int .i64 1))) → SetM w' gn (k + 1) (lq.take (k + 1))) := Lib.hid (fun w' h => by
            rw [take_last HV.out]
            exact SetM.put HVF.out hD1 hD2 hD3 h)
          have HKV := Lib.hid (key_v HVF.out)
          obtain ⟨c0, c1, c2, c3, c4, c5, c6⟩ := XV.out.ver
          clear bv hmap hD1 hD2 hD3 HS HB
          go_upto_region 19 with (first | (at_mapUpdate; refine wpList_mapUpdate_own _ rfl _ _ _ 62 rfl 45 3 law45 Tryz.underlying62 (plainElem (H := Unit) Tryz.prog 3) gn k D rfl HMAP.out (by unfold maxLen; omega) _ _ (klV v) rfl rfl HKV.out (.lit (.int .i64 1)) [] (plainElem_int Tryz.underlying3 (by decide)) ?_; intro wu hu hgu) | fail)
          (try go_frame)
          obtain ⟨wz, hwz⟩ : ∃ q, q = wu := ⟨_, rfl⟩
          rw [← hwz] at hu hgu ⊢
          have HSN := Lib.hid (HFIN.out _ hu)
          have BZ : Hid (Below wC.heap.size wC wz) := Lib.hid (BV.out.grown hgu BV.out.size (fun j hj => by cases hj; exact HGN.out))
          have XZ : Hid (Box wz gx 45 v.arr) := Lib.hid ((hgu.block gx XV.out.lt (by have := HMNE.out; simp; omega)).trans XV.out)
          have Y5Z := Lib.hid (Y5.out.on BZ.out)
          have HSM := Lib.hid (HS2.out.on BZ.out)
          obtain ⟨ob, hob⟩ : ∃ b, b = hasS fa v := ⟨_, rfl⟩
          have CH := Lib.hid (pk_has hob.symm (YA.out.on BZ.out))
          obtain ⟨c, hc⟩ : ∃ c : Int, c = if ob then 1 else 0 := ⟨_, rfl⟩
          have LK : Hid (∀ W, Below wz.heap.size wz W → (Instr.lookup 62 (.map (some gm)) (.agg #[.int .i64 v.n0, .int .i64 v.n1, .int .i64 v.n2, .int .i64 v.n3, .int .i64 v.many, .string v.tag, .int .i64 v.step]) false).run Tryz.prog W = .ok (.int .i64 c) W) := Lib.hid (fun W hb => by
            have h := (HSM.out.on hb).look HVF.out
            have e : (v ∈ r) ↔ ob = true := by rw [HMEM.out v, hob]; exact ⟨fun h => h.2, fun h => ⟨HVM.out, h⟩⟩
            have ec : (if v ∈ r then (1 : Int) else 0) = c := by
              rw [hc]
              by_cases hm : v ∈ r
              · rw [if_pos hm, if_pos (e.1 hm)]
              · rw [if_neg hm, if_neg (fun h => hm (e.2 h))]
            rw [ec] at h
            exact h)
          clear hwz hu hgu XV BV c0 c1 c2 c3 c4 c5 c6 HMAP HFIN HKV HSM hob HMNE
          go_cut [77] (fun b wx => b = .bool false ∧ Hid (Below wz.heap.size wz wx))
          case first =>
            rename_i J2 K2 hJ hK2
            try clear HMEM
            try clear HFR
            try clear HFQ
            cases ob
            · obtain rfl : c = 0 := by simpa using hc
              clear hc
              refine wp_region_held_drew (S := fun w' => Below wz.heap.size wz w') (by kernel_rfl) (Below.refl _ _).drew (fun hHeld => ?_)
              refine wpAnyH_take (i := 0) (oi := { dst := some 70, op := Op.load 27 (Operand.tmp 5), type := 27, pos := "outright.go:76", after := #[], guard := none }) (v := ?_) rfl (by kernel_rfl) (by kernel_rfl) (by kernel_rfl) (fun _ _ _ h => h) (Or.inl ⟨by rfl, ?_⟩) hHeld ?_
              rotate_left
              · (intro w hSw; have p0 := (Y5Z.out.on hSw).cell (k := 0) rfl; go_simp; try with_reducible rfl)
              (try simp only [Act.put, List.setIfInBounds_toArray, List.set_cons_zero, List.set_cons_succ])
              refine wpAnyH_take (i := 1) (oi := { dst := some 71, op := Op.load 45 (Operand.tmp 12), type := 45, pos := "outright.go:76", after := #[], guard := none }) (v := ?_) rfl (by kernel_rfl) (by kernel_rfl) (by kernel_rfl) (fun _ _ _ h => h) (Or.inl ⟨by rfl, ?_⟩) hHeld ?_
              rotate_left
              · (intro w hSw; obtain ⟨p0, p1, p2, p3, p4, p5, p6⟩ := (XZ.out.on hSw).ver; go_simp; try with_reducible rfl)
              (try simp only [Act.put, List.setIfInBounds_toArray, List.set_cons_zero, List.set_cons_succ])
              refine wpAnyH_take (i := 3) (oi := { dst := some 73, op := Op.move (Operand.tmp 7), type := 62, pos := "outright.go:76", after := #[], guard := none }) (v := ?_) rfl (by kernel_rfl) (by kernel_rfl) (by kernel_rfl) (fun _ _ _ h => h) (Or.inl ⟨by rfl, ?_⟩) hHeld ?_
              rotate_left
              · (intro w hSw; go_simp; try with_reducible rfl)
              (try simp only [Act.put, List.setIfInBounds_toArray, List.set_cons_zero, List.set_cons_succ])
              refine wpAnyH_take (i := 4) (oi := { dst := some 74, op := Op.load 45 (Operand.tmp 12), type := 45, pos := "outright.go:76", after := #[], guard := none }) (v := ?_) rfl (by kernel_rfl) (by kernel_rfl) (by kernel_rfl) (fun _ _ _ h => h) (Or.inl ⟨by rfl, ?_⟩) hHeld ?_
              rotate_left
              · (intro w hSw; obtain ⟨p0, p1, p2, p3, p4, p5, p6⟩ := (XZ.out.on hSw).ver; go_simp; try with_reducible rfl)
              (try simp only [Act.put, List.setIfInBounds_toArray, List.set_cons_zero, List.set_cons_succ])
              refine wpAnyH_take (i := 5) (oi := { dst := some 75, op := Op.lookup 62 (Operand.tmp 73) (Operand.tmp 74) false, type := 3, pos := "outright.go:76", after := #[{ on := 3, ground := Ground.data }, { on := 4, ground := Ground.data }], guard := none }) (v := ?_) rfl (by kernel_rfl) (by kernel_rfl) (by kernel_rfl) (fun _ _ _ h => h) (Or.inl ⟨by rfl, ?_⟩) hHeld ?_
              rotate_left
              · (intro w hSw; have hlk := LK.out _ hSw; go_simp; try with_reducible rfl)
              (try simp only [Act.put, List.setIfInBounds_toArray, List.set_cons_zero, List.set_cons_succ])
              refine wpAnyH_take (i := 6) (oi := { dst := some 76, op := Op.binOp BinOp.eql 3 (Operand.tmp 75) (Operand.const (Value.int IntKind.i64 1)) 3, type := 4, pos := "outright.go:76", after := #[{ on := 5, ground := Ground.data }], guard := none }) (v := ?_) rfl (by kernel_rfl) (by kernel_rfl) (by kernel_rfl) (fun _ _ _ h => h) (Or.inl ⟨by rfl, ?_⟩) hHeld ?_
              rotate_left
              · (intro w hSw; go_simp; try with_reducible rfl)
              (try simp only [Act.put, List.setIfInBounds_toArray, List.set_cons_zero, List.set_cons_succ])
              refine wpAnyH_ready (rs := [2]) (by kernel_rfl) (by simp) (AllReadyH.cons (o := { dst := some 72, op := Op.call { callee := Callee.value (Operand.func 20), args := #[Operand.tmp 70, Operand.tmp 71], argTypes := #[27, 45] }, type := 4, pos := "outright.go:76", after := #[{ on := 0, ground := Ground.data }, { on := 1, ground := Ground.data }], guard := none }) rfl (fun K hK => ?_) AllReadyH.nil)
              · go_simp
                refine (CH.out _ hHeld).mono ?_
                rintro e wa ⟨rfl, hba⟩
                refine hK.out _ _ (bch hHeld hba) (fun hHeld => ?_)
                clear hba
                (try simp only [Act.put, List.setIfInBounds_toArray, List.set_cons_zero, List.set_cons_succ])
                refine wpAnyH_take (i := 7) (oi := { dst := some 77, op := Op.binOp BinOp.neq 4 (Operand.tmp 72) (Operand.tmp 76) 4, type := 4, pos := "outright.go:76", after := #[{ on := 2, ground := Ground.data }, { on := 6, ground := Ground.data }], guard := none }) (v := ?_) rfl (by kernel_rfl) (by kernel_rfl) (by kernel_rfl) (fun _ _ _ h => h) (Or.inl ⟨by rfl, ?_⟩) hHeld ?_
                rotate_left
                · (intro w hSw; go_simp; try with_reducible rfl)
                (try simp only [Act.put, List.setIfInBounds_toArray, List.set_cons_zero, List.set_cons_succ])
                refine wpAnyH_done (by kernel_rfl) ?_ _
                first | refine hK2 _ _ (Met.intro (hJ _ _ ?_)) | refine Met.intro (hJ _ _ ?_)
                (repeat apply Exists.intro)
                refine ⟨?_, rfl⟩
                exact ⟨rfl, Lib.hid hHeld⟩
            · obtain rfl : c = 1 := by simpa using hc
              clear hc
              refine wp_region_held_drew (S := fun w' => Below wz.heap.size wz w') (by kernel_rfl) (Below.refl _ _).drew (fun hHeld => ?_)
              refine wpAnyH_take (i := 0) (oi := { dst := some 70, op := Op.load 27 (Operand.tmp 5), type := 27, pos := "outright.go:76", after := #[], guard := none }) (v := ?_) rfl (by kernel_rfl) (by kernel_rfl) (by kernel_rfl) (fun _ _ _ h => h) (Or.inl ⟨by rfl, ?_⟩) hHeld ?_
              rotate_left
              · (intro w hSw; have p0 := (Y5Z.out.on hSw).cell (k := 0) rfl; go_simp; try with_reducible rfl)
              (try simp only [Act.put, List.setIfInBounds_toArray, List.set_cons_zero, List.set_cons_succ])
              refine wpAnyH_take (i := 1) (oi := { dst := some 71, op := Op.load 45 (Operand.tmp 12), type := 45, pos := "outright.go:76", after := #[], guard := none }) (v := ?_) rfl (by kernel_rfl) (by kernel_rfl) (by kernel_rfl) (fun _ _ _ h => h) (Or.inl ⟨by rfl, ?_⟩) hHeld ?_
              rotate_left
              · (intro w hSw; obtain ⟨p0, p1, p2, p3, p4, p5, p6⟩ := (XZ.out.on hSw).ver; go_simp; try with_reducible rfl)
              (try simp only [Act.put, List.setIfInBounds_toArray, List.set_cons_zero, List.set_cons_succ])
              refine wpAnyH_take (i := 3) (oi := { dst := some 73, op := Op.move (Operand.tmp 7), type := 62, pos := "outright.go:76", after := #[], guard := none }) (v := ?_) rfl (by kernel_rfl) (by kernel_rfl) (by kernel_rfl) (fun _ _ _ h => h) (Or.inl ⟨by rfl, ?_⟩) hHeld ?_
              rotate_left
              · (intro w hSw; go_simp; try with_reducible rfl)
              (try simp only [Act.put, List.setIfInBounds_toArray, List.set_cons_zero, List.set_cons_succ])
              refine wpAnyH_take (i := 4) (oi := { dst := some 74, op := Op.load 45 (Operand.tmp 12), type := 45, pos := "outright.go:76", after := #[], guard := none }) (v := ?_) rfl (by kernel_rfl) (by kernel_rfl) (by kernel_rfl) (fun _ _ _ h => h) (Or.inl ⟨by rfl, ?_⟩) hHeld ?_
              rotate_left
              · (intro w hSw; obtain ⟨p0, p1, p2, p3, p4, p5, p6⟩ := (XZ.out.on hSw).ver; go_simp; try with_reducible rfl)
              (try simp only [Act.put, List.setIfInBounds_toArray, List.set_cons_zero, List.set_cons_succ])
              refine wpAnyH_take (i := 5) (oi := { dst := some 75, op := Op.lookup 62 (Operand.tmp 73) (Operand.tmp 74) false, type := 3, pos := "outright.go:76", after := #[{ on := 3, ground := Ground.data }, { on := 4, ground := Ground.data }], guard := none }) (v := ?_) rfl (by kernel_rfl) (by kernel_rfl) (by kernel_rfl) (fun _ _ _ h => h) (Or.inl ⟨by rfl, ?_⟩) hHeld ?_
              rotate_left
              · (intro w hSw; have hlk := LK.out _ hSw; go_simp; try with_reducible rfl)
              (try simp only [Act.put, List.setIfInBounds_toArray, List.set_cons_zero, List.set_cons_succ])
              refine wpAnyH_take (i := 6) (oi := { dst := some 76, op := Op.binOp BinOp.eql 3 (Operand.tmp 75) (Operand.const (Value.int IntKind.i64 1)) 3, type := 4, pos := "outright.go:76", after := #[{ on := 5, ground := Ground.data }], guard := none }) (v := ?_) rfl (by kernel_rfl) (by kernel_rfl) (by kernel_rfl) (fun _ _ _ h => h) (Or.inl ⟨by rfl, ?_⟩) hHeld ?_
              rotate_left
              · (intro w hSw; go_simp; try with_reducible rfl)
              (try simp only [Act.put, List.setIfInBounds_toArray, List.set_cons_zero, List.set_cons_succ])
              refine wpAnyH_ready (rs := [2]) (by kernel_rfl) (by simp) (AllReadyH.cons (o := { dst := some 72, op := Op.call { callee := Callee.value (Operand.func 20), args := #[Operand.tmp 70, Operand.tmp 71], argTypes := #[27, 45] }, type := 4, pos := "outright.go:76", after := #[{ on := 0, ground := Ground.data }, { on := 1, ground := Ground.data }], guard := none }) rfl (fun K hK => ?_) AllReadyH.nil)
              · go_simp
                refine (CH.out _ hHeld).mono ?_
                rintro e wa ⟨rfl, hba⟩
                refine hK.out _ _ (bch hHeld hba) (fun hHeld => ?_)
                clear hba
                (try simp only [Act.put, List.setIfInBounds_toArray, List.set_cons_zero, List.set_cons_succ])
                refine wpAnyH_take (i := 7) (oi := { dst := some 77, op := Op.binOp BinOp.neq 4 (Operand.tmp 72) (Operand.tmp 76) 4, type := 4, pos := "outright.go:76", after := #[{ on := 2, ground := Ground.data }, { on := 6, ground := Ground.data }], guard := none }) (v := ?_) rfl (by kernel_rfl) (by kernel_rfl) (by kernel_rfl) (fun _ _ _ h => h) (Or.inl ⟨by rfl, ?_⟩) hHeld ?_
                rotate_left
                · (intro w hSw; go_simp; try with_reducible rfl)
                (try simp only [Act.put, List.setIfInBounds_toArray, List.set_cons_zero, List.set_cons_succ])
                refine wpAnyH_done (by kernel_rfl) ?_ _
                first | refine hK2 _ _ (Met.intro (hJ _ _ ?_)) | refine Met.intro (hJ _ _ ?_)
                (repeat apply Exists.intro)
                refine ⟨?_, rfl⟩
                exact ⟨rfl, Lib.hid hHeld⟩
          case rest =>
            obtain ⟨rfl, HD⟩ := hcut
            obtain ⟨wx, hwx⟩ : ∃ q, q = wc := ⟨_, rfl⟩
            rw [← hwx] at HD ⊢
            have BX := Lib.hid (bch BZ.out HD.out)
            have HSX := Lib.hid (HSN.out.on HD.out)
            clear hwx HD XZ BZ LK HSN Y5Z CH hc
            go_wp2_with fail
            go_roundw
            case rel => exact ⟨k + 1, hlt, by go_num, HSX, BX⟩
            case measure => simp [Lib.intOf]; omega
        · have k1 : ¬ ((k : Int) < (q : Int)) := by omega
          have HSQ : Hid (SetM wq gn q lq) := Lib.hid (by
            have e : k = q := by omega
            subst e
            have h := HS.out
            rw [List.take_of_length_le (Nat.le_of_eq HQ.out.symm)] at h
            exact h)
          have HSM := Lib.hid (HS2.out.on HB.out)
          obtain ⟨D, hmap, hD1, hD2, hD3⟩ := HSM.out
          have HMAP := Lib.hid hmap
          have HD3 := Lib.hid hD3
          clear HS HS2 HSM hmap hD1 hD2 hD3
          have BQ : Hid (Below w.heap.size w wq) := Lib.hid (bch BC.out HB.out)
          clear HB BC
          go_wp2_with (first | (at_range; refine wpList_range_own _ rfl _ 62 rfl 45 3 law45 Tryz.underlying62 _ gm n6 D rfl HMAP.out ?_; intro wi hrg0 hg0 hs0) | fail)
          (try go_frame)
          have bi : Below wq.heap.size wq wi := ⟨hg0.os, hg0.tape, hg0.output, hg0.size, fun k hk => hg0.block k hk (by simp)⟩
          obtain ⟨gr, hgr⟩ : ∃ q, q = wq.heap.size := ⟨_, rfl⟩
          rw [← hgr] at hrg0 ⊢
          have HGR := Lib.hid hgr
          clear hgr hg0 hs0
          go_loopw [] (fun W => ∃ (left : Lit → Bool) (cnt : Nat), Hid (W.ranges Tryz.prog 45 (plainElem (H := Unit) Tryz.prog 3) gm gr n6 D left cnt) ∧ Hid (∀ kl, left kl = true → has D kl = true) ∧ Hid (Below wq.heap.size wq W)) (fun W => W.rangeLeft gm gr)
          case atStart => exact ⟨_, _, Lib.hid hrg0, Lib.hid (fun _ h => h), Lib.hid bi⟩
          case round =>
            clear hrg0 bi
            obtain ⟨left, cnt, HRG, HLF, HI⟩ := hrel
            obtain ⟨wo, hwo⟩ : ∃ q, q = wr := ⟨_, rfl⟩
            rw [← hwo] at HRG HI ⊢
            clear hwo
            go_wp2_with (first
              | (at_next; refine wpList_next_ranges _ rfl _ rfl 45 law45 (plainElem (H := Unit) Tryz.prog 3) (fun x : Value => x) (Value.int .i64) (fun key kl _ => ⟨key, rfl⟩) (fun v y hv => by obtain ⟨c, rfl, _⟩ := plainElem_int_inv Tryz.underlying3 hv; exact ⟨c, rfl⟩) gm gr n6 _ _ _ rfl HRG.out ?_ ?_)
              | fail)
            · intro _ _
              go_wp2_with fail
              go_ret
              exact ⟨rfl, bch BQ.out HI.out⟩
            · intro x c kl y yp w1 cnt1 hkey hlx hRv hat hrg1 hltc hg1 hs1 hen
              obtain ⟨v, hvr, hvf, hkl⟩ := HD3.out kl (HLF.out kl hlx)
              have ex : x = .agg v.arr := law45.inj hkey (by rw [hkl]; exact key_v hvf)
              subst ex
              have HI1 : Hid (Below wq.heap.size wq w1) := Lib.hid (HI.out.grown hg1 HI.out.size (fun j hj => by cases hj; rw [HGR.out]; exact Nat.le_refl _))
              have HR1 := Lib.hid hrg1
              have HLC := Lib.hid hltc
              have HVF := Lib.hid hvf
              have HVL : Hid (v ∈ lq) := Lib.hid ((HMEM.out v).1 hvr).1
              have HL1 : Hid (∀ z, (left z && !z.sameKey kl) = true → has D z = true) := Lib.hid (fun z hz => HLF.out z (by rw [Bool.and_eq_true] at hz; exact hz.1))
              clear hkey hlx hRv hat hrg1 hltc hg1 hs1 hkl hvr hvf
              have X0 : Hid (Box (w1.alloc (.cells Ver.zero.arr 45)) w1.heap.size 45 Ver.zero.arr) := Lib.hid box_new
              obtain ⟨wv, hwv⟩ : ∃ q, q = (w1.alloc (.cells Ver.zero.arr 45)).setRow w1.heap.size v.arr := ⟨_, rfl⟩
              have XV : Hid (Box wv w1.heap.size 45 v.arr) := Lib.hid (by rw [hwv]; exact X0.out.row _)
              have bv : Below w1.heap.size w1 wv := by rw [hwv]; exact below_row ((Below.refl _ _).alloc (Nat.le_refl _) _) (Nat.le_refl _) _
              have BV : Hid (Below wq.heap.size wq wv) := Lib.hid (bch HI1.out bv)
              have HR2 := Lib.hid (HR1.out.kept (row := none) ⟨bv.os, bv.tape, bv.output, bv.size, fun k hk _ => bv.block k hk⟩ (fun e => by cases e) (fun e => by cases e))
              have LK : (Instr.lookup 62 (.map (some gn)) (.agg #[.int .i64 v.n0, .int .i64 v.n1, .int .i64 v.n2, .int .i64 v.n3, .int .i64 v.many, .string v.tag, .int .i64 v.step]) false).run Tryz.prog wv = .ok (.int .i64 1) wv := by
                have h := (HSQ.out.on BV.out).look HVF.out
                rw [if_pos HVL.out] at h
                exact h
              go_upto_region 25 with (first
                | (with_reducible refine wpList_zero rfl 45 rfl Ver.zero.arr zero26 ?_)
                | (refine wpList_store_row rfl 45 (.tmp 13) (.tmp 84) rfl w1.heap.size v.arr rfl rfl 45 _ X0.out (info26 _) rfl (arr_one _) ?_))
              rw [← hwv]
              (try go_frame)
              clear hwv X0 bv hen
              obtain ⟨gx, hgx⟩ : ∃ q, q = w1.heap.size := ⟨_, rfl⟩
              rw [← hgx] at XV ⊢
              clear hgx
              obtain ⟨c0, c1, c2, c3, c4, c5, c6⟩ := XV.out.ver
              clear XV
              go_wp2_with fail
              go_roundw
              case rel => exact ⟨_, cnt1, HR2, HL1, BV⟩
              case measure => rw [HR2.out.left_eq, HRG.out.left_eq]; exact HLC.out
end Go.Proofs.YtlfehjjnepiljaaGreatDoor
