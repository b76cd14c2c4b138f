/- Proved here: ClaimAlone of puncheonlaw16 answers true for all rows of leaves, and every text. -/
import Derived.Test.YtgmplpfbhcdofaaAOwn
import Derived.Test.YtgmplpfbhcdofaaCSame
import Derived.Deep.DeepCutAuto
namespace Go.Proofs.Ytgmplpfbhcdofaa
open Go.RowKit Go.Shelf Go.Lib
attribute [local go_sem] Oper.semAt_some

theorem cls_path {l : List (List Lf)} {c : Cl} (h : c ∈ clsL l) : c.p ∈ pathsS (plsL l) := by
  obtain ⟨p, hp, rfl⟩ := List.mem_map.1 h
  exact hp
theorem cls_own {l : List (List Lf)} {c : Cl} (h : c ∈ clsL l) : c.own ≠ [] := by
  rw [clsL_at h]
  exact ownS_pos ((pathsS_mem _ _).1 (cls_path h))
theorem cls_sorted {l : List (List Lf)} (hok : okRs l) {c : Cl} (h : c ∈ clsL l) : (c.own.map (fun (n : Nat) => (n : Int))).Pairwise (· ≤ ·) := by
  rw [clsL_at h, List.pairwise_map]
  exact (ownS_up c.p l 0 hok.2).1.imp (fun {a b} hab => by omega)
theorem cls_rise {l : List (List Lf)} {j : Nat} {y x : Cl} (hy : (clsL l)[j]? = some y) (hx : (clsL l)[j + 1]? = some x) : Pt.cmpL y.p x.p < 0 := by
  have h := pathsS_rise (plsL l)
  have e : (clsL l).map (·.p) = pathsS (plsL l) := by
    show ((pathsS (plsL l)).map (clS (plsL l))).map (·.p) = _
    rw [List.map_map]
    exact List.map_id _
  have h1 : (pathsS (plsL l))[j]? = some y.p := by rw [← e, List.getElem?_map, hy]; rfl
  have h2 : (pathsS (plsL l))[j + 1]? = some x.p := by rw [← e, List.getElem?_map, hx]; rfl
  obtain ⟨l1, e1⟩ := List.getElem?_eq_some_iff.1 h1
  obtain ⟨l2, e2⟩ := List.getElem?_eq_some_iff.1 h2
  have := List.pairwise_iff_getElem.1 h j (j + 1) l1 l2 (by omega)
  rw [e1, e2] at this
  exact this
theorem flat3C (V : Bs → Value) (l : List Cl) (j r : Nat) (hr : r < 3) : (flatC V l)[j * 3 + r]? = (l[j]?).bind fun v => (ccells V v)[r]? := by
  induction l generalizing j with
  | nil => simp [flatC]
  | cons v l ih =>
    have hc : (ccells V v).length = 3 := rfl
    cases j with
    | zero =>
      rw [flatC_cons, Nat.zero_mul, Nat.zero_add, List.getElem?_append_left (by rw [hc]; exact hr)]
      rfl
    | succ j =>
      rw [flatC_cons, List.getElem?_append_right (by rw [hc]; omega), hc, show (j + 1) * 3 + r - 3 = j * 3 + r by omega, ih]
      rfl
/-- The cells of what Of answered. -/
theorem cls_cells {l : List (List Lf)} {B : Nat} {v : Value} {w : World} (h : ClsAt l B v w) : ∃ a c g, v = .slice a (clsL l).length c ∧ (0 < (clsL l).length → a = some ⟨g, 0, none⟩) ∧ (clsL l).length ≤ c ∧ c ≤ maxLen ∧
    ∀ W, Below w.heap.size w W → ∀ (k : Nat) (x : Cl), (clsL l)[k]? = some x → ∃ ax cx, W.cell? ⟨g, k * 3, none⟩ = some (.string ⟨x.p.toArray⟩) ∧ W.cell? ⟨g, k * 3 + 1, none⟩ = some (.bool x.dir) ∧ W.cell? ⟨g, k * 3 + 2, none⟩ = some (.slice ax x.own.length cx) ∧ Rd W (.slice ax x.own.length cx) (intsV (x.own.map (fun (n : Nat) => (n : Int)))) := by
  obtain ⟨z, h1, h2, h3⟩ := h
  rcases h2.2 with ⟨rfl, h0⟩ | ⟨g, cap, cur, rfl, _, _, hc1, hc2, _⟩
  · refine ⟨none, 0, 0, by rw [h0], fun h => by omega, by omega, Nat.zero_le _, fun W hW k x hx => ?_⟩
    have := (List.getElem?_eq_some_iff.1 hx).1
    omega
  · refine ⟨some ⟨g, 0, none⟩, cap, g, rfl, fun _ => rfl, hc1, hc2, fun W hW k x hx => ?_⟩
    have hxm := clsL_at (List.mem_of_getElem? hx)
    have hxo : x.own = ownS (plsL l) x.p := congrArg Cl.own hxm
    have hrow := h1.row x.p
    rw [← hxo] at hrow
    obtain ⟨ax, cx, hax⟩ := own_slice hrow
    have hown2 := own_on h2 hW
    have key : ∀ r u, r < 3 → (ccells z.2 x)[r]? = some u → W.cell? ⟨g, k * 3 + r, none⟩ = some u := fun r u hr hu => by
      have := hown2.cells (g := g) rfl (k * 3 + r) u (by rw [flat3C _ _ _ _ hr, hx]; exact hu)
      rw [addr_add, Nat.zero_add] at this
      exact this
    have k2 := key 2 (z.2 x.p) (by omega) rfl
    rw [hax] at k2 hrow
    exact ⟨ax, cx, key 0 _ (by omega) rfl, key 1 _ (by omega) rfl, k2, at0 (own_on hrow hW)⟩

set_option maxRecDepth 100000 in
set_option maxHeartbeats 8000000 in
theorem alone_law (L0 : List (List Lf)) (p : Bs) (v : Value) (w : World) (hv : RdRs w v L0) : Calls Try.prog 5 #[v, .string ⟨p.toArray⟩] w fun e w' => e = .returned (.bool true) ∧ Below w.heap.size w w' := by
  have HV := Lib.hid hv
  obtain ⟨a, c, rfl, _⟩ := hv
  obtain ⟨n0, hn0⟩ : ∃ n, n = L0.length := ⟨_, rfl⟩
  rw [← hn0] at HV ⊢
  clear hn0
  go_enter Try.func5, Try.ntmps5
  go_upto_region 3 with (go_at_call 6; refine (wakes_any _).mono ?_; rintro e w1 ⟨rfl, hb⟩; have HB1 := Lib.hid hb; clear hb)
  have HW := Lib.hid (own_any L0 _ _ (HV.out.on HB1.out))
  go_upto_region 4 with (go_at_call 9; refine HW.out.mono ?_; rintro e w2 ⟨vL, rfl, ho, hb⟩; have HOL := Lib.hid ho.rd; have HB12 := Lib.hid (bch HB1.out hb); obtain ⟨aL, cL, rfl⟩ := ho.slice; clear ho hb)
  obtain ⟨L, hL⟩ : ∃ L, L = cutR L0 := ⟨_, rfl⟩
  rw [← hL] at HOL ⊢
  obtain ⟨nL, hnL⟩ : ∃ n, n = L.length := ⟨_, rfl⟩
  rw [← hnL] at HOL ⊢
  have HNL := Lib.hid hnL
  clear hL hnL HW HV
  by_cases hz : chkR L = 0
  · have HZ0 := Lib.hid hz
    have HOK := Lib.hid ((chkR_iff L).1 hz)
    clear hz
    go_upto_region 5 with (go_at_call 12; refine (of_any L _ _ HOL.out).mono ?_; rintro e w3 ⟨v3, rfl, hb, h1, h2⟩; have HC3 := Lib.hid (h2 HZ0.out); rw [HZ0.out]; have HB3 := Lib.hid hb; clear hb h1 h2)
    obtain ⟨aC, cC, gC, rfl, haC, hcc1, hcc2, hce⟩ := cls_cells HC3.out
    have HCE : Hid (∀ W, Below w3.heap.size w3 W → ∀ (k : Nat) (x : Cl), (clsL L)[k]? = some x → ∃ ax cx, W.cell? ⟨gC, k * 3, none⟩ = some (.string ⟨x.p.toArray⟩) ∧ W.cell? ⟨gC, k * 3 + 1, none⟩ = some (.bool x.dir) ∧ W.cell? ⟨gC, k * 3 + 2, none⟩ = some (.slice ax x.own.length cx) ∧ Rd W (.slice ax x.own.length cx) (intsV (x.own.map (fun (n : Nat) => (n : Int))))) := Lib.hid hce
    have HAC := Lib.hid haC
    obtain ⟨nn, hnn⟩ : ∃ n, n = (clsL L).length := ⟨_, rfl⟩
    rw [← hnn] at hcc1 HAC ⊢
    have HNN := Lib.hid hnn
    unfold maxLen at hcc2
    clear haC hce HC3 hnn
    have HOL3 := Lib.hid (HOL.out.on HB3.out)
    go_upto_region 6 with (go_at_call 13; refine (alone_any L p _ _ HOL3.out).mono ?_; rintro e w4 ⟨rfl, hb⟩; have HB4 := Lib.hid hb; clear hb)
    obtain ⟨n1, hn1⟩ : ∃ z, z = (aloneR L p).1 := ⟨_, rfl⟩
    have HN1 := Lib.hid hn1
    obtain ⟨ok, hok⟩ : ∃ z, z = (aloneR L p).2 := ⟨_, rfl⟩
    have HOKB := Lib.hid hok
    rw [← hn1, ← hok]
    clear hn1 hok
    have hnn256 : nn ≤ 256 := by
      rw [HNN.out]
      show (clsS (plsL L)).length ≤ 256
      unfold clsS
      rw [List.length_map]
      have h1 := pathsS_len (plsL L)
      have h2 := okRs_len HOK.out
      omega
    have HB13 : Hid (Below w.heap.size w w3) := Lib.hid (bch HB12.out HB3.out)
    clear HB12 HB3 HOL HB1
    rcases Nat.eq_zero_or_pos nn with hn0 | hn0
    · subst hn0
      cases ok with
      | false =>
        go_wp2_with fail
        go_loopw [44] (fun i W => i = .int .i64 0 ∧ W = w4) (fun _ _ => 0)
        case atStart => exact ⟨rfl, rfl⟩
        case round =>
          obtain ⟨rfl, rfl⟩ := hrel
          go_wp2_with fail
          go_ret
          exact ⟨rfl, bch HB13.out HB4.out⟩
      | true =>
        exfalso
        have h9 := HOKB.out
        unfold aloneR at h9
        rw [if_pos HZ0.out, alone_ans, List.eq_nil_of_length_eq_zero HNN.out.symm] at h9
        cases h9
    have haC := HAC.out hn0
    subst haC
    clear HAC hn0
    cases ok with
    | false =>
      go_wp2_with fail
      go_loopw [44] (fun i W => ∃ k : Nat, k ≤ nn ∧ i = .int .i64 (k : Int) ∧ Hid (Below w3.heap.size w3 W)) (fun i _ => nn - (Lib.intOf i).toNat)
      case atStart => exact ⟨0, Nat.zero_le _, rfl, HB4⟩
      case round =>
        obtain ⟨k, hk, rfl, HB⟩ := hrel
        obtain ⟨wq, hwq⟩ : ∃ q, q = wr := ⟨_, rfl⟩
        rw [← hwq] at HB ⊢
        clear hwq
        by_cases hlt : k < nn
        · obtain ⟨x, hx⟩ : ∃ x, (clsL L)[k]? = some x := ⟨_, List.getElem?_eq_getElem (by rw [← HNN.out]; exact hlt)⟩
          obtain ⟨ax, cx, x0, x1, x2, x3⟩ := HCE.out wq HB.out k x hx
          have HXM : Hid (x ∈ clsL L) := Lib.hid (List.mem_of_getElem? hx)
          obtain ⟨nx, hnx⟩ : ∃ z, z = x.own.length := ⟨_, rfl⟩
          rw [← hnx] at x2 x3
          have HNX := Lib.hid hnx
          have hpos : 0 < nx := by rw [hnx]; exact List.length_pos_iff.2 (cls_own HXM.out)
          have HXL : Hid ((⟨x.p.toArray⟩ : ByteArray).size ≤ 140737488355328) := Lib.hid (by
            have := okRs_path HOK.out (cls_path HXM.out)
            show x.p.toArray.size ≤ _
            rw [List.size_toArray]
            omega)
          have HSRT : Hid ((x.own.map (fun (n : Nat) => (n : Int))).Pairwise (· ≤ ·)) := Lib.hid (cls_sorted HOK.out HXM.out)
          have k1 : (k : Int) < (nn : Int) := by omega
          have k2 : (0 : Int) ≤ (k : Int) := by omega
          have k4 : IntKind.i64.wrap ((k : Int) + 1) = (k : Int) + 1 := IntWalk.i64_in _ (by omega)
          have tn : ((nx : Int) == 0) = false := by simpa using (by omega : ¬ (nx : Int) = 0)
          obtain ⟨w5, hw5⟩ : ∃ q, q = wq.alloc (.cells #[.string ⟨x.p.toArray⟩, .bool x.dir, .slice ax nx cx] 43) := ⟨_, rfl⟩
          have hb5 : Below wq.heap.size wq w5 := by rw [hw5]; exact below_new _ _
          have X5 : Box w5 wq.heap.size 43 #[.string ⟨x.p.toArray⟩, .bool x.dir, .slice ax nx cx] := by rw [hw5]; exact box_new
          have HRO := Lib.hid (x3.on hb5)
          have HB5 : Hid (Below w3.heap.size w3 w5) := Lib.hid (bch HB.out hb5)
          have HX := Lib.hid hx
          clear hx hnx
          go_upto_region 11 with fail
          rw [← hw5]
          obtain ⟨bx, hbx⟩ : ∃ z, z = wq.heap.size := ⟨_, rfl⟩
          rw [← hbx] at X5 ⊢
          have HS : Hid (∀ W, Below w5.heap.size w5 W → W.cell? ⟨bx, 0, none⟩ = some (.string ⟨x.p.toArray⟩) ∧ W.cell? ⟨bx, 2, none⟩ = some (.slice ax nx cx)) := Lib.hid (fun W hW => ⟨(cl_box (X5.on hW)).1, (cl_box (X5.on hW)).2.2⟩)
          clear hw5 hb5 hbx X5 x0 x1 x2 x3
          go_cut [74] (fun p74 wx => p74 = .bool false ∧ Hid (Below w5.heap.size w5 wx))
          case first =>
            rename_i J2 K2 hJ hK2
            by_cases hk0 : k = 0
            · subst hk0
              have tk : decide (((0 : Nat) : Int) > 0) = false := by decide
              obtain ⟨v0, hv0⟩ : ∃ q, q = World.drew w5 := ⟨_, rfl⟩
              refine wp_region_held_drew (S := fun w' => Below w5.heap.size w5 w') (by kernel_rfl) (below_drewN (Below.refl _ _) 1) (fun hHeld => ?_)
              rw [← hv0] at hHeld ⊢
              clear hv0
              refine wpAnyH_take (i := 0) (oi := { dst := some 49, op := Op.fieldAddr 43 (Operand.tmp 11) 2, type := 0, pos := "outright.go:76", after := #[], guard := none }) (v := ?_) rfl (by kernel_rfl) (by kernel_rfl) (by kernel_rfl) (fun _ _ _ h => h) (Or.inl ⟨by rfl, ?_⟩) hHeld ?_
              rotate_left
              · (intro w hSw; have p0 := (HS.out w hSw).1; have p2 := (HS.out w hSw).2; go_simp; try with_reducible rfl)
              (try simp only [Act.put, List.setIfInBounds_toArray, List.set_cons_zero, List.set_cons_succ])
              refine wpAnyH_take (i := 1) (oi := { dst := some 50, op := Op.load 41 (Operand.tmp 49), type := 41, pos := "outright.go:76", after := #[{ on := 0, ground := Ground.data }], guard := none }) (v := ?_) rfl (by kernel_rfl) (by kernel_rfl) (by kernel_rfl) (fun _ _ _ h => h) (Or.inl ⟨by rfl, ?_⟩) hHeld ?_
              rotate_left
              · (intro w hSw; have p0 := (HS.out w hSw).1; have p2 := (HS.out w hSw).2; go_simp; try with_reducible rfl)
              (try simp only [Act.put, List.setIfInBounds_toArray, List.set_cons_zero, List.set_cons_succ])
              refine wpAnyH_take (i := 2) (oi := { dst := some 51, op := Op.call { callee := Callee.builtin Builtin.len, args := #[Operand.tmp 50], argTypes := #[41] }, type := 3, pos := "outright.go:76", after := #[{ on := 1, ground := Ground.data }], guard := none }) (v := ?_) rfl (by kernel_rfl) (by kernel_rfl) (by kernel_rfl) (fun _ _ _ h => h) (Or.inl ⟨by rfl, ?_⟩) hHeld ?_
              rotate_left
              · (intro w hSw; have p0 := (HS.out w hSw).1; have p2 := (HS.out w hSw).2; go_simp; try with_reducible rfl)
              (try simp only [Act.put, List.setIfInBounds_toArray, List.set_cons_zero, List.set_cons_succ])
              refine wpAnyH_take (i := 3) (oi := { dst := some 52, op := Op.binOp BinOp.eql 3 (Operand.tmp 51) (Operand.const (Value.int IntKind.i64 0)) 3, type := 4, pos := "outright.go:76", after := #[{ on := 2, ground := Ground.data }], guard := none }) (v := ?_) rfl (by kernel_rfl) (by kernel_rfl) (by kernel_rfl) (fun _ _ _ h => h) (Or.inl ⟨by rfl, ?_⟩) hHeld ?_
              rotate_left
              · (intro w hSw; have p0 := (HS.out w hSw).1; have p2 := (HS.out w hSw).2; go_simp; try with_reducible rfl)
              (try simp only [Act.put, List.setIfInBounds_toArray, List.set_cons_zero, List.set_cons_succ])
              refine wpAnyH_take (i := 4) (oi := { dst := some 53, op := Op.move (Operand.tmp 52), type := 4, pos := "outright.go:76", after := #[{ on := 3, ground := Ground.data }], guard := none }) (v := ?_) rfl (by kernel_rfl) (by kernel_rfl) (by kernel_rfl) (fun _ _ _ h => h) (Or.inl ⟨by rfl, ?_⟩) hHeld ?_
              rotate_left
              · (intro w hSw; have p0 := (HS.out w hSw).1; have p2 := (HS.out w hSw).2; go_simp; try with_reducible rfl)
              (try simp only [Act.put, List.setIfInBounds_toArray, List.set_cons_zero, List.set_cons_succ])
              refine wpAnyH_take (i := 5) (oi := { dst := some 54, op := Op.fieldAddr 43 (Operand.tmp 11) 2, type := 0, pos := "outright.go:76", after := #[{ on := 4, ground := Ground.guard }], guard := some (4, false) }) (v := ?_) rfl (by kernel_rfl) (by kernel_rfl) (by kernel_rfl) (fun _ _ _ h => h) (Or.inl ⟨by rfl, ?_⟩) hHeld ?_
              rotate_left
              · (intro w hSw; have p0 := (HS.out w hSw).1; have p2 := (HS.out w hSw).2; go_simp; try with_reducible rfl)
              (try simp only [Act.put, List.setIfInBounds_toArray, List.set_cons_zero, List.set_cons_succ])
              refine wpAnyH_take (i := 6) (oi := { dst := some 55, op := Op.load 41 (Operand.tmp 54), type := 41, pos := "outright.go:76", after := #[{ on := 5, ground := Ground.data }, { on := 4, ground := Ground.guard }], guard := some (4, false) }) (v := ?_) rfl (by kernel_rfl) (by kernel_rfl) (by kernel_rfl) (fun _ _ _ h => h) (Or.inl ⟨by rfl, ?_⟩) hHeld ?_
              rotate_left
              · (intro w hSw; have p0 := (HS.out w hSw).1; have p2 := (HS.out w hSw).2; go_simp; try with_reducible rfl)
              (try simp only [Act.put, List.setIfInBounds_toArray, List.set_cons_zero, List.set_cons_succ])
              refine wpAnyH_ready (rs := [7]) (by kernel_rfl) (by simp) (AllReadyH.cons (o := { dst := some 56, op := Op.call { callee := Callee.value (Operand.func 14), args := #[Operand.tmp 55], argTypes := #[41] }, type := 4, pos := "outright.go:76", after := #[{ on := 6, ground := Ground.data }, { on := 4, ground := Ground.chain }, { on := 4, ground := Ground.guard }], guard := some (4, false) }) rfl (fun K hK => ?_) AllReadyH.nil)
              · go_simp
                go_wp2_with (go_at_call 14; refine (issorted_any _ _ _ (HRO.out.on hHeld) HSRT.out).mono ?_; rintro e w6 ⟨rfl, hb⟩)
                refine hK.out _ _ (bch hHeld hb) (fun hHeld => ?_)
                clear hb hK K
                (try simp only [Act.put, List.setIfInBounds_toArray, List.set_cons_zero, List.set_cons_succ])
                refine wpAnyH_take (i := 8) (oi := { dst := some 57, op := Op.unOp UnOp.not 4 (Operand.tmp 56), type := 4, pos := "outright.go:76", after := #[{ on := 7, ground := Ground.data }, { on := 4, ground := Ground.guard }], guard := some (4, false) }) (v := ?_) rfl (by kernel_rfl) (by kernel_rfl) (by kernel_rfl) (fun _ _ _ h => h) (Or.inl ⟨by rfl, ?_⟩) hHeld ?_
                rotate_left
                · (intro w hSw; have p0 := (HS.out w hSw).1; have p2 := (HS.out w hSw).2; go_simp; try with_reducible rfl)
                (try simp only [Act.put, List.setIfInBounds_toArray, List.set_cons_zero, List.set_cons_succ])
                refine wpAnyH_take (i := 9) (oi := { dst := some 58, op := Op.pick (Operand.tmp 53) (Operand.const (Value.bool true)) (Operand.tmp 57), type := 4, pos := "outright.go:76", after := #[{ on := 4, ground := Ground.data }, { on := 8, ground := Ground.data }], guard := none }) (v := ?_) rfl (by kernel_rfl) (by kernel_rfl) (by kernel_rfl) (fun _ _ _ h => h) (Or.inl ⟨by rfl, ?_⟩) hHeld ?_
                rotate_left
                · (intro w hSw; have p0 := (HS.out w hSw).1; have p2 := (HS.out w hSw).2; go_simp; try with_reducible rfl)
                (try simp only [Act.put, List.setIfInBounds_toArray, List.set_cons_zero, List.set_cons_succ])
                refine wpAnyH_take (i := 10) (oi := { dst := some 59, op := Op.move (Operand.tmp 58), type := 4, pos := "outright.go:76", after := #[{ on := 9, ground := Ground.data }, { on := 7, ground := Ground.chain }], guard := none }) (v := ?_) rfl (by kernel_rfl) (by kernel_rfl) (by kernel_rfl) (fun _ _ _ h => h) (Or.inl ⟨by rfl, ?_⟩) hHeld ?_
                rotate_left
                · (intro w hSw; have p0 := (HS.out w hSw).1; have p2 := (HS.out w hSw).2; go_simp; try with_reducible rfl)
                (try simp only [Act.put, List.setIfInBounds_toArray, List.set_cons_zero, List.set_cons_succ])
                refine wpAnyH_take (i := 11) (oi := { dst := some 60, op := Op.move (Operand.tmp 10), type := 3, pos := "outright.go:76", after := #[{ on := 10, ground := Ground.guard }], guard := some (10, false) }) (v := ?_) rfl (by kernel_rfl) (by kernel_rfl) (by kernel_rfl) (fun _ _ _ h => h) (Or.inl ⟨by rfl, ?_⟩) hHeld ?_
                rotate_left
                · (intro w hSw; have p0 := (HS.out w hSw).1; have p2 := (HS.out w hSw).2; go_simp; try with_reducible rfl)
                (try simp only [Act.put, List.setIfInBounds_toArray, List.set_cons_zero, List.set_cons_succ])
                refine wpAnyH_take (i := 12) (oi := { dst := some 61, op := Op.binOp BinOp.gtr 3 (Operand.tmp 60) (Operand.const (Value.int IntKind.i64 0)) 3, type := 4, pos := "outright.go:76", after := #[{ on := 11, ground := Ground.data }, { on := 10, ground := Ground.guard }], guard := some (10, false) }) (v := ?_) rfl (by kernel_rfl) (by kernel_rfl) (by kernel_rfl) (fun _ _ _ h => h) (Or.inl ⟨by rfl, ?_⟩) hHeld ?_
                rotate_left
                · (intro w hSw; have p0 := (HS.out w hSw).1; have p2 := (HS.out w hSw).2; go_simp; try with_reducible rfl)
                (try simp only [Act.put, List.setIfInBounds_toArray, List.set_cons_zero, List.set_cons_succ])
                refine wpAnyH_take (i := 13) (oi := { dst := some 62, op := Op.move (Operand.tmp 61), type := 4, pos := "outright.go:76", after := #[{ on := 12, ground := Ground.data }, { on := 10, ground := Ground.chain }, { on := 10, ground := Ground.guard }], guard := some (10, false) }) (v := ?_) rfl (by kernel_rfl) (by kernel_rfl) (by kernel_rfl) (fun _ _ _ h => h) (Or.inl ⟨by rfl, ?_⟩) hHeld ?_
                rotate_left
                · (intro w hSw; have p0 := (HS.out w hSw).1; have p2 := (HS.out w hSw).2; go_simp; try with_reducible rfl)
                (try simp only [Act.put, List.setIfInBounds_toArray, List.set_cons_zero, List.set_cons_succ])
                refine wpAnyH_take (i := 14) (oi := { dst := some 63, op := Op.move (Operand.tmp 6), type := 22, pos := "outright.go:76", after := #[{ on := 13, ground := Ground.guard }], guard := some (13, true) }) (v := undef) rfl (by kernel_rfl) (by kernel_rfl) (by kernel_rfl) (fun _ _ _ h => h) (Or.inr ⟨by rfl, rfl⟩) hHeld ?_
                (try simp only [Act.put, List.setIfInBounds_toArray, List.set_cons_zero, List.set_cons_succ])
                refine wpAnyH_take (i := 15) (oi := { dst := some 64, op := Op.move (Operand.tmp 10), type := 3, pos := "outright.go:76", after := #[{ on := 13, ground := Ground.guard }], guard := some (13, true) }) (v := undef) rfl (by kernel_rfl) (by kernel_rfl) (by kernel_rfl) (fun _ _ _ h => h) (Or.inr ⟨by rfl, rfl⟩) hHeld ?_
                (try simp only [Act.put, List.setIfInBounds_toArray, List.set_cons_zero, List.set_cons_succ])
                refine wpAnyH_take (i := 16) (oi := { dst := some 65, op := Op.binOp BinOp.sub 3 (Operand.tmp 64) (Operand.const (Value.int IntKind.i64 1)) 3, type := 3, pos := "outright.go:76", after := #[{ on := 15, ground := Ground.data }, { on := 13, ground := Ground.guard }], guard := some (13, true) }) (v := undef) rfl (by kernel_rfl) (by kernel_rfl) (by kernel_rfl) (fun _ _ _ h => h) (Or.inr ⟨by rfl, rfl⟩) hHeld ?_
                (try simp only [Act.put, List.setIfInBounds_toArray, List.set_cons_zero, List.set_cons_succ])
                refine wpAnyH_take (i := 17) (oi := { dst := some 66, op := Op.indexAddr 22 (Operand.tmp 63) (Operand.tmp 65), type := 0, pos := "outright.go:76", after := #[{ on := 14, ground := Ground.data }, { on := 16, ground := Ground.data }, { on := 13, ground := Ground.guard }], guard := some (13, true) }) (v := undef) rfl (by kernel_rfl) (by kernel_rfl) (by kernel_rfl) (fun _ _ _ h => h) (Or.inr ⟨by rfl, rfl⟩) hHeld ?_
                (try simp only [Act.put, List.setIfInBounds_toArray, List.set_cons_zero, List.set_cons_succ])
                refine wpAnyH_take (i := 18) (oi := { dst := some 67, op := Op.fieldAddr 43 (Operand.tmp 66) 0, type := 0, pos := "outright.go:76", after := #[{ on := 17, ground := Ground.data }, { on := 13, ground := Ground.guard }], guard := some (13, true) }) (v := undef) rfl (by kernel_rfl) (by kernel_rfl) (by kernel_rfl) (fun _ _ _ h => h) (Or.inr ⟨by rfl, rfl⟩) hHeld ?_
                (try simp only [Act.put, List.setIfInBounds_toArray, List.set_cons_zero, List.set_cons_succ])
                refine wpAnyH_take (i := 19) (oi := { dst := some 68, op := Op.load 9 (Operand.tmp 67), type := 9, pos := "outright.go:76", after := #[{ on := 18, ground := Ground.data }, { on := 13, ground := Ground.guard }], guard := some (13, true) }) (v := undef) rfl (by kernel_rfl) (by kernel_rfl) (by kernel_rfl) (fun _ _ _ h => h) (Or.inr ⟨by rfl, rfl⟩) hHeld ?_
                (try simp only [Act.put, List.setIfInBounds_toArray, List.set_cons_zero, List.set_cons_succ])
                refine wpAnyH_take (i := 20) (oi := { dst := some 69, op := Op.fieldAddr 43 (Operand.tmp 11) 0, type := 0, pos := "outright.go:76", after := #[{ on := 13, ground := Ground.guard }], guard := some (13, true) }) (v := undef) rfl (by kernel_rfl) (by kernel_rfl) (by kernel_rfl) (fun _ _ _ h => h) (Or.inr ⟨by rfl, rfl⟩) hHeld ?_
                (try simp only [Act.put, List.setIfInBounds_toArray, List.set_cons_zero, List.set_cons_succ])
                refine wpAnyH_take (i := 21) (oi := { dst := some 70, op := Op.load 9 (Operand.tmp 69), type := 9, pos := "outright.go:76", after := #[{ on := 20, ground := Ground.data }, { on := 13, ground := Ground.guard }], guard := some (13, true) }) (v := undef) rfl (by kernel_rfl) (by kernel_rfl) (by kernel_rfl) (fun _ _ _ h => h) (Or.inr ⟨by rfl, rfl⟩) hHeld ?_
                (try simp only [Act.put, List.setIfInBounds_toArray, List.set_cons_zero, List.set_cons_succ])
                refine wpAnyH_take (i := 22) (oi := { dst := some 71, op := Op.call { callee := Callee.value (Operand.func 15), args := #[Operand.tmp 68, Operand.tmp 70], argTypes := #[9, 9] }, type := 3, pos := "outright.go:76", after := #[{ on := 19, ground := Ground.data }, { on := 21, ground := Ground.data }, { on := 13, ground := Ground.chain }, { on := 13, ground := Ground.guard }], guard := some (13, true) }) (v := undef) rfl (by kernel_rfl) (by kernel_rfl) (by kernel_rfl) (fun _ _ _ h => h) (Or.inr ⟨by rfl, rfl⟩) hHeld ?_
                (try simp only [Act.put, List.setIfInBounds_toArray, List.set_cons_zero, List.set_cons_succ])
                refine wpAnyH_take (i := 23) (oi := { dst := some 72, op := Op.binOp BinOp.geq 3 (Operand.tmp 71) (Operand.const (Value.int IntKind.i64 0)) 3, type := 4, pos := "outright.go:76", after := #[{ on := 22, ground := Ground.data }, { on := 13, ground := Ground.guard }], guard := some (13, true) }) (v := undef) rfl (by kernel_rfl) (by kernel_rfl) (by kernel_rfl) (fun _ _ _ h => h) (Or.inr ⟨by rfl, rfl⟩) hHeld ?_
                (try simp only [Act.put, List.setIfInBounds_toArray, List.set_cons_zero, List.set_cons_succ])
                refine wpAnyH_take (i := 24) (oi := { dst := some 73, op := Op.pick (Operand.tmp 62) (Operand.tmp 72) (Operand.const (Value.bool false)), type := 4, pos := "outright.go:76", after := #[{ on := 13, ground := Ground.data }, { on := 23, ground := Ground.data }, { on := 10, ground := Ground.guard }], guard := some (10, false) }) (v := ?_) rfl (by kernel_rfl) (by kernel_rfl) (by kernel_rfl) (fun _ _ _ h => h) (Or.inl ⟨by rfl, ?_⟩) hHeld ?_
                rotate_left
                · (intro w hSw; have p0 := (HS.out w hSw).1; have p2 := (HS.out w hSw).2; go_simp; try with_reducible rfl)
                (try simp only [Act.put, List.setIfInBounds_toArray, List.set_cons_zero, List.set_cons_succ])
                refine wpAnyH_take (i := 25) (oi := { dst := some 74, op := Op.pick (Operand.tmp 59) (Operand.const (Value.bool true)) (Operand.tmp 73), type := 4, pos := "outright.go:76", after := #[{ on := 10, ground := Ground.data }, { on := 24, ground := Ground.data }], guard := none }) (v := ?_) rfl (by kernel_rfl) (by kernel_rfl) (by kernel_rfl) (fun _ _ _ h => h) (Or.inl ⟨by rfl, ?_⟩) hHeld ?_
                rotate_left
                · (intro w hSw; have p0 := (HS.out w hSw).1; have p2 := (HS.out w hSw).2; go_simp; try with_reducible rfl)
                (try simp only [Act.put, List.setIfInBounds_toArray, List.set_cons_zero, List.set_cons_succ])
                refine wpAnyH_done (by kernel_rfl) ?_ _
                first | refine hK2 _ _ (Met.intro (hJ _ _ ?_)) | refine Met.intro (hJ _ _ ?_)
                (repeat apply Exists.intro)
                refine ⟨?_, rfl⟩
                exact ⟨rfl, Lib.hid hHeld⟩
            · obtain ⟨j, rfl⟩ : ∃ j, k = j + 1 := ⟨k - 1, by omega⟩
              have tk : decide (((j + 1 : Nat) : Int) > 0) = true := decide_eq_true (by omega)
              obtain ⟨y, hy⟩ : ∃ y, (clsL L)[j]? = some y := ⟨_, List.getElem?_eq_getElem (by rw [← HNN.out]; omega)⟩
              have HYM : Hid (y ∈ clsL L) := Lib.hid (List.mem_of_getElem? hy)
              have HYL : Hid ((⟨y.p.toArray⟩ : ByteArray).size ≤ 140737488355328) := Lib.hid (by
                have := okRs_path HOK.out (cls_path HYM.out)
                show y.p.toArray.size ≤ _
                rw [List.size_toArray]
                omega)
              obtain ⟨zc, hzc⟩ : ∃ z, z = Pt.cmpL y.p x.p := ⟨_, rfl⟩
              have HZC : Hid (Pt.cmpL y.p x.p = zc) := Lib.hid hzc.symm
              have tz : decide (zc ≥ 0) = false := decide_eq_false (by have := cls_rise hy HX.out; omega)
              have HSP : Hid (∀ W, Below w5.heap.size w5 W → W.cell? ⟨gC, j * 3, none⟩ = some (.string ⟨y.p.toArray⟩)) := Lib.hid (fun W hW => by
                obtain ⟨_, _, h0, _⟩ := HCE.out W (bch HB5.out hW) j y hy
                exact h0)
              have j1 : IntKind.i64.wrap (((j + 1 : Nat) : Int) - 1) = (j : Int) := by rw [IntWalk.i64_in _ (by omega)]; omega
              have j1' : IntKind.i64.wrap (j : Int) = (j : Int) := IntWalk.i64_in _ (by omega)
              have j1'' : IntKind.i64.wrap ((j : Int) + 1 - 1) = (j : Int) := by rw [IntWalk.i64_in _ (by omega)]; omega
              have j2 : (0 : Int) ≤ (j : Int) := by omega
              have j3 : (j : Int) < (nn : Int) := by omega
              clear hy hzc
              obtain ⟨v0, hv0⟩ : ∃ q, q = World.drew w5 := ⟨_, rfl⟩
              refine wp_region_held_drew (S := fun w' => Below w5.heap.size w5 w') (by kernel_rfl) (below_drewN (Below.refl _ _) 1) (fun hHeld => ?_)
              rw [← hv0] at hHeld ⊢
              clear hv0
              refine wpAnyH_take (i := 0) (oi := { dst := some 49, op := Op.fieldAddr 43 (Operand.tmp 11) 2, type := 0, pos := "outright.go:76", after := #[], guard := none }) (v := ?_) rfl (by kernel_rfl) (by kernel_rfl) (by kernel_rfl) (fun _ _ _ h => h) (Or.inl ⟨by rfl, ?_⟩) hHeld ?_
              rotate_left
              · (intro w hSw; have p0 := (HS.out w hSw).1; have p2 := (HS.out w hSw).2; have p3 := HSP.out w hSw; go_simp; try with_reducible rfl)
              (try simp only [Act.put, List.setIfInBounds_toArray, List.set_cons_zero, List.set_cons_succ])
              refine wpAnyH_take (i := 1) (oi := { dst := some 50, op := Op.load 41 (Operand.tmp 49), type := 41, pos := "outright.go:76", after := #[{ on := 0, ground := Ground.data }], guard := none }) (v := ?_) rfl (by kernel_rfl) (by kernel_rfl) (by kernel_rfl) (fun _ _ _ h => h) (Or.inl ⟨by rfl, ?_⟩) hHeld ?_
              rotate_left
              · (intro w hSw; have p0 := (HS.out w hSw).1; have p2 := (HS.out w hSw).2; have p3 := HSP.out w hSw; go_simp; try with_reducible rfl)
              (try simp only [Act.put, List.setIfInBounds_toArray, List.set_cons_zero, List.set_cons_succ])
              refine wpAnyH_take (i := 2) (oi := { dst := some 51, op := Op.call { callee := Callee.builtin Builtin.len, args := #[Operand.tmp 50], argTypes := #[41] }, type := 3, pos := "outright.go:76", after := #[{ on := 1, ground := Ground.data }], guard := none }) (v := ?_) rfl (by kernel_rfl) (by kernel_rfl) (by kernel_rfl) (fun _ _ _ h => h) (Or.inl ⟨by rfl, ?_⟩) hHeld ?_
              rotate_left
              · (intro w hSw; have p0 := (HS.out w hSw).1; have p2 := (HS.out w hSw).2; have p3 := HSP.out w hSw; go_simp; try with_reducible rfl)
              (try simp only [Act.put, List.setIfInBounds_toArray, List.set_cons_zero, List.set_cons_succ])
              refine wpAnyH_take (i := 3) (oi := { dst := some 52, op := Op.binOp BinOp.eql 3 (Operand.tmp 51) (Operand.const (Value.int IntKind.i64 0)) 3, type := 4, pos := "outright.go:76", after := #[{ on := 2, ground := Ground.data }], guard := none }) (v := ?_) rfl (by kernel_rfl) (by kernel_rfl) (by kernel_rfl) (fun _ _ _ h => h) (Or.inl ⟨by rfl, ?_⟩) hHeld ?_
              rotate_left
              · (intro w hSw; have p0 := (HS.out w hSw).1; have p2 := (HS.out w hSw).2; have p3 := HSP.out w hSw; go_simp; try with_reducible rfl)
              (try simp only [Act.put, List.setIfInBounds_toArray, List.set_cons_zero, List.set_cons_succ])
              refine wpAnyH_take (i := 4) (oi := { dst := some 53, op := Op.move (Operand.tmp 52), type := 4, pos := "outright.go:76", after := #[{ on := 3, ground := Ground.data }], guard := none }) (v := ?_) rfl (by kernel_rfl) (by kernel_rfl) (by kernel_rfl) (fun _ _ _ h => h) (Or.inl ⟨by rfl, ?_⟩) hHeld ?_
              rotate_left
              · (intro w hSw; have p0 := (HS.out w hSw).1; have p2 := (HS.out w hSw).2; have p3 := HSP.out w hSw; go_simp; try with_reducible rfl)
              (try simp only [Act.put, List.setIfInBounds_toArray, List.set_cons_zero, List.set_cons_succ])
              refine wpAnyH_take (i := 5) (oi := { dst := some 54, op := Op.fieldAddr 43 (Operand.tmp 11) 2, type := 0, pos := "outright.go:76", after := #[{ on := 4, ground := Ground.guard }], guard := some (4, false) }) (v := ?_) rfl (by kernel_rfl) (by kernel_rfl) (by kernel_rfl) (fun _ _ _ h => h) (Or.inl ⟨by rfl, ?_⟩) hHeld ?_
              rotate_left
              · (intro w hSw; have p0 := (HS.out w hSw).1; have p2 := (HS.out w hSw).2; have p3 := HSP.out w hSw; go_simp; try with_reducible rfl)
              (try simp only [Act.put, List.setIfInBounds_toArray, List.set_cons_zero, List.set_cons_succ])
              refine wpAnyH_take (i := 6) (oi := { dst := some 55, op := Op.load 41 (Operand.tmp 54), type := 41, pos := "outright.go:76", after := #[{ on := 5, ground := Ground.data }, { on := 4, ground := Ground.guard }], guard := some (4, false) }) (v := ?_) rfl (by kernel_rfl) (by kernel_rfl) (by kernel_rfl) (fun _ _ _ h => h) (Or.inl ⟨by rfl, ?_⟩) hHeld ?_
              rotate_left
              · (intro w hSw; have p0 := (HS.out w hSw).1; have p2 := (HS.out w hSw).2; have p3 := HSP.out w hSw; go_simp; try with_reducible rfl)
              (try simp only [Act.put, List.setIfInBounds_toArray, List.set_cons_zero, List.set_cons_succ])
              refine wpAnyH_ready (rs := [7]) (by kernel_rfl) (by simp) (AllReadyH.cons (o := { dst := some 56, op := Op.call { callee := Callee.value (Operand.func 14), args := #[Operand.tmp 55], argTypes := #[41] }, type := 4, pos := "outright.go:76", after := #[{ on := 6, ground := Ground.data }, { on := 4, ground := Ground.chain }, { on := 4, ground := Ground.guard }], guard := some (4, false) }) rfl (fun K hK => ?_) AllReadyH.nil)
              · go_simp
                go_wp2_with (go_at_call 14; refine (issorted_any _ _ _ (HRO.out.on hHeld) HSRT.out).mono ?_; rintro e w6 ⟨rfl, hb⟩)
                refine hK.out _ _ (bch hHeld hb) (fun hHeld => ?_)
                clear hb hK K
                (try simp only [Act.put, List.setIfInBounds_toArray, List.set_cons_zero, List.set_cons_succ])
                refine wpAnyH_take (i := 8) (oi := { dst := some 57, op := Op.unOp UnOp.not 4 (Operand.tmp 56), type := 4, pos := "outright.go:76", after := #[{ on := 7, ground := Ground.data }, { on := 4, ground := Ground.guard }], guard := some (4, false) }) (v := ?_) rfl (by kernel_rfl) (by kernel_rfl) (by kernel_rfl) (fun _ _ _ h => h) (Or.inl ⟨by rfl, ?_⟩) hHeld ?_
                rotate_left
                · (intro w hSw; have p0 := (HS.out w hSw).1; have p2 := (HS.out w hSw).2; have p3 := HSP.out w hSw; go_simp; try with_reducible rfl)
                (try simp only [Act.put, List.setIfInBounds_toArray, List.set_cons_zero, List.set_cons_succ])
                refine wpAnyH_take (i := 9) (oi := { dst := some 58, op := Op.pick (Operand.tmp 53) (Operand.const (Value.bool true)) (Operand.tmp 57), type := 4, pos := "outright.go:76", after := #[{ on := 4, ground := Ground.data }, { on := 8, ground := Ground.data }], guard := none }) (v := ?_) rfl (by kernel_rfl) (by kernel_rfl) (by kernel_rfl) (fun _ _ _ h => h) (Or.inl ⟨by rfl, ?_⟩) hHeld ?_
                rotate_left
                · (intro w hSw; have p0 := (HS.out w hSw).1; have p2 := (HS.out w hSw).2; have p3 := HSP.out w hSw; go_simp; try with_reducible rfl)
                (try simp only [Act.put, List.setIfInBounds_toArray, List.set_cons_zero, List.set_cons_succ])
                refine wpAnyH_take (i := 10) (oi := { dst := some 59, op := Op.move (Operand.tmp 58), type := 4, pos := "outright.go:76", after := #[{ on := 9, ground := Ground.data }, { on := 7, ground := Ground.chain }], guard := none }) (v := ?_) rfl (by kernel_rfl) (by kernel_rfl) (by kernel_rfl) (fun _ _ _ h => h) (Or.inl ⟨by rfl, ?_⟩) hHeld ?_
                rotate_left
                · (intro w hSw; have p0 := (HS.out w hSw).1; have p2 := (HS.out w hSw).2; have p3 := HSP.out w hSw; go_simp; try with_reducible rfl)
                (try simp only [Act.put, List.setIfInBounds_toArray, List.set_cons_zero, List.set_cons_succ])
                refine wpAnyH_take (i := 11) (oi := { dst := some 60, op := Op.move (Operand.tmp 10), type := 3, pos := "outright.go:76", after := #[{ on := 10, ground := Ground.guard }], guard := some (10, false) }) (v := ?_) rfl (by kernel_rfl) (by kernel_rfl) (by kernel_rfl) (fun _ _ _ h => h) (Or.inl ⟨by rfl, ?_⟩) hHeld ?_
                rotate_left
                · (intro w hSw; have p0 := (HS.out w hSw).1; have p2 := (HS.out w hSw).2; have p3 := HSP.out w hSw; go_simp; try with_reducible rfl)
                (try simp only [Act.put, List.setIfInBounds_toArray, List.set_cons_zero, List.set_cons_succ])
                refine wpAnyH_take (i := 12) (oi := { dst := some 61, op := Op.binOp BinOp.gtr 3 (Operand.tmp 60) (Operand.const (Value.int IntKind.i64 0)) 3, type := 4, pos := "outright.go:76", after := #[{ on := 11, ground := Ground.data }, { on := 10, ground := Ground.guard }], guard := some (10, false) }) (v := ?_) rfl (by kernel_rfl) (by kernel_rfl) (by kernel_rfl) (fun _ _ _ h => h) (Or.inl ⟨by rfl, ?_⟩) hHeld ?_
                rotate_left
                · (intro w hSw; have p0 := (HS.out w hSw).1; have p2 := (HS.out w hSw).2; have p3 := HSP.out w hSw; go_simp; try with_reducible rfl)
                (try simp only [Act.put, List.setIfInBounds_toArray, List.set_cons_zero, List.set_cons_succ])
                refine wpAnyH_take (i := 13) (oi := { dst := some 62, op := Op.move (Operand.tmp 61), type := 4, pos := "outright.go:76", after := #[{ on := 12, ground := Ground.data }, { on := 10, ground := Ground.chain }, { on := 10, ground := Ground.guard }], guard := some (10, false) }) (v := ?_) rfl (by kernel_rfl) (by kernel_rfl) (by kernel_rfl) (fun _ _ _ h => h) (Or.inl ⟨by rfl, ?_⟩) hHeld ?_
                rotate_left
                · (intro w hSw; have p0 := (HS.out w hSw).1; have p2 := (HS.out w hSw).2; have p3 := HSP.out w hSw; go_simp; try with_reducible rfl)
                (try simp only [Act.put, List.setIfInBounds_toArray, List.set_cons_zero, List.set_cons_succ])
                refine wpAnyH_take (i := 14) (oi := { dst := some 63, op := Op.move (Operand.tmp 6), type := 22, pos := "outright.go:76", after := #[{ on := 13, ground := Ground.guard }], guard := some (13, true) }) (v := ?_) rfl (by kernel_rfl) (by kernel_rfl) (by kernel_rfl) (fun _ _ _ h => h) (Or.inl ⟨by rfl, ?_⟩) hHeld ?_
                rotate_left
                · (intro w hSw; have p0 := (HS.out w hSw).1; have p2 := (HS.out w hSw).2; have p3 := HSP.out w hSw; go_simp; try with_reducible rfl)
                (try simp only [Act.put, List.setIfInBounds_toArray, List.set_cons_zero, List.set_cons_succ])
                refine wpAnyH_take (i := 15) (oi := { dst := some 64, op := Op.move (Operand.tmp 10), type := 3, pos := "outright.go:76", after := #[{ on := 13, ground := Ground.guard }], guard := some (13, true) }) (v := ?_) rfl (by kernel_rfl) (by kernel_rfl) (by kernel_rfl) (fun _ _ _ h => h) (Or.inl ⟨by rfl, ?_⟩) hHeld ?_
                rotate_left
                · (intro w hSw; have p0 := (HS.out w hSw).1; have p2 := (HS.out w hSw).2; have p3 := HSP.out w hSw; go_simp; try with_reducible rfl)
                (try simp only [Act.put, List.setIfInBounds_toArray, List.set_cons_zero, List.set_cons_succ])
                refine wpAnyH_take (i := 16) (oi := { dst := some 65, op := Op.binOp BinOp.sub 3 (Operand.tmp 64) (Operand.const (Value.int IntKind.i64 1)) 3, type := 3, pos := "outright.go:76", after := #[{ on := 15, ground := Ground.data }, { on := 13, ground := Ground.guard }], guard := some (13, true) }) (v := ?_) rfl (by kernel_rfl) (by kernel_rfl) (by kernel_rfl) (fun _ _ _ h => h) (Or.inl ⟨by rfl, ?_⟩) hHeld ?_
                rotate_left
                · (intro w hSw; have p0 := (HS.out w hSw).1; have p2 := (HS.out w hSw).2; have p3 := HSP.out w hSw; go_simp; try with_reducible rfl)
                (try simp only [Act.put, List.setIfInBounds_toArray, List.set_cons_zero, List.set_cons_succ])
                refine wpAnyH_take (i := 17) (oi := { dst := some 66, op := Op.indexAddr 22 (Operand.tmp 63) (Operand.tmp 65), type := 0, pos := "outright.go:76", after := #[{ on := 14, ground := Ground.data }, { on := 16, ground := Ground.data }, { on := 13, ground := Ground.guard }], guard := some (13, true) }) (v := ?_) rfl (by kernel_rfl) (by kernel_rfl) (by kernel_rfl) (fun _ _ _ h => h) (Or.inl ⟨by rfl, ?_⟩) hHeld ?_
                rotate_left
                · (intro w hSw; have p0 := (HS.out w hSw).1; have p2 := (HS.out w hSw).2; have p3 := HSP.out w hSw; go_simp; try with_reducible rfl)
                (try simp only [Act.put, List.setIfInBounds_toArray, List.set_cons_zero, List.set_cons_succ])
                refine wpAnyH_take (i := 18) (oi := { dst := some 67, op := Op.fieldAddr 43 (Operand.tmp 66) 0, type := 0, pos := "outright.go:76", after := #[{ on := 17, ground := Ground.data }, { on := 13, ground := Ground.guard }], guard := some (13, true) }) (v := ?_) rfl (by kernel_rfl) (by kernel_rfl) (by kernel_rfl) (fun _ _ _ h => h) (Or.inl ⟨by rfl, ?_⟩) hHeld ?_
                rotate_left
                · (intro w hSw; have p0 := (HS.out w hSw).1; have p2 := (HS.out w hSw).2; have p3 := HSP.out w hSw; go_simp; try with_reducible rfl)
                (try simp only [Act.put, List.setIfInBounds_toArray, List.set_cons_zero, List.set_cons_succ])
                refine wpAnyH_take (i := 19) (oi := { dst := some 68, op := Op.load 9 (Operand.tmp 67), type := 9, pos := "outright.go:76", after := #[{ on := 18, ground := Ground.data }, { on := 13, ground := Ground.guard }], guard := some (13, true) }) (v := ?_) rfl (by kernel_rfl) (by kernel_rfl) (by kernel_rfl) (fun _ _ _ h => h) (Or.inl ⟨by rfl, ?_⟩) hHeld ?_
                rotate_left
                · (intro w hSw; have p0 := (HS.out w hSw).1; have p2 := (HS.out w hSw).2; have p3 := HSP.out w hSw; go_simp; try with_reducible rfl)
                (try simp only [Act.put, List.setIfInBounds_toArray, List.set_cons_zero, List.set_cons_succ])
                refine wpAnyH_take (i := 20) (oi := { dst := some 69, op := Op.fieldAddr 43 (Operand.tmp 11) 0, type := 0, pos := "outright.go:76", after := #[{ on := 13, ground := Ground.guard }], guard := some (13, true) }) (v := ?_) rfl (by kernel_rfl) (by kernel_rfl) (by kernel_rfl) (fun _ _ _ h => h) (Or.inl ⟨by rfl, ?_⟩) hHeld ?_
                rotate_left
                · (intro w hSw; have p0 := (HS.out w hSw).1; have p2 := (HS.out w hSw).2; have p3 := HSP.out w hSw; go_simp; try with_reducible rfl)
                (try simp only [Act.put, List.setIfInBounds_toArray, List.set_cons_zero, List.set_cons_succ])
                refine wpAnyH_take (i := 21) (oi := { dst := some 70, op := Op.load 9 (Operand.tmp 69), type := 9, pos := "outright.go:76", after := #[{ on := 20, ground := Ground.data }, { on := 13, ground := Ground.guard }], guard := some (13, true) }) (v := ?_) rfl (by kernel_rfl) (by kernel_rfl) (by kernel_rfl) (fun _ _ _ h => h) (Or.inl ⟨by rfl, ?_⟩) hHeld ?_
                rotate_left
                · (intro w hSw; have p0 := (HS.out w hSw).1; have p2 := (HS.out w hSw).2; have p3 := HSP.out w hSw; go_simp; try with_reducible rfl)
                (try simp only [Act.put, List.setIfInBounds_toArray, List.set_cons_zero, List.set_cons_succ])
                refine wpAnyH_ready (rs := [22]) (by kernel_rfl) (by simp) (AllReadyH.cons (o := { dst := some 71, op := Op.call { callee := Callee.value (Operand.func 15), args := #[Operand.tmp 68, Operand.tmp 70], argTypes := #[9, 9] }, type := 3, pos := "outright.go:76", after := #[{ on := 19, ground := Ground.data }, { on := 21, ground := Ground.data }, { on := 13, ground := Ground.chain }, { on := 13, ground := Ground.guard }], guard := some (13, true) }) rfl (fun K hK => ?_) AllReadyH.nil)
                · go_simp
                  go_wp2_with (go_at_call 15; refine (Pt.cmp_any ⟨y.p.toArray⟩ ⟨x.p.toArray⟩ HYL.out HXL.out _).mono ?_; rintro e w7 ⟨rfl, hb⟩; rw [show Pt.cmpL (⟨y.p.toArray⟩ : ByteArray).data.toList (⟨x.p.toArray⟩ : ByteArray).data.toList = zc from HZC.out])
                  refine hK.out _ _ (bch hHeld hb) (fun hHeld => ?_)
                  clear hb hK K
                  (try simp only [Act.put, List.setIfInBounds_toArray, List.set_cons_zero, List.set_cons_succ])
                  refine wpAnyH_take (i := 23) (oi := { dst := some 72, op := Op.binOp BinOp.geq 3 (Operand.tmp 71) (Operand.const (Value.int IntKind.i64 0)) 3, type := 4, pos := "outright.go:76", after := #[{ on := 22, ground := Ground.data }, { on := 13, ground := Ground.guard }], guard := some (13, true) }) (v := ?_) rfl (by kernel_rfl) (by kernel_rfl) (by kernel_rfl) (fun _ _ _ h => h) (Or.inl ⟨by rfl, ?_⟩) hHeld ?_
                  rotate_left
                  · (intro w hSw; have p0 := (HS.out w hSw).1; have p2 := (HS.out w hSw).2; have p3 := HSP.out w hSw; go_simp; try with_reducible rfl)
                  (try simp only [Act.put, List.setIfInBounds_toArray, List.set_cons_zero, List.set_cons_succ])
                  refine wpAnyH_take (i := 24) (oi := { dst := some 73, op := Op.pick (Operand.tmp 62) (Operand.tmp 72) (Operand.const (Value.bool false)), type := 4, pos := "outright.go:76", after := #[{ on := 13, ground := Ground.data }, { on := 23, ground := Ground.data }, { on := 10, ground := Ground.guard }], guard := some (10, false) }) (v := ?_) rfl (by kernel_rfl) (by kernel_rfl) (by kernel_rfl) (fun _ _ _ h => h) (Or.inl ⟨by rfl, ?_⟩) hHeld ?_
                  rotate_left
                  · (intro w hSw; have p0 := (HS.out w hSw).1; have p2 := (HS.out w hSw).2; have p3 := HSP.out w hSw; go_simp; try with_reducible rfl)
                  (try simp only [Act.put, List.setIfInBounds_toArray, List.set_cons_zero, List.set_cons_succ])
                  refine wpAnyH_take (i := 25) (oi := { dst := some 74, op := Op.pick (Operand.tmp 59) (Operand.const (Value.bool true)) (Operand.tmp 73), type := 4, pos := "outright.go:76", after := #[{ on := 10, ground := Ground.data }, { on := 24, ground := Ground.data }], guard := none }) (v := ?_) rfl (by kernel_rfl) (by kernel_rfl) (by kernel_rfl) (fun _ _ _ h => h) (Or.inl ⟨by rfl, ?_⟩) hHeld ?_
                  rotate_left
                  · (intro w hSw; have p0 := (HS.out w hSw).1; have p2 := (HS.out w hSw).2; have p3 := HSP.out w hSw; go_simp; try with_reducible rfl)
                  (try simp only [Act.put, List.setIfInBounds_toArray, List.set_cons_zero, List.set_cons_succ])
                  refine wpAnyH_done (by kernel_rfl) ?_ _
                  first | refine hK2 _ _ (Met.intro (hJ _ _ ?_)) | refine Met.intro (hJ _ _ ?_)
                  (repeat apply Exists.intro)
                  refine ⟨?_, rfl⟩
                  exact ⟨rfl, Lib.hid hHeld⟩
          case rest =>
          obtain ⟨rfl, HBX⟩ := hcut
          go_wp2_with fail
          go_roundw
          case rel => exact ⟨k + 1, by omega, by go_num, Lib.hid (bch HB5.out HBX.out)⟩
          case measure => simp [Lib.intOf]; omega
        · have k1 : ¬ ((k : Int) < (nn : Int)) := by omega
          go_wp2_with fail
          go_ret
          exact ⟨rfl, bch HB13.out HB.out⟩
    | true =>
      obtain ⟨o1, hno1, hoo, hol⟩ := alone_own (l := L) (p := p) (n := n1) (by
        have h8 := HN1.out
        have h9 := HOKB.out
        unfold aloneR at h8 h9
        rw [if_pos HZ0.out] at h8 h9
        rw [h8, h9])
      subst hno1
      have HO1 := Lib.hid hoo
      have hpl : (⟨p.toArray⟩ : ByteArray).size ≤ 140737488355328 := by
        have hm : o1 ∈ ownS (plsL L) p := by rw [hoo]; simp
        obtain ⟨x, hx, rfl⟩ := mem_ownS.1 hm
        obtain ⟨k, r, h1, h2, _⟩ := mem_plsFrom.1 hx
        have := okLs_path (HOK.out.2 r (List.mem_of_getElem? h1)) h2
        show x.p.toArray.size ≤ _
        rw [List.size_toArray]
        omega
      have HPLN := Lib.hid hpl
      have ho1 : (o1 : Int) < (nL : Int) := by rw [HNL.out]; omega
      have ho2 : decide ((o1 : Int) ≥ 0) = true := decide_eq_true (by omega)
      have ho3 : decide ((o1 : Int) < (nL : Int)) = true := decide_eq_true ho1
      clear hpl hoo hol
      go_wp2_with fail
      go_loopw [44] (fun i W => ∃ k : Nat, k ≤ nn ∧ i = .int .i64 (k : Int) ∧ Hid (Below w3.heap.size w3 W)) (fun i _ => nn - (Lib.intOf i).toNat)
      case atStart => exact ⟨0, Nat.zero_le _, rfl, HB4⟩
      case round =>
        obtain ⟨k, hk, rfl, HB⟩ := hrel
        obtain ⟨wq, hwq⟩ : ∃ q, q = wr := ⟨_, rfl⟩
        rw [← hwq] at HB ⊢
        clear hwq
        by_cases hlt : k < nn
        · obtain ⟨x, hx⟩ : ∃ x, (clsL L)[k]? = some x := ⟨_, List.getElem?_eq_getElem (by rw [← HNN.out]; exact hlt)⟩
          obtain ⟨ax, cx, x0, x1, x2, x3⟩ := HCE.out wq HB.out k x hx
          have HXM : Hid (x ∈ clsL L) := Lib.hid (List.mem_of_getElem? hx)
          obtain ⟨nx, hnx⟩ : ∃ z, z = x.own.length := ⟨_, rfl⟩
          rw [← hnx] at x2 x3
          have HNX := Lib.hid hnx
          have hpos : 0 < nx := by rw [hnx]; exact List.length_pos_iff.2 (cls_own HXM.out)
          have HXL : Hid ((⟨x.p.toArray⟩ : ByteArray).size ≤ 140737488355328) := Lib.hid (by
            have := okRs_path HOK.out (cls_path HXM.out)
            show x.p.toArray.size ≤ _
            rw [List.size_toArray]
            omega)
          have HSRT : Hid ((x.own.map (fun (n : Nat) => (n : Int))).Pairwise (· ≤ ·)) := Lib.hid (cls_sorted HOK.out HXM.out)
          have k1 : (k : Int) < (nn : Int) := by omega
          have k2 : (0 : Int) ≤ (k : Int) := by omega
          have k4 : IntKind.i64.wrap ((k : Int) + 1) = (k : Int) + 1 := IntWalk.i64_in _ (by omega)
          have tn : ((nx : Int) == 0) = false := by simpa using (by omega : ¬ (nx : Int) = 0)
          obtain ⟨w5, hw5⟩ : ∃ q, q = wq.alloc (.cells #[.string ⟨x.p.toArray⟩, .bool x.dir, .slice ax nx cx] 43) := ⟨_, rfl⟩
          have hb5 : Below wq.heap.size wq w5 := by rw [hw5]; exact below_new _ _
          have X5 : Box w5 wq.heap.size 43 #[.string ⟨x.p.toArray⟩, .bool x.dir, .slice ax nx cx] := by rw [hw5]; exact box_new
          have HRO := Lib.hid (x3.on hb5)
          have HB5 : Hid (Below w3.heap.size w3 w5) := Lib.hid (bch HB.out hb5)
          have HX := Lib.hid hx
          clear hx hnx
          go_upto_region 11 with fail
          rw [← hw5]
          obtain ⟨bx, hbx⟩ : ∃ z, z = wq.heap.size := ⟨_, rfl⟩
          rw [← hbx] at X5 ⊢
          have HS : Hid (∀ W, Below w5.heap.size w5 W → W.cell? ⟨bx, 0, none⟩ = some (.string ⟨x.p.toArray⟩) ∧ W.cell? ⟨bx, 2, none⟩ = some (.slice ax nx cx)) := Lib.hid (fun W hW => ⟨(cl_box (X5.on hW)).1, (cl_box (X5.on hW)).2.2⟩)
          clear hw5 hb5 hbx X5 x0 x1 x2 x3
          go_cut [74] (fun p74 wx => p74 = .bool false ∧ Hid (Below w5.heap.size w5 wx))
          case first =>
            rename_i J2 K2 hJ hK2
            by_cases hk0 : k = 0
            · subst hk0
              have tk : decide (((0 : Nat) : Int) > 0) = false := by decide
              obtain ⟨v0, hv0⟩ : ∃ q, q = World.drew w5 := ⟨_, rfl⟩
              refine wp_region_held_drew (S := fun w' => Below w5.heap.size w5 w') (by kernel_rfl) (below_drewN (Below.refl _ _) 1) (fun hHeld => ?_)
              rw [← hv0] at hHeld ⊢
              clear hv0
              refine wpAnyH_take (i := 0) (oi := { dst := some 49, op := Op.fieldAddr 43 (Operand.tmp 11) 2, type := 0, pos := "outright.go:76", after := #[], guard := none }) (v := ?_) rfl (by kernel_rfl) (by kernel_rfl) (by kernel_rfl) (fun _ _ _ h => h) (Or.inl ⟨by rfl, ?_⟩) hHeld ?_
              rotate_left
              · (intro w hSw; have p0 := (HS.out w hSw).1; have p2 := (HS.out w hSw).2; go_simp; try with_reducible rfl)
              (try simp only [Act.put, List.setIfInBounds_toArray, List.set_cons_zero, List.set_cons_succ])
              refine wpAnyH_take (i := 1) (oi := { dst := some 50, op := Op.load 41 (Operand.tmp 49), type := 41, pos := "outright.go:76", after := #[{ on := 0, ground := Ground.data }], guard := none }) (v := ?_) rfl (by kernel_rfl) (by kernel_rfl) (by kernel_rfl) (fun _ _ _ h => h) (Or.inl ⟨by rfl, ?_⟩) hHeld ?_
              rotate_left
              · (intro w hSw; have p0 := (HS.out w hSw).1; have p2 := (HS.out w hSw).2; go_simp; try with_reducible rfl)
              (try simp only [Act.put, List.setIfInBounds_toArray, List.set_cons_zero, List.set_cons_succ])
              refine wpAnyH_take (i := 2) (oi := { dst := some 51, op := Op.call { callee := Callee.builtin Builtin.len, args := #[Operand.tmp 50], argTypes := #[41] }, type := 3, pos := "outright.go:76", after := #[{ on := 1, ground := Ground.data }], guard := none }) (v := ?_) rfl (by kernel_rfl) (by kernel_rfl) (by kernel_rfl) (fun _ _ _ h => h) (Or.inl ⟨by rfl, ?_⟩) hHeld ?_
              rotate_left
              · (intro w hSw; have p0 := (HS.out w hSw).1; have p2 := (HS.out w hSw).2; go_simp; try with_reducible rfl)
              (try simp only [Act.put, List.setIfInBounds_toArray, List.set_cons_zero, List.set_cons_succ])
              refine wpAnyH_take (i := 3) (oi := { dst := some 52, op := Op.binOp BinOp.eql 3 (Operand.tmp 51) (Operand.const (Value.int IntKind.i64 0)) 3, type := 4, pos := "outright.go:76", after := #[{ on := 2, ground := Ground.data }], guard := none }) (v := ?_) rfl (by kernel_rfl) (by kernel_rfl) (by kernel_rfl) (fun _ _ _ h => h) (Or.inl ⟨by rfl, ?_⟩) hHeld ?_
              rotate_left
              · (intro w hSw; have p0 := (HS.out w hSw).1; have p2 := (HS.out w hSw).2; go_simp; try with_reducible rfl)
              (try simp only [Act.put, List.setIfInBounds_toArray, List.set_cons_zero, List.set_cons_succ])
              refine wpAnyH_take (i := 4) (oi := { dst := some 53, op := Op.move (Operand.tmp 52), type := 4, pos := "outright.go:76", after := #[{ on := 3, ground := Ground.data }], guard := none }) (v := ?_) rfl (by kernel_rfl) (by kernel_rfl) (by kernel_rfl) (fun _ _ _ h => h) (Or.inl ⟨by rfl, ?_⟩) hHeld ?_
              rotate_left
              · (intro w hSw; have p0 := (HS.out w hSw).1; have p2 := (HS.out w hSw).2; go_simp; try with_reducible rfl)
              (try simp only [Act.put, List.setIfInBounds_toArray, List.set_cons_zero, List.set_cons_succ])
              refine wpAnyH_take (i := 5) (oi := { dst := some 54, op := Op.fieldAddr 43 (Operand.tmp 11) 2, type := 0, pos := "outright.go:76", after := #[{ on := 4, ground := Ground.guard }], guard := some (4, false) }) (v := ?_) rfl (by kernel_rfl) (by kernel_rfl) (by kernel_rfl) (fun _ _ _ h => h) (Or.inl ⟨by rfl, ?_⟩) hHeld ?_
              rotate_left
              · (intro w hSw; have p0 := (HS.out w hSw).1; have p2 := (HS.out w hSw).2; go_simp; try with_reducible rfl)
              (try simp only [Act.put, List.setIfInBounds_toArray, List.set_cons_zero, List.set_cons_succ])
              refine wpAnyH_take (i := 6) (oi := { dst := some 55, op := Op.load 41 (Operand.tmp 54), type := 41, pos := "outright.go:76", after := #[{ on := 5, ground := Ground.data }, { on := 4, ground := Ground.guard }], guard := some (4, false) }) (v := ?_) rfl (by kernel_rfl) (by kernel_rfl) (by kernel_rfl) (fun _ _ _ h => h) (Or.inl ⟨by rfl, ?_⟩) hHeld ?_
              rotate_left
              · (intro w hSw; have p0 := (HS.out w hSw).1; have p2 := (HS.out w hSw).2; go_simp; try with_reducible rfl)
              (try simp only [Act.put, List.setIfInBounds_toArray, List.set_cons_zero, List.set_cons_succ])
              refine wpAnyH_ready (rs := [7]) (by kernel_rfl) (by simp) (AllReadyH.cons (o := { dst := some 56, op := Op.call { callee := Callee.value (Operand.func 14), args := #[Operand.tmp 55], argTypes := #[41] }, type := 4, pos := "outright.go:76", after := #[{ on := 6, ground := Ground.data }, { on := 4, ground := Ground.chain }, { on := 4, ground := Ground.guard }], guard := some (4, false) }) rfl (fun K hK => ?_) AllReadyH.nil)
              · go_simp
                go_wp2_with (go_at_call 14; refine (issorted_any _ _ _ (HRO.out.on hHeld) HSRT.out).mono ?_; rintro e w6 ⟨rfl, hb⟩)
                refine hK.out _ _ (bch hHeld hb) (fun hHeld => ?_)
                clear hb hK K
                (try simp only [Act.put, List.setIfInBounds_toArray, List.set_cons_zero, List.set_cons_succ])
                refine wpAnyH_take (i := 8) (oi := { dst := some 57, op := Op.unOp UnOp.not 4 (Operand.tmp 56), type := 4, pos := "outright.go:76", after := #[{ on := 7, ground := Ground.data }, { on := 4, ground := Ground.guard }], guard := some (4, false) }) (v := ?_) rfl (by kernel_rfl) (by kernel_rfl) (by kernel_rfl) (fun _ _ _ h => h) (Or.inl ⟨by rfl, ?_⟩) hHeld ?_
                rotate_left
                · (intro w hSw; have p0 := (HS.out w hSw).1; have p2 := (HS.out w hSw).2; go_simp; try with_reducible rfl)
                (try simp only [Act.put, List.setIfInBounds_toArray, List.set_cons_zero, List.set_cons_succ])
                refine wpAnyH_take (i := 9) (oi := { dst := some 58, op := Op.pick (Operand.tmp 53) (Operand.const (Value.bool true)) (Operand.tmp 57), type := 4, pos := "outright.go:76", after := #[{ on := 4, ground := Ground.data }, { on := 8, ground := Ground.data }], guard := none }) (v := ?_) rfl (by kernel_rfl) (by kernel_rfl) (by kernel_rfl) (fun _ _ _ h => h) (Or.inl ⟨by rfl, ?_⟩) hHeld ?_
                rotate_left
                · (intro w hSw; have p0 := (HS.out w hSw).1; have p2 := (HS.out w hSw).2; go_simp; try with_reducible rfl)
                (try simp only [Act.put, List.setIfInBounds_toArray, List.set_cons_zero, List.set_cons_succ])
                refine wpAnyH_take (i := 10) (oi := { dst := some 59, op := Op.move (Operand.tmp 58), type := 4, pos := "outright.go:76", after := #[{ on := 9, ground := Ground.data }, { on := 7, ground := Ground.chain }], guard := none }) (v := ?_) rfl (by kernel_rfl) (by kernel_rfl) (by kernel_rfl) (fun _ _ _ h => h) (Or.inl ⟨by rfl, ?_⟩) hHeld ?_
                rotate_left
                · (intro w hSw; have p0 := (HS.out w hSw).1; have p2 := (HS.out w hSw).2; go_simp; try with_reducible rfl)
                (try simp only [Act.put, List.setIfInBounds_toArray, List.set_cons_zero, List.set_cons_succ])
                refine wpAnyH_take (i := 11) (oi := { dst := some 60, op := Op.move (Operand.tmp 10), type := 3, pos := "outright.go:76", after := #[{ on := 10, ground := Ground.guard }], guard := some (10, false) }) (v := ?_) rfl (by kernel_rfl) (by kernel_rfl) (by kernel_rfl) (fun _ _ _ h => h) (Or.inl ⟨by rfl, ?_⟩) hHeld ?_
                rotate_left
                · (intro w hSw; have p0 := (HS.out w hSw).1; have p2 := (HS.out w hSw).2; go_simp; try with_reducible rfl)
                (try simp only [Act.put, List.setIfInBounds_toArray, List.set_cons_zero, List.set_cons_succ])
                refine wpAnyH_take (i := 12) (oi := { dst := some 61, op := Op.binOp BinOp.gtr 3 (Operand.tmp 60) (Operand.const (Value.int IntKind.i64 0)) 3, type := 4, pos := "outright.go:76", after := #[{ on := 11, ground := Ground.data }, { on := 10, ground := Ground.guard }], guard := some (10, false) }) (v := ?_) rfl (by kernel_rfl) (by kernel_rfl) (by kernel_rfl) (fun _ _ _ h => h) (Or.inl ⟨by rfl, ?_⟩) hHeld ?_
                rotate_left
                · (intro w hSw; have p0 := (HS.out w hSw).1; have p2 := (HS.out w hSw).2; go_simp; try with_reducible rfl)
                (try simp only [Act.put, List.setIfInBounds_toArray, List.set_cons_zero, List.set_cons_succ])
                refine wpAnyH_take (i := 13) (oi := { dst := some 62, op := Op.move (Operand.tmp 61), type := 4, pos := "outright.go:76", after := #[{ on := 12, ground := Ground.data }, { on := 10, ground := Ground.chain }, { on := 10, ground := Ground.guard }], guard := some (10, false) }) (v := ?_) rfl (by kernel_rfl) (by kernel_rfl) (by kernel_rfl) (fun _ _ _ h => h) (Or.inl ⟨by rfl, ?_⟩) hHeld ?_
                rotate_left
                · (intro w hSw; have p0 := (HS.out w hSw).1; have p2 := (HS.out w hSw).2; go_simp; try with_reducible rfl)
                (try simp only [Act.put, List.setIfInBounds_toArray, List.set_cons_zero, List.set_cons_succ])
                refine wpAnyH_take (i := 14) (oi := { dst := some 63, op := Op.move (Operand.tmp 6), type := 22, pos := "outright.go:76", after := #[{ on := 13, ground := Ground.guard }], guard := some (13, true) }) (v := undef) rfl (by kernel_rfl) (by kernel_rfl) (by kernel_rfl) (fun _ _ _ h => h) (Or.inr ⟨by rfl, rfl⟩) hHeld ?_
                (try simp only [Act.put, List.setIfInBounds_toArray, List.set_cons_zero, List.set_cons_succ])
                refine wpAnyH_take (i := 15) (oi := { dst := some 64, op := Op.move (Operand.tmp 10), type := 3, pos := "outright.go:76", after := #[{ on := 13, ground := Ground.guard }], guard := some (13, true) }) (v := undef) rfl (by kernel_rfl) (by kernel_rfl) (by kernel_rfl) (fun _ _ _ h => h) (Or.inr ⟨by rfl, rfl⟩) hHeld ?_
                (try simp only [Act.put, List.setIfInBounds_toArray, List.set_cons_zero, List.set_cons_succ])
                refine wpAnyH_take (i := 16) (oi := { dst := some 65, op := Op.binOp BinOp.sub 3 (Operand.tmp 64) (Operand.const (Value.int IntKind.i64 1)) 3, type := 3, pos := "outright.go:76", after := #[{ on := 15, ground := Ground.data }, { on := 13, ground := Ground.guard }], guard := some (13, true) }) (v := undef) rfl (by kernel_rfl) (by kernel_rfl) (by kernel_rfl) (fun _ _ _ h => h) (Or.inr ⟨by rfl, rfl⟩) hHeld ?_
                (try simp only [Act.put, List.setIfInBounds_toArray, List.set_cons_zero, List.set_cons_succ])
                refine wpAnyH_take (i := 17) (oi := { dst := some 66, op := Op.indexAddr 22 (Operand.tmp 63) (Operand.tmp 65), type := 0, pos := "outright.go:76", after := #[{ on := 14, ground := Ground.data }, { on := 16, ground := Ground.data }, { on := 13, ground := Ground.guard }], guard := some (13, true) }) (v := undef) rfl (by kernel_rfl) (by kernel_rfl) (by kernel_rfl) (fun _ _ _ h => h) (Or.inr ⟨by rfl, rfl⟩) hHeld ?_
                (try simp only [Act.put, List.setIfInBounds_toArray, List.set_cons_zero, List.set_cons_succ])
                refine wpAnyH_take (i := 18) (oi := { dst := some 67, op := Op.fieldAddr 43 (Operand.tmp 66) 0, type := 0, pos := "outright.go:76", after := #[{ on := 17, ground := Ground.data }, { on := 13, ground := Ground.guard }], guard := some (13, true) }) (v := undef) rfl (by kernel_rfl) (by kernel_rfl) (by kernel_rfl) (fun _ _ _ h => h) (Or.inr ⟨by rfl, rfl⟩) hHeld ?_
                (try simp only [Act.put, List.setIfInBounds_toArray, List.set_cons_zero, List.set_cons_succ])
                refine wpAnyH_take (i := 19) (oi := { dst := some 68, op := Op.load 9 (Operand.tmp 67), type := 9, pos := "outright.go:76", after := #[{ on := 18, ground := Ground.data }, { on := 13, ground := Ground.guard }], guard := some (13, true) }) (v := undef) rfl (by kernel_rfl) (by kernel_rfl) (by kernel_rfl) (fun _ _ _ h => h) (Or.inr ⟨by rfl, rfl⟩) hHeld ?_
                (try simp only [Act.put, List.setIfInBounds_toArray, List.set_cons_zero, List.set_cons_succ])
                refine wpAnyH_take (i := 20) (oi := { dst := some 69, op := Op.fieldAddr 43 (Operand.tmp 11) 0, type := 0, pos := "outright.go:76", after := #[{ on := 13, ground := Ground.guard }], guard := some (13, true) }) (v := undef) rfl (by kernel_rfl) (by kernel_rfl) (by kernel_rfl) (fun _ _ _ h => h) (Or.inr ⟨by rfl, rfl⟩) hHeld ?_
                (try simp only [Act.put, List.setIfInBounds_toArray, List.set_cons_zero, List.set_cons_succ])
                refine wpAnyH_take (i := 21) (oi := { dst := some 70, op := Op.load 9 (Operand.tmp 69), type := 9, pos := "outright.go:76", after := #[{ on := 20, ground := Ground.data }, { on := 13, ground := Ground.guard }], guard := some (13, true) }) (v := undef) rfl (by kernel_rfl) (by kernel_rfl) (by kernel_rfl) (fun _ _ _ h => h) (Or.inr ⟨by rfl, rfl⟩) hHeld ?_
                (try simp only [Act.put, List.setIfInBounds_toArray, List.set_cons_zero, List.set_cons_succ])
                refine wpAnyH_take (i := 22) (oi := { dst := some 71, op := Op.call { callee := Callee.value (Operand.func 15), args := #[Operand.tmp 68, Operand.tmp 70], argTypes := #[9, 9] }, type := 3, pos := "outright.go:76", after := #[{ on := 19, ground := Ground.data }, { on := 21, ground := Ground.data }, { on := 13, ground := Ground.chain }, { on := 13, ground := Ground.guard }], guard := some (13, true) }) (v := undef) rfl (by kernel_rfl) (by kernel_rfl) (by kernel_rfl) (fun _ _ _ h => h) (Or.inr ⟨by rfl, rfl⟩) hHeld ?_
                (try simp only [Act.put, List.setIfInBounds_toArray, List.set_cons_zero, List.set_cons_succ])
                refine wpAnyH_take (i := 23) (oi := { dst := some 72, op := Op.binOp BinOp.geq 3 (Operand.tmp 71) (Operand.const (Value.int IntKind.i64 0)) 3, type := 4, pos := "outright.go:76", after := #[{ on := 22, ground := Ground.data }, { on := 13, ground := Ground.guard }], guard := some (13, true) }) (v := undef) rfl (by kernel_rfl) (by kernel_rfl) (by kernel_rfl) (fun _ _ _ h => h) (Or.inr ⟨by rfl, rfl⟩) hHeld ?_
                (try simp only [Act.put, List.setIfInBounds_toArray, List.set_cons_zero, List.set_cons_succ])
                refine wpAnyH_take (i := 24) (oi := { dst := some 73, op := Op.pick (Operand.tmp 62) (Operand.tmp 72) (Operand.const (Value.bool false)), type := 4, pos := "outright.go:76", after := #[{ on := 13, ground := Ground.data }, { on := 23, ground := Ground.data }, { on := 10, ground := Ground.guard }], guard := some (10, false) }) (v := ?_) rfl (by kernel_rfl) (by kernel_rfl) (by kernel_rfl) (fun _ _ _ h => h) (Or.inl ⟨by rfl, ?_⟩) hHeld ?_
                rotate_left
                · (intro w hSw; have p0 := (HS.out w hSw).1; have p2 := (HS.out w hSw).2; go_simp; try with_reducible rfl)
                (try simp only [Act.put, List.setIfInBounds_toArray, List.set_cons_zero, List.set_cons_succ])
                refine wpAnyH_take (i := 25) (oi := { dst := some 74, op := Op.pick (Operand.tmp 59) (Operand.const (Value.bool true)) (Operand.tmp 73), type := 4, pos := "outright.go:76", after := #[{ on := 10, ground := Ground.data }, { on := 24, ground := Ground.data }], guard := none }) (v := ?_) rfl (by kernel_rfl) (by kernel_rfl) (by kernel_rfl) (fun _ _ _ h => h) (Or.inl ⟨by rfl, ?_⟩) hHeld ?_
                rotate_left
                · (intro w hSw; have p0 := (HS.out w hSw).1; have p2 := (HS.out w hSw).2; go_simp; try with_reducible rfl)
                (try simp only [Act.put, List.setIfInBounds_toArray, List.set_cons_zero, List.set_cons_succ])
                refine wpAnyH_done (by kernel_rfl) ?_ _
                first | refine hK2 _ _ (Met.intro (hJ _ _ ?_)) | refine Met.intro (hJ _ _ ?_)
                (repeat apply Exists.intro)
                refine ⟨?_, rfl⟩
                exact ⟨rfl, Lib.hid hHeld⟩
            · obtain ⟨j, rfl⟩ : ∃ j, k = j + 1 := ⟨k - 1, by omega⟩
              have tk : decide (((j + 1 : Nat) : Int) > 0) = true := decide_eq_true (by omega)
              obtain ⟨y, hy⟩ : ∃ y, (clsL L)[j]? = some y := ⟨_, List.getElem?_eq_getElem (by rw [← HNN.out]; omega)⟩
              have HYM : Hid (y ∈ clsL L) := Lib.hid (List.mem_of_getElem? hy)
              have HYL : Hid ((⟨y.p.toArray⟩ : ByteArray).size ≤ 140737488355328) := Lib.hid (by
                have := okRs_path HOK.out (cls_path HYM.out)
                show y.p.toArray.size ≤ _
                rw [List.size_toArray]
                omega)
              obtain ⟨zc, hzc⟩ : ∃ z, z = Pt.cmpL y.p x.p := ⟨_, rfl⟩
              have HZC : Hid (Pt.cmpL y.p x.p = zc) := Lib.hid hzc.symm
              have tz : decide (zc ≥ 0) = false := decide_eq_false (by have := cls_rise hy HX.out; omega)
              have HSP : Hid (∀ W, Below w5.heap.size w5 W → W.cell? ⟨gC, j * 3, none⟩ = some (.string ⟨y.p.toArray⟩)) := Lib.hid (fun W hW => by
                obtain ⟨_, _, h0, _⟩ := HCE.out W (bch HB5.out hW) j y hy
                exact h0)
              have j1 : IntKind.i64.wrap (((j + 1 : Nat) : Int) - 1) = (j : Int) := by rw [IntWalk.i64_in _ (by omega)]; omega
              have j1' : IntKind.i64.wrap (j : Int) = (j : Int) := IntWalk.i64_in _ (by omega)
              have j1'' : IntKind.i64.wrap ((j : Int) + 1 - 1) = (j : Int) := by rw [IntWalk.i64_in _ (by omega)]; omega
              have j2 : (0 : Int) ≤ (j : Int) := by omega
              have j3 : (j : Int) < (nn : Int) := by omega
              clear hy hzc
              obtain ⟨v0, hv0⟩ : ∃ q, q = World.drew w5 := ⟨_, rfl⟩
              refine wp_region_held_drew (S := fun w' => Below w5.heap.size w5 w') (by kernel_rfl) (below_drewN (Below.refl _ _) 1) (fun hHeld => ?_)
              rw [← hv0] at hHeld ⊢
              clear hv0
              refine wpAnyH_take (i := 0) (oi := { dst := some 49, op := Op.fieldAddr 43 (Operand.tmp 11) 2, type := 0, pos := "outright.go:76", after := #[], guard := none }) (v := ?_) rfl (by kernel_rfl) (by kernel_rfl) (by kernel_rfl) (fun _ _ _ h => h) (Or.inl ⟨by rfl, ?_⟩) hHeld ?_
              rotate_left
              · (intro w hSw; have p0 := (HS.out w hSw).1; have p2 := (HS.out w hSw).2; have p3 := HSP.out w hSw; go_simp; try with_reducible rfl)
              (try simp only [Act.put, List.setIfInBounds_toArray, List.set_cons_zero, List.set_cons_succ])
              refine wpAnyH_take (i := 1) (oi := { dst := some 50, op := Op.load 41 (Operand.tmp 49), type := 41, pos := "outright.go:76", after := #[{ on := 0, ground := Ground.data }], guard := none }) (v := ?_) rfl (by kernel_rfl) (by kernel_rfl) (by kernel_rfl) (fun _ _ _ h => h) (Or.inl ⟨by rfl, ?_⟩) hHeld ?_
              rotate_left
              · (intro w hSw; have p0 := (HS.out w hSw).1; have p2 := (HS.out w hSw).2; have p3 := HSP.out w hSw; go_simp; try with_reducible rfl)
              (try simp only [Act.put, List.setIfInBounds_toArray, List.set_cons_zero, List.set_cons_succ])
              refine wpAnyH_take (i := 2) (oi := { dst := some 51, op := Op.call { callee := Callee.builtin Builtin.len, args := #[Operand.tmp 50], argTypes := #[41] }, type := 3, pos := "outright.go:76", after := #[{ on := 1, ground := Ground.data }], guard := none }) (v := ?_) rfl (by kernel_rfl) (by kernel_rfl) (by kernel_rfl) (fun _ _ _ h => h) (Or.inl ⟨by rfl, ?_⟩) hHeld ?_
              rotate_left
              · (intro w hSw; have p0 := (HS.out w hSw).1; have p2 := (HS.out w hSw).2; have p3 := HSP.out w hSw; go_simp; try with_reducible rfl)
              (try simp only [Act.put, List.setIfInBounds_toArray, List.set_cons_zero, List.set_cons_succ])
              refine wpAnyH_take (i := 3) (oi := { dst := some 52, op := Op.binOp BinOp.eql 3 (Operand.tmp 51) (Operand.const (Value.int IntKind.i64 0)) 3, type := 4, pos := "outright.go:76", after := #[{ on := 2, ground := Ground.data }], guard := none }) (v := ?_) rfl (by kernel_rfl) (by kernel_rfl) (by kernel_rfl) (fun _ _ _ h => h) (Or.inl ⟨by rfl, ?_⟩) hHeld ?_
              rotate_left
              · (intro w hSw; have p0 := (HS.out w hSw).1; have p2 := (HS.out w hSw).2; have p3 := HSP.out w hSw; go_simp; try with_reducible rfl)
              (try simp only [Act.put, List.setIfInBounds_toArray, List.set_cons_zero, List.set_cons_succ])
              refine wpAnyH_take (i := 4) (oi := { dst := some 53, op := Op.move (Operand.tmp 52), type := 4, pos := "outright.go:76", after := #[{ on := 3, ground := Ground.data }], guard := none }) (v := ?_) rfl (by kernel_rfl) (by kernel_rfl) (by kernel_rfl) (fun _ _ _ h => h) (Or.inl ⟨by rfl, ?_⟩) hHeld ?_
              rotate_left
              · (intro w hSw; have p0 := (HS.out w hSw).1; have p2 := (HS.out w hSw).2; have p3 := HSP.out w hSw; go_simp; try with_reducible rfl)
              (try simp only [Act.put, List.setIfInBounds_toArray, List.set_cons_zero, List.set_cons_succ])
              refine wpAnyH_take (i := 5) (oi := { dst := some 54, op := Op.fieldAddr 43 (Operand.tmp 11) 2, type := 0, pos := "outright.go:76", after := #[{ on := 4, ground := Ground.guard }], guard := some (4, false) }) (v := ?_) rfl (by kernel_rfl) (by kernel_rfl) (by kernel_rfl) (fun _ _ _ h => h) (Or.inl ⟨by rfl, ?_⟩) hHeld ?_
              rotate_left
              · (intro w hSw; have p0 := (HS.out w hSw).1; have p2 := (HS.out w hSw).2; have p3 := HSP.out w hSw; go_simp; try with_reducible rfl)
              (try simp only [Act.put, List.setIfInBounds_toArray, List.set_cons_zero, List.set_cons_succ])
              refine wpAnyH_take (i := 6) (oi := { dst := some 55, op := Op.load 41 (Operand.tmp 54), type := 41, pos := "outright.go:76", after := #[{ on := 5, ground := Ground.data }, { on := 4, ground := Ground.guard }], guard := some (4, false) }) (v := ?_) rfl (by kernel_rfl) (by kernel_rfl) (by kernel_rfl) (fun _ _ _ h => h) (Or.inl ⟨by rfl, ?_⟩) hHeld ?_
              rotate_left
              · (intro w hSw; have p0 := (HS.out w hSw).1; have p2 := (HS.out w hSw).2; have p3 := HSP.out w hSw; go_simp; try with_reducible rfl)
              (try simp only [Act.put, List.setIfInBounds_toArray, List.set_cons_zero, List.set_cons_succ])
              refine wpAnyH_ready (rs := [7]) (by kernel_rfl) (by simp) (AllReadyH.cons (o := { dst := some 56, op := Op.call { callee := Callee.value (Operand.func 14), args := #[Operand.tmp 55], argTypes := #[41] }, type := 4, pos := "outright.go:76", after := #[{ on := 6, ground := Ground.data }, { on := 4, ground := Ground.chain }, { on := 4, ground := Ground.guard }], guard := some (4, false) }) rfl (fun K hK => ?_) AllReadyH.nil)
              · go_simp
                go_wp2_with (go_at_call 14; refine (issorted_any _ _ _ (HRO.out.on hHeld) HSRT.out).mono ?_; rintro e w6 ⟨rfl, hb⟩)
                refine hK.out _ _ (bch hHeld hb) (fun hHeld => ?_)
                clear hb hK K
                (try simp only [Act.put, List.setIfInBounds_toArray, List.set_cons_zero, List.set_cons_succ])
                refine wpAnyH_take (i := 8) (oi := { dst := some 57, op := Op.unOp UnOp.not 4 (Operand.tmp 56), type := 4, pos := "outright.go:76", after := #[{ on := 7, ground := Ground.data }, { on := 4, ground := Ground.guard }], guard := some (4, false) }) (v := ?_) rfl (by kernel_rfl) (by kernel_rfl) (by kernel_rfl) (fun _ _ _ h => h) (Or.inl ⟨by rfl, ?_⟩) hHeld ?_
                rotate_left
                · (intro w hSw; have p0 := (HS.out w hSw).1; have p2 := (HS.out w hSw).2; have p3 := HSP.out w hSw; go_simp; try with_reducible rfl)
                (try simp only [Act.put, List.setIfInBounds_toArray, List.set_cons_zero, List.set_cons_succ])
                refine wpAnyH_take (i := 9) (oi := { dst := some 58, op := Op.pick (Operand.tmp 53) (Operand.const (Value.bool true)) (Operand.tmp 57), type := 4, pos := "outright.go:76", after := #[{ on := 4, ground := Ground.data }, { on := 8, ground := Ground.data }], guard := none }) (v := ?_) rfl (by kernel_rfl) (by kernel_rfl) (by kernel_rfl) (fun _ _ _ h => h) (Or.inl ⟨by rfl, ?_⟩) hHeld ?_
                rotate_left
                · (intro w hSw; have p0 := (HS.out w hSw).1; have p2 := (HS.out w hSw).2; have p3 := HSP.out w hSw; go_simp; try with_reducible rfl)
                (try simp only [Act.put, List.setIfInBounds_toArray, List.set_cons_zero, List.set_cons_succ])
                refine wpAnyH_take (i := 10) (oi := { dst := some 59, op := Op.move (Operand.tmp 58), type := 4, pos := "outright.go:76", after := #[{ on := 9, ground := Ground.data }, { on := 7, ground := Ground.chain }], guard := none }) (v := ?_) rfl (by kernel_rfl) (by kernel_rfl) (by kernel_rfl) (fun _ _ _ h => h) (Or.inl ⟨by rfl, ?_⟩) hHeld ?_
                rotate_left
                · (intro w hSw; have p0 := (HS.out w hSw).1; have p2 := (HS.out w hSw).2; have p3 := HSP.out w hSw; go_simp; try with_reducible rfl)
                (try simp only [Act.put, List.setIfInBounds_toArray, List.set_cons_zero, List.set_cons_succ])
                refine wpAnyH_take (i := 11) (oi := { dst := some 60, op := Op.move (Operand.tmp 10), type := 3, pos := "outright.go:76", after := #[{ on := 10, ground := Ground.guard }], guard := some (10, false) }) (v := ?_) rfl (by kernel_rfl) (by kernel_rfl) (by kernel_rfl) (fun _ _ _ h => h) (Or.inl ⟨by rfl, ?_⟩) hHeld ?_
                rotate_left
                · (intro w hSw; have p0 := (HS.out w hSw).1; have p2 := (HS.out w hSw).2; have p3 := HSP.out w hSw; go_simp; try with_reducible rfl)
                (try simp only [Act.put, List.setIfInBounds_toArray, List.set_cons_zero, List.set_cons_succ])
                refine wpAnyH_take (i := 12) (oi := { dst := some 61, op := Op.binOp BinOp.gtr 3 (Operand.tmp 60) (Operand.const (Value.int IntKind.i64 0)) 3, type := 4, pos := "outright.go:76", after := #[{ on := 11, ground := Ground.data }, { on := 10, ground := Ground.guard }], guard := some (10, false) }) (v := ?_) rfl (by kernel_rfl) (by kernel_rfl) (by kernel_rfl) (fun _ _ _ h => h) (Or.inl ⟨by rfl, ?_⟩) hHeld ?_
                rotate_left
                · (intro w hSw; have p0 := (HS.out w hSw).1; have p2 := (HS.out w hSw).2; have p3 := HSP.out w hSw; go_simp; try with_reducible rfl)
                (try simp only [Act.put, List.setIfInBounds_toArray, List.set_cons_zero, List.set_cons_succ])
                refine wpAnyH_take (i := 13) (oi := { dst := some 62, op := Op.move (Operand.tmp 61), type := 4, pos := "outright.go:76", after := #[{ on := 12, ground := Ground.data }, { on := 10, ground := Ground.chain }, { on := 10, ground := Ground.guard }], guard := some (10, false) }) (v := ?_) rfl (by kernel_rfl) (by kernel_rfl) (by kernel_rfl) (fun _ _ _ h => h) (Or.inl ⟨by rfl, ?_⟩) hHeld ?_
                rotate_left
                · (intro w hSw; have p0 := (HS.out w hSw).1; have p2 := (HS.out w hSw).2; have p3 := HSP.out w hSw; go_simp; try with_reducible rfl)
                (try simp only [Act.put, List.setIfInBounds_toArray, List.set_cons_zero, List.set_cons_succ])
                refine wpAnyH_take (i := 14) (oi := { dst := some 63, op := Op.move (Operand.tmp 6), type := 22, pos := "outright.go:76", after := #[{ on := 13, ground := Ground.guard }], guard := some (13, true) }) (v := ?_) rfl (by kernel_rfl) (by kernel_rfl) (by kernel_rfl) (fun _ _ _ h => h) (Or.inl ⟨by rfl, ?_⟩) hHeld ?_
                rotate_left
                · (intro w hSw; have p0 := (HS.out w hSw).1; have p2 := (HS.out w hSw).2; have p3 := HSP.out w hSw; go_simp; try with_reducible rfl)
                (try simp only [Act.put, List.setIfInBounds_toArray, List.set_cons_zero, List.set_cons_succ])
                refine wpAnyH_take (i := 15) (oi := { dst := some 64, op := Op.move (Operand.tmp 10), type := 3, pos := "outright.go:76", after := #[{ on := 13, ground := Ground.guard }], guard := some (13, true) }) (v := ?_) rfl (by kernel_rfl) (by kernel_rfl) (by kernel_rfl) (fun _ _ _ h => h) (Or.inl ⟨by rfl, ?_⟩) hHeld ?_
                rotate_left
                · (intro w hSw; have p0 := (HS.out w hSw).1; have p2 := (HS.out w hSw).2; have p3 := HSP.out w hSw; go_simp; try with_reducible rfl)
                (try simp only [Act.put, List.setIfInBounds_toArray, List.set_cons_zero, List.set_cons_succ])
                refine wpAnyH_take (i := 16) (oi := { dst := some 65, op := Op.binOp BinOp.sub 3 (Operand.tmp 64) (Operand.const (Value.int IntKind.i64 1)) 3, type := 3, pos := "outright.go:76", after := #[{ on := 15, ground := Ground.data }, { on := 13, ground := Ground.guard }], guard := some (13, true) }) (v := ?_) rfl (by kernel_rfl) (by kernel_rfl) (by kernel_rfl) (fun _ _ _ h => h) (Or.inl ⟨by rfl, ?_⟩) hHeld ?_
                rotate_left
                · (intro w hSw; have p0 := (HS.out w hSw).1; have p2 := (HS.out w hSw).2; have p3 := HSP.out w hSw; go_simp; try with_reducible rfl)
                (try simp only [Act.put, List.setIfInBounds_toArray, List.set_cons_zero, List.set_cons_succ])
                refine wpAnyH_take (i := 17) (oi := { dst := some 66, op := Op.indexAddr 22 (Operand.tmp 63) (Operand.tmp 65), type := 0, pos := "outright.go:76", after := #[{ on := 14, ground := Ground.data }, { on := 16, ground := Ground.data }, { on := 13, ground := Ground.guard }], guard := some (13, true) }) (v := ?_) rfl (by kernel_rfl) (by kernel_rfl) (by kernel_rfl) (fun _ _ _ h => h) (Or.inl ⟨by rfl, ?_⟩) hHeld ?_
                rotate_left
                · (intro w hSw; have p0 := (HS.out w hSw).1; have p2 := (HS.out w hSw).2; have p3 := HSP.out w hSw; go_simp; try with_reducible rfl)
                (try simp only [Act.put, List.setIfInBounds_toArray, List.set_cons_zero, List.set_cons_succ])
                refine wpAnyH_take (i := 18) (oi := { dst := some 67, op := Op.fieldAddr 43 (Operand.tmp 66) 0, type := 0, pos := "outright.go:76", after := #[{ on := 17, ground := Ground.data }, { on := 13, ground := Ground.guard }], guard := some (13, true) }) (v := ?_) rfl (by kernel_rfl) (by kernel_rfl) (by kernel_rfl) (fun _ _ _ h => h) (Or.inl ⟨by rfl, ?_⟩) hHeld ?_
                rotate_left
                · (intro w hSw; have p0 := (HS.out w hSw).1; have p2 := (HS.out w hSw).2; have p3 := HSP.out w hSw; go_simp; try with_reducible rfl)
                (try simp only [Act.put, List.setIfInBounds_toArray, List.set_cons_zero, List.set_cons_succ])
                refine wpAnyH_take (i := 19) (oi := { dst := some 68, op := Op.load 9 (Operand.tmp 67), type := 9, pos := "outright.go:76", after := #[{ on := 18, ground := Ground.data }, { on := 13, ground := Ground.guard }], guard := some (13, true) }) (v := ?_) rfl (by kernel_rfl) (by kernel_rfl) (by kernel_rfl) (fun _ _ _ h => h) (Or.inl ⟨by rfl, ?_⟩) hHeld ?_
                rotate_left
                · (intro w hSw; have p0 := (HS.out w hSw).1; have p2 := (HS.out w hSw).2; have p3 := HSP.out w hSw; go_simp; try with_reducible rfl)
                (try simp only [Act.put, List.setIfInBounds_toArray, List.set_cons_zero, List.set_cons_succ])
                refine wpAnyH_take (i := 20) (oi := { dst := some 69, op := Op.fieldAddr 43 (Operand.tmp 11) 0, type := 0, pos := "outright.go:76", after := #[{ on := 13, ground := Ground.guard }], guard := some (13, true) }) (v := ?_) rfl (by kernel_rfl) (by kernel_rfl) (by kernel_rfl) (fun _ _ _ h => h) (Or.inl ⟨by rfl, ?_⟩) hHeld ?_
                rotate_left
                · (intro w hSw; have p0 := (HS.out w hSw).1; have p2 := (HS.out w hSw).2; have p3 := HSP.out w hSw; go_simp; try with_reducible rfl)
                (try simp only [Act.put, List.setIfInBounds_toArray, List.set_cons_zero, List.set_cons_succ])
                refine wpAnyH_take (i := 21) (oi := { dst := some 70, op := Op.load 9 (Operand.tmp 69), type := 9, pos := "outright.go:76", after := #[{ on := 20, ground := Ground.data }, { on := 13, ground := Ground.guard }], guard := some (13, true) }) (v := ?_) rfl (by kernel_rfl) (by kernel_rfl) (by kernel_rfl) (fun _ _ _ h => h) (Or.inl ⟨by rfl, ?_⟩) hHeld ?_
                rotate_left
                · (intro w hSw; have p0 := (HS.out w hSw).1; have p2 := (HS.out w hSw).2; have p3 := HSP.out w hSw; go_simp; try with_reducible rfl)
                (try simp only [Act.put, List.setIfInBounds_toArray, List.set_cons_zero, List.set_cons_succ])
                refine wpAnyH_ready (rs := [22]) (by kernel_rfl) (by simp) (AllReadyH.cons (o := { dst := some 71, op := Op.call { callee := Callee.value (Operand.func 15), args := #[Operand.tmp 68, Operand.tmp 70], argTypes := #[9, 9] }, type := 3, pos := "outright.go:76", after := #[{ on := 19, ground := Ground.data }, { on := 21, ground := Ground.data }, { on := 13, ground := Ground.chain }, { on := 13, ground := Ground.guard }], guard := some (13, true) }) rfl (fun K hK => ?_) AllReadyH.nil)
                · go_simp
                  go_wp2_with (go_at_call 15; refine (Pt.cmp_any ⟨y.p.toArray⟩ ⟨x.p.toArray⟩ HYL.out HXL.out _).mono ?_; rintro e w7 ⟨rfl, hb⟩; rw [show Pt.cmpL (⟨y.p.toArray⟩ : ByteArray).data.toList (⟨x.p.toArray⟩ : ByteArray).data.toList = zc from HZC.out])
                  refine hK.out _ _ (bch hHeld hb) (fun hHeld => ?_)
                  clear hb hK K
                  (try simp only [Act.put, List.setIfInBounds_toArray, List.set_cons_zero, List.set_cons_succ])
                  refine wpAnyH_take (i := 23) (oi := { dst := some 72, op := Op.binOp BinOp.geq 3 (Operand.tmp 71) (Operand.const (Value.int IntKind.i64 0)) 3, type := 4, pos := "outright.go:76", after := #[{ on := 22, ground := Ground.data }, { on := 13, ground := Ground.guard }], guard := some (13, true) }) (v := ?_) rfl (by kernel_rfl) (by kernel_rfl) (by kernel_rfl) (fun _ _ _ h => h) (Or.inl ⟨by rfl, ?_⟩) hHeld ?_
                  rotate_left
                  · (intro w hSw; have p0 := (HS.out w hSw).1; have p2 := (HS.out w hSw).2; have p3 := HSP.out w hSw; go_simp; try with_reducible rfl)
                  (try simp only [Act.put, List.setIfInBounds_toArray, List.set_cons_zero, List.set_cons_succ])
                  refine wpAnyH_take (i := 24) (oi := { dst := some 73, op := Op.pick (Operand.tmp 62) (Operand.tmp 72) (Operand.const (Value.bool false)), type := 4, pos := "outright.go:76", after := #[{ on := 13, ground := Ground.data }, { on := 23, ground := Ground.data }, { on := 10, ground := Ground.guard }], guard := some (10, false) }) (v := ?_) rfl (by kernel_rfl) (by kernel_rfl) (by kernel_rfl) (fun _ _ _ h => h) (Or.inl ⟨by rfl, ?_⟩) hHeld ?_
                  rotate_left
                  · (intro w hSw; have p0 := (HS.out w hSw).1; have p2 := (HS.out w hSw).2; have p3 := HSP.out w hSw; go_simp; try with_reducible rfl)
                  (try simp only [Act.put, List.setIfInBounds_toArray, List.set_cons_zero, List.set_cons_succ])
                  refine wpAnyH_take (i := 25) (oi := { dst := some 74, op := Op.pick (Operand.tmp 59) (Operand.const (Value.bool true)) (Operand.tmp 73), type := 4, pos := "outright.go:76", after := #[{ on := 10, ground := Ground.data }, { on := 24, ground := Ground.data }], guard := none }) (v := ?_) rfl (by kernel_rfl) (by kernel_rfl) (by kernel_rfl) (fun _ _ _ h => h) (Or.inl ⟨by rfl, ?_⟩) hHeld ?_
                  rotate_left
                  · (intro w hSw; have p0 := (HS.out w hSw).1; have p2 := (HS.out w hSw).2; have p3 := HSP.out w hSw; go_simp; try with_reducible rfl)
                  (try simp only [Act.put, List.setIfInBounds_toArray, List.set_cons_zero, List.set_cons_succ])
                  refine wpAnyH_done (by kernel_rfl) ?_ _
                  first | refine hK2 _ _ (Met.intro (hJ _ _ ?_)) | refine Met.intro (hJ _ _ ?_)
                  (repeat apply Exists.intro)
                  refine ⟨?_, rfl⟩
                  exact ⟨rfl, Lib.hid hHeld⟩
          case rest =>
          obtain ⟨rfl, HBX⟩ := hcut
          have hxl : (⟨x.p.toArray⟩ : ByteArray).size ≤ 140737488355328 := HXL.out
          have q0 := (HS.out wc HBX.out).1
          cases hu : Pt.underB x.p p with
          | false =>
            have HU := Lib.hid hu
            clear hu
            go_wp2_with (go_at_call 16; refine (Pt.under_any ⟨x.p.toArray⟩ ⟨p.toArray⟩ HXL.out HPLN.out _).mono ?_; rintro e w7 ⟨rfl, hb⟩; rw [show Pt.underB (⟨x.p.toArray⟩ : ByteArray).data.toList (⟨p.toArray⟩ : ByteArray).data.toList = false from HU.out]; have HB7 := Lib.hid (bch (bch HB5.out HBX.out) hb); clear hb)
            go_roundw
            case rel => exact ⟨k + 1, by omega, by go_num, HB7⟩
            case measure => simp [Lib.intOf]; omega
          | true =>
            have HU := Lib.hid hu
            have hown : x.own = [o1] := by
              rw [clsL_at HXM.out]
              exact alone_beneath HOK.out HO1.out ((pathsS_mem _ _).1 (cls_path HXM.out)) hu
            have HAX : Hid (aloneR L x.p = ((o1 : Int), true)) := Lib.hid (by
              unfold aloneR
              rw [if_pos HZ0.out]
              exact find_one (by have h9 := congrArg Cl.own (clsL_at HXM.out); rw [hown] at h9; exact h9.symm))
            have HOWN : Hid (x.own.map (fun (n : Nat) => (n : Int)) = [(o1 : Int)]) := Lib.hid (by rw [hown]; rfl)
            have hxn : nx = 1 := by rw [HNX.out, hown]; rfl
            subst hxn
            have q0 := (HS.out wc HBX.out).1
            have q2 := (HS.out wc HBX.out).2
            have t9 : ((o1 : Int) != (o1 : Int)) = false := by simp
            clear hu hown
            go_upto_region 14 with (go_at_call 16; refine (Pt.under_any ⟨x.p.toArray⟩ ⟨p.toArray⟩ HXL.out HPLN.out _).mono ?_; rintro e w7 ⟨rfl, hb⟩; rw [show Pt.underB (⟨x.p.toArray⟩ : ByteArray).data.toList (⟨p.toArray⟩ : ByteArray).data.toList = true from HU.out]; have HB7 := Lib.hid hb; clear hb)
            have HBX7 := Lib.hid (bch HBX.out HB7.out)
            have q0 := (HS.out w7 HBX7.out).1
            have HB57 := Lib.hid (bch HB5.out HBX7.out)
            go_upto_region 15 with (go_at_call 13; refine (alone_any L x.p _ _ (HOL3.out.on HB57.out)).mono ?_; rintro e w8 ⟨rfl, hb⟩; rw [HAX.out]; have HB8 := Lib.hid hb; clear hb)
            have HBX8 := Lib.hid (bch HBX7.out HB8.out)
            have q2 := (HS.out w8 HBX8.out).2
            have HR8 := Lib.hid (HRO.out.on HBX8.out)
            rw [HOWN.out] at HR8
            go_wp2_with (go_at_call 17; refine (eqi_all [(o1 : Int)] [(o1 : Int)] _ _ _ (HR8.out.on (below_new _ _)) (rd_new _ [(o1 : Int)] (by simp))).mono ?_; rintro e w9 ⟨rfl, hb⟩; have HB9 := Lib.hid (bch (bch (bch HB5.out HBX8.out) (below_new _ _)) hb); clear hb)
            go_roundw
            case rel => exact ⟨k + 1, by omega, by go_num, HB9⟩
            case measure => simp [Lib.intOf]; omega
        · have k1 : ¬ ((k : Int) < (nn : Int)) := by omega
          go_wp2_with fail
          go_ret
          exact ⟨rfl, bch HB13.out HB.out⟩
  · have t1 : (chkR L != 0) = true := by simpa using hz
    have HZ := Lib.hid hz
    have HAR : Hid (aloneR L p = (0, false)) := Lib.hid (by unfold aloneR; rw [if_neg hz])
    clear hz
    have HOL3 : Hid (∀ W, Below w2.heap.size w2 W → RdRs W (.slice aL nL cL) L) := Lib.hid (fun W hW => HOL.out.on hW)
    go_wp2_with (first
      | (go_at_call 12; refine (of_any L _ _ HOL.out).mono ?_; rintro e w3 ⟨v3, rfl, hb, h1, h2⟩; obtain rfl := h1 HZ.out; have HB3 := Lib.hid hb; clear hb h1 h2)
      | (go_at_call 13; refine (alone_any L p _ _ (HOL3.out _ HB3.out)).mono ?_; rintro e w4 ⟨rfl, hb⟩; rw [HAR.out]; have HB4 := Lib.hid (bch HB3.out hb); clear hb))
    go_ret
    exact ⟨rfl, bch HB12.out HB4.out⟩
end Go.Proofs.Ytgmplpfbhcdofaa
