/- Proved here: wakes of puncheonlaw16 answers true. -/
import Derived.Test.YtgmplpfbhcdofaaGreatKSmall
import Derived.Deep.DeepCutAuto
namespace Go.Proofs.YtgmplpfbhcdofaaGreat
open Go.RowKit Go.Shelf Go.Lib
attribute [local go_sem] Oper.semAt_some

theorem own_low {w : World} {B B' n sz : Nat} {e : TypeId} {v : Value} {xs : List Value} (h : w.ownsRow B e sz v n xs) (hb : B' ≤ B) : w.ownsRow B' e sz v n xs := by
  refine ⟨h.1, h.2.imp id ?_⟩
  rintro ⟨g, cap, cur, r1, r2, r3⟩
  exact ⟨g, cap, cur, r1, Nat.le_trans hb r2, r3⟩
theorem at0 {v : List Nat} {w : World} {B : Nat} {ov : Value} (h : w.ownsRow B 3 1 ov v.length (natsV v)) : Rd w ov (intsV (v.map (fun (n : Nat) => (n : Int)))) := by
  have := Rd.of_own h
  have e : intsV (v.map (fun (n : Nat) => (n : Int))) = natsV v := by simp [intsV, natsV]
  rw [e]
  exact this
theorem uniFl : uniI ([[3, 1, 3], [2]] : List (List Int)).flatten = [1, 2, 3] := uni312
theorem rd_new (w : World) (l : List Int) (hl : l.length ≤ 1000000) : Rd (w.alloc (.cells (intsV l).toArray 3)) (.slice (some ⟨w.heap.size, 0, none⟩) l.length l.length) (intsV l) := by
  have hb : Box (w.alloc (.cells (intsV l).toArray 3)) w.heap.size 3 (intsV l).toArray := heap_alloc_new w _
  refine ⟨_, _, by rw [intsV_len], by rw [intsV_len]; exact Nat.le_refl _, by unfold maxLen; omega, (by simp), fun _ => ⟨w.heap.size, 0, rfl, hb.lt, fun j u hu => ?_⟩⟩
  rw [Nat.zero_add]
  exact hb.cell (by simpa using hu)
theorem rds_new (w : World) (l : List Bs) (hl : l.length ≤ 1000000) : Rd (w.alloc (.cells (l.map encStr).toArray 9)) (.slice (some ⟨w.heap.size, 0, none⟩) l.length l.length) (l.map encStr) := by
  have hb : Box (w.alloc (.cells (l.map encStr).toArray 9)) w.heap.size 9 (l.map encStr).toArray := heap_alloc_new w _
  refine ⟨_, _, by rw [List.length_map], by rw [List.length_map]; exact Nat.le_refl _, by unfold maxLen; omega, (by simp), fun _ => ⟨w.heap.size, 0, rfl, hb.lt, fun j u hu => ?_⟩⟩
  rw [Nat.zero_add]
  exact hb.cell (by simpa using hu)
theorem rd_vals {w : World} {g : Nat} {t : TypeId} {x y : Value} (h : Box w g t #[x, y]) : Rd w (.slice (some ⟨g, 0, none⟩) 2 2) [x, y] :=
  ⟨_, _, rfl, Nat.le_refl _, by unfold maxLen; decide, (by simp), fun _ => ⟨g, 0, rfl, h.lt, fun j u hu => by rw [Nat.zero_add]; exact h.cell (by simpa using hu)⟩⟩
theorem rdr_two (w : World) (l m : List Int) (hl : l.length ≤ 1000000) (hm : m.length ≤ 1000000) :
    RdR (((w.alloc (.cells (intsV l).toArray 3)).alloc (.cells (intsV m).toArray 3)).alloc (.cells #[.slice (some ⟨w.heap.size, 0, none⟩) l.length l.length, .slice (some ⟨w.heap.size + 1, 0, none⟩) m.length m.length] 22)) (.slice (some ⟨w.heap.size + 1 + 1, 0, none⟩) 2 2) ([l, m].map intsV) := by
  have h1 := rd_new w l hl
  have h2 := rd_new (w.alloc (.cells (intsV l).toArray 3)) m hm
  rw [World.size_alloc] at h2
  have b2 := below_new (w.alloc (.cells (intsV l).toArray 3)) (.cells (intsV m).toArray 3)
  have b3 := below_new ((w.alloc (.cells (intsV l).toArray 3)).alloc (.cells (intsV m).toArray 3)) (.cells #[.slice (some ⟨w.heap.size, 0, none⟩) l.length l.length, .slice (some ⟨w.heap.size + 1, 0, none⟩) m.length m.length] 22)
  have hX : Box (((w.alloc (.cells (intsV l).toArray 3)).alloc (.cells (intsV m).toArray 3)).alloc (.cells #[.slice (some ⟨w.heap.size, 0, none⟩) l.length l.length, .slice (some ⟨w.heap.size + 1, 0, none⟩) m.length m.length] 22)) (w.heap.size + 1 + 1) 22 #[.slice (some ⟨w.heap.size, 0, none⟩) l.length l.length, .slice (some ⟨w.heap.size + 1, 0, none⟩) m.length m.length] := by
    have := @box_new ((w.alloc (.cells (intsV l).toArray 3)).alloc (.cells (intsV m).toArray 3)) 22 #[.slice (some ⟨w.heap.size, 0, none⟩) l.length l.length, .slice (some ⟨w.heap.size + 1, 0, none⟩) m.length m.length]
    rw [World.size_alloc, World.size_alloc] at this
    exact this
  refine ⟨_, rd_vals hX, rfl, fun i x r hx hr => ?_⟩
  match i, hx, hr with
  | 0, hx, hr =>
    simp at hx hr
    subst hx hr
    exact (h1.on b2).on b3
  | 1, hx, hr =>
    simp at hx hr
    subst hx hr
    exact h2.on b3
set_option maxRecDepth 100000 in
set_option maxHeartbeats 8000000 in
theorem wakes_any (w : World) : Calls Tryz.prog 6 #[] w fun e w' => e = .returned (.bool true) ∧ Below w.heap.size w w' := by
  go_enter Tryz.func6, Tryz.ntmps6
  go_upto_region 2 with (first
    | (go_at_call 24; refine (small_any _).mono ?_; rintro e w1 ⟨v1, rfl, hr, hb⟩; have HR1 := Lib.hid hr; have HB1 := Lib.hid hb; clear hr hb)
    | (go_at_call 11; refine (of_any [rowA, rowB] _ _ HR1.out).mono ?_; rintro e w2 ⟨v2, rfl, hb, h1, h2⟩; have HC2 := Lib.hid (h2 (chkR_ok okAB)); have HB2 := Lib.hid (bch HB1.out hb); rw [chkR_ok okAB]; clear hb h1 h2))
  obtain ⟨z, hz1, hz2, hz3⟩ := HC2.out
  rw [clsAB] at hz2
  obtain ⟨a2, c2, rfl⟩ := own_slice hz2
  have HZ1 := Lib.hid hz1
  have HZ2 := Lib.hid hz2
  clear hz1 hz2 hz3 HR1 HC2
  obtain ⟨w2x, hw2x⟩ : ∃ q, q = w2 := ⟨_, rfl⟩
  go_cut [3, 4] (fun p3 p4 wx => ∃ a c, p3 = .slice a 1 c ∧ p4 = .int .i64 0 ∧ Hid (wx.ownsRow w2.heap.size 9 1 (.slice a 1 c) 1 [encStr [47, 120, 47, 102]]) ∧ Hid (Below w2.heap.size w2 wx))
  case first =>
    rename_i J2 K2 hJ hK2
    obtain ⟨v0, hv0⟩ : ∃ q, q = World.drew w2 := ⟨_, rfl⟩
    refine wp_region_held_drew (S := fun w' => Below w2.heap.size w2 w') (by kernel_rfl) (below_drewN (Below.refl _ _) 1) (fun hHeld => ?_)
    rw [← hv0] at hHeld ⊢
    clear hv0 hw2x
    refine wpAnyH_ready (rs := [0]) (by kernel_rfl) (by simp) (AllReadyH.cons (o := { dst := some 13, op := Op.call { callee := Callee.value (Operand.func 24), args := #[], argTypes := #[] }, type := 29, pos := "law.go:20", after := #[], guard := none }) rfl (fun K hK => ?_) AllReadyH.nil)
    · go_simp
      go_wp2_with (go_at_call 24; refine (small_any _).mono ?_; rintro e wa ⟨va, rfl, hr, hb⟩)
      obtain ⟨_, ca, rfl, _, _, hc⟩ := id hr
      obtain ⟨ga, oa, rfl, hga, hd⟩ := hc (by decide)
      obtain ⟨xa, hx, hl⟩ := hd 0 rowA rfl
      obtain ⟨axa, cxa, rfl⟩ := hl.slice
      have Ha : Hid (∀ W, Below wa.heap.size wa W → W.cell? ⟨ga, oa, none⟩ = some (.slice axa 2 cxa) ∧ RdL W (.slice axa 2 cxa) rowA) := Lib.hid (fun W hW => ⟨(hW.cell (p := ⟨ga, _, none⟩) hga).trans hx, hl.on hW⟩)
      have Ba : Hid (Below wa.heap.size wa wa) := Lib.hid (Below.refl _ _)
      clear hr hc hd hx hl hga
      refine hK.out _ _ (bch hHeld hb) (fun hHeld => ?_)
      clear hb hK K
      (try simp only [Act.put, List.setIfInBounds_toArray, List.set_cons_zero, List.set_cons_succ])
      refine wpAnyH_take (i := 1) (oi := { dst := some 14, op := Op.indexAddr 29 (Operand.tmp 13) (Operand.const (Value.int IntKind.i64 0)), type := 0, pos := "law.go:20", after := #[{ on := 0, ground := Ground.data }], guard := none }) (v := ?_) rfl (by kernel_rfl) (by kernel_rfl) (by kernel_rfl) (fun _ _ _ h => h) (Or.inl ⟨by rfl, ?_⟩) hHeld ?_
      rotate_left
      · (intro w hSw; go_simp; try with_reducible rfl)
      (try simp only [Act.put, List.setIfInBounds_toArray, List.set_cons_zero, List.set_cons_succ])
      refine wpAnyH_ready (rs := [2, 3]) (by kernel_rfl) (by simp) (AllReadyH.cons (o := { dst := some 15, op := Op.load 52 (Operand.tmp 14), type := 52, pos := "law.go:20", after := #[{ on := 1, ground := Ground.data }], guard := none }) rfl (fun K hK => ?_) (AllReadyH.cons (o := { dst := some 16, op := Op.call { callee := Callee.value (Operand.func 24), args := #[], argTypes := #[] }, type := 29, pos := "law.go:20", after := #[{ on := 0, ground := Ground.chain }], guard := none }) rfl (fun K hK => ?_) AllReadyH.nil))
      · have p0 := (Ha.out wa Ba.out).1
        go_simp
        refine hK.out _ _ hHeld (fun hHeld => ?_)
        clear p0 hK K
        (try simp only [Act.put, List.setIfInBounds_toArray, List.set_cons_zero, List.set_cons_succ])
        refine wpAnyH_ready (rs := [3]) (by kernel_rfl) (by simp) (AllReadyH.cons (o := { dst := some 16, op := Op.call { callee := Callee.value (Operand.func 24), args := #[], argTypes := #[] }, type := 29, pos := "law.go:20", after := #[{ on := 0, ground := Ground.chain }], guard := none }) rfl (fun K hK => ?_) AllReadyH.nil)
        · go_simp
          go_wp2_with (go_at_call 24; refine (small_any _).mono ?_; rintro e wb ⟨vb, rfl, hr, hb⟩)
          obtain ⟨_, cb, rfl, _, _, hc⟩ := id hr
          obtain ⟨gb, ob, rfl, hgb, hd⟩ := hc (by decide)
          obtain ⟨xb, hx, hl⟩ := hd 0 rowA rfl
          obtain ⟨axb, cxb, rfl⟩ := hl.slice
          have Hb : Hid (∀ W, Below wb.heap.size wb W → W.cell? ⟨gb, ob, none⟩ = some (.slice axb 2 cxb) ∧ RdL W (.slice axb 2 cxb) rowA) := Lib.hid (fun W hW => ⟨(hW.cell (p := ⟨gb, _, none⟩) hgb).trans hx, hl.on hW⟩)
          have Bb : Hid (Below wb.heap.size wb wb) := Lib.hid (Below.refl _ _)
          have Ba := Lib.hid (bch Ba.out hb)
          clear hr hc hd hx hl hgb
          refine hK.out _ _ (bch hHeld hb) (fun hHeld => ?_)
          clear hb hK K
          (try simp only [Act.put, List.setIfInBounds_toArray, List.set_cons_zero, List.set_cons_succ])
          refine wpAnyH_take (i := 4) (oi := { dst := some 17, op := Op.indexAddr 29 (Operand.tmp 16) (Operand.const (Value.int IntKind.i64 0)), type := 0, pos := "law.go:20", after := #[{ on := 3, ground := Ground.data }], guard := none }) (v := ?_) rfl (by kernel_rfl) (by kernel_rfl) (by kernel_rfl) (fun _ _ _ h => h) (Or.inl ⟨by rfl, ?_⟩) hHeld ?_
          rotate_left
          · (intro w hSw; go_simp; try with_reducible rfl)
          (try simp only [Act.put, List.setIfInBounds_toArray, List.set_cons_zero, List.set_cons_succ])
          refine wpAnyH_ready (rs := [5]) (by kernel_rfl) (by simp) (AllReadyH.cons (o := { dst := some 18, op := Op.load 52 (Operand.tmp 17), type := 52, pos := "law.go:20", after := #[{ on := 4, ground := Ground.data }], guard := none }) rfl (fun K hK => ?_) AllReadyH.nil)
          · have p0 := (Hb.out wb Bb.out).1
            go_simp
            refine hK.out _ _ hHeld (fun hHeld => ?_)
            clear p0 hK K
            (try simp only [Act.put, List.setIfInBounds_toArray, List.set_cons_zero, List.set_cons_succ])
            refine wpAnyH_ready (rs := [6]) (by kernel_rfl) (by simp) (AllReadyH.cons (o := { dst := some 19, op := Op.buildSlice 29 2 #[(0, Operand.tmp 15), (1, Operand.tmp 18)], type := 29, pos := "law.go:20", after := #[{ on := 2, ground := Ground.data }, { on := 5, ground := Ground.data }], guard := none }) rfl (fun K hK => ?_) AllReadyH.nil)
            · go_simp
              obtain ⟨wc, hwc⟩ : ∃ z, z = wb.alloc (.cells #[.slice axa 2 cxa, .slice axb 2 cxb] 52) := ⟨_, rfl⟩
              rw [← hwc]
              have hbc : Below wb.heap.size wb wc := by rw [hwc]; exact below_new _ _
              have Xc : Box wc wb.heap.size 52 #[.slice axa 2 cxa, .slice axb 2 cxb] := by rw [hwc]; exact box_new
              have HRC := Lib.hid (rdrs_two Xc (Ha.out wc (bch Ba.out hbc)).2 (Hb.out wc (bch Bb.out hbc)).2)
              refine hK.out _ _ (bch hHeld hbc) (fun hHeld => ?_)
              clear hwc hbc Xc hK K
              (try simp only [Act.put, List.setIfInBounds_toArray, List.set_cons_zero, List.set_cons_succ])
              refine wpAnyH_ready (rs := [7]) (by kernel_rfl) (by simp) (AllReadyH.cons (o := { dst := some 20, op := Op.call { callee := Callee.value (Operand.func 12), args := #[Operand.tmp 19], argTypes := #[29] }, type := 36, pos := "law.go:20", after := #[{ on := 6, ground := Ground.data }, { on := 3, ground := Ground.chain }], guard := none }) rfl (fun K hK => ?_) AllReadyH.nil)
              · go_simp
                go_wp2_with (go_at_call 12; refine (clashes_any [rowA, rowA] _ _ HRC.out).mono ?_; rintro e wd ⟨vd, rfl, hb, h1, h2⟩)
                have hod := h2 (chkR_ok okAA)
                rw [clashAA] at hod
                rw [chkR_ok okAA]
                have HOD := Lib.hid hod
                obtain ⟨ad, cd, rfl⟩ := own_slice hod
                have hsz := Lib.hid hHeld.size
                refine hK.out _ _ (bch hHeld hb) (fun hHeld => ?_)
                clear h1 h2 hod hb hK K
                (try simp only [Act.put, List.setIfInBounds_toArray, List.set_cons_zero, List.set_cons_succ])
                refine wpAnyH_take (i := 8) (oi := { dst := some 12, op := Op.move (Operand.tmp 20), type := 36, pos := "law.go:20", after := #[{ on := 7, ground := Ground.data }], guard := none }) (v := ?_) rfl (by kernel_rfl) (by kernel_rfl) (by kernel_rfl) (fun _ _ _ h => h) (Or.inl ⟨by rfl, ?_⟩) hHeld ?_
                rotate_left
                · (intro w hSw; go_simp; try with_reducible rfl)
                (try simp only [Act.put, List.setIfInBounds_toArray, List.set_cons_zero, List.set_cons_succ])
                refine wpAnyH_take (i := 9) (oi := { dst := some 21, op := Op.extract (Operand.tmp 12) 0, type := 23, pos := "law.go:20", after := #[{ on := 8, ground := Ground.data }], guard := none }) (v := ?_) rfl (by kernel_rfl) (by kernel_rfl) (by kernel_rfl) (fun _ _ _ h => h) (Or.inl ⟨by rfl, ?_⟩) hHeld ?_
                rotate_left
                · (intro w hSw; go_simp; try with_reducible rfl)
                (try simp only [Act.put, List.setIfInBounds_toArray, List.set_cons_zero, List.set_cons_succ])
                refine wpAnyH_take (i := 10) (oi := { dst := some 22, op := Op.extract (Operand.tmp 12) 1, type := 31, pos := "law.go:20", after := #[{ on := 8, ground := Ground.data }, { on := 11, ground := Ground.gcOnly Departure.lateStores }], guard := none }) (v := ?_) rfl (by kernel_rfl) (by kernel_rfl) (by kernel_rfl) (fun _ _ _ h => h) (Or.inl ⟨by rfl, ?_⟩) hHeld ?_
                rotate_left
                · (intro w hSw; go_simp; try with_reducible rfl)
                (try simp only [Act.put, List.setIfInBounds_toArray, List.set_cons_zero, List.set_cons_succ])
                refine wpAnyH_take (i := 11) (oi := { dst := some 3, op := Op.assign (Operand.tmp 21), type := 23, pos := "law.go:20", after := #[{ on := 9, ground := Ground.data }, { on := 7, ground := Ground.chain }, { on := 0, ground := Ground.phase }, { on := 1, ground := Ground.phase }, { on := 2, ground := Ground.phase }, { on := 3, ground := Ground.phase }, { on := 4, ground := Ground.phase }, { on := 5, ground := Ground.phase }, { on := 6, ground := Ground.phase }, { on := 7, ground := Ground.phase }, { on := 8, ground := Ground.phase }, { on := 9, ground := Ground.phase }, { on := 10, ground := Ground.textOnly Departure.lateStores }], guard := none }) (v := ?_) rfl (by kernel_rfl) (by kernel_rfl) (by kernel_rfl) (fun _ _ _ h => h) (Or.inl ⟨by rfl, ?_⟩) hHeld ?_
                rotate_left
                · (intro w hSw; go_simp; try with_reducible rfl)
                (try simp only [Act.put, List.setIfInBounds_toArray, List.set_cons_zero, List.set_cons_succ])
                refine wpAnyH_take (i := 12) (oi := { dst := some 4, op := Op.assign (Operand.tmp 22), type := 31, pos := "law.go:20", after := #[{ on := 10, ground := Ground.data }, { on := 11, ground := Ground.chain }, { on := 0, ground := Ground.phase }, { on := 1, ground := Ground.phase }, { on := 2, ground := Ground.phase }, { on := 3, ground := Ground.phase }, { on := 4, ground := Ground.phase }, { on := 5, ground := Ground.phase }, { on := 6, ground := Ground.phase }, { on := 7, ground := Ground.phase }, { on := 8, ground := Ground.phase }, { on := 9, ground := Ground.phase }, { on := 10, ground := Ground.phase }, { on := 11, ground := Ground.phase }], guard := none }) (v := ?_) rfl (by kernel_rfl) (by kernel_rfl) (by kernel_rfl) (fun _ _ _ h => h) (Or.inl ⟨by rfl, ?_⟩) hHeld ?_
                rotate_left
                · (intro w hSw; go_simp; try with_reducible rfl)
                (try simp only [Act.put, List.setIfInBounds_toArray, List.set_cons_zero, List.set_cons_succ])
                refine wpAnyH_done (by kernel_rfl) ?_ _
                first | refine hK2 _ _ (Met.intro (hJ _ _ ?_)) | refine Met.intro (hJ _ _ ?_)
                (repeat apply Exists.intro)
                refine ⟨?_, rfl⟩
                exact ⟨_, _, rfl, rfl, Lib.hid (own_low HOD.out hsz.out), Lib.hid hHeld⟩
      · go_simp
        go_wp2_with (go_at_call 24; refine (small_any _).mono ?_; rintro e wb ⟨vb, rfl, hr, hb⟩)
        obtain ⟨_, cb, rfl, _, _, hc⟩ := id hr
        obtain ⟨gb, ob, rfl, hgb, hd⟩ := hc (by decide)
        obtain ⟨xb, hx, hl⟩ := hd 0 rowA rfl
        obtain ⟨axb, cxb, rfl⟩ := hl.slice
        have Hb : Hid (∀ W, Below wb.heap.size wb W → W.cell? ⟨gb, ob, none⟩ = some (.slice axb 2 cxb) ∧ RdL W (.slice axb 2 cxb) rowA) := Lib.hid (fun W hW => ⟨(hW.cell (p := ⟨gb, _, none⟩) hgb).trans hx, hl.on hW⟩)
        have Bb : Hid (Below wb.heap.size wb wb) := Lib.hid (Below.refl _ _)
        have Ba := Lib.hid (bch Ba.out hb)
        clear hr hc hd hx hl hgb
        refine hK.out _ _ (bch hHeld hb) (fun hHeld => ?_)
        clear hb hK K
        (try simp only [Act.put, List.setIfInBounds_toArray, List.set_cons_zero, List.set_cons_succ])
        refine wpAnyH_take (i := 4) (oi := { dst := some 17, op := Op.indexAddr 29 (Operand.tmp 16) (Operand.const (Value.int IntKind.i64 0)), type := 0, pos := "law.go:20", after := #[{ on := 3, ground := Ground.data }], guard := none }) (v := ?_) rfl (by kernel_rfl) (by kernel_rfl) (by kernel_rfl) (fun _ _ _ h => h) (Or.inl ⟨by rfl, ?_⟩) hHeld ?_
        rotate_left
        · (intro w hSw; go_simp; try with_reducible rfl)
        (try simp only [Act.put, List.setIfInBounds_toArray, List.set_cons_zero, List.set_cons_succ])
        refine wpAnyH_ready (rs := [2, 5]) (by kernel_rfl) (by simp) (AllReadyH.cons (o := { dst := some 15, op := Op.load 52 (Operand.tmp 14), type := 52, pos := "law.go:20", after := #[{ on := 1, ground := Ground.data }], guard := none }) rfl (fun K hK => ?_) (AllReadyH.cons (o := { dst := some 18, op := Op.load 52 (Operand.tmp 17), type := 52, pos := "law.go:20", after := #[{ on := 4, ground := Ground.data }], guard := none }) rfl (fun K hK => ?_) AllReadyH.nil))
        · have p0 := (Ha.out wb Ba.out).1
          go_simp
          refine hK.out _ _ hHeld (fun hHeld => ?_)
          clear p0 hK K
          (try simp only [Act.put, List.setIfInBounds_toArray, List.set_cons_zero, List.set_cons_succ])
          refine wpAnyH_ready (rs := [5]) (by kernel_rfl) (by simp) (AllReadyH.cons (o := { dst := some 18, op := Op.load 52 (Operand.tmp 17), type := 52, pos := "law.go:20", after := #[{ on := 4, ground := Ground.data }], guard := none }) rfl (fun K hK => ?_) AllReadyH.nil)
          · have p0 := (Hb.out wb Bb.out).1
            go_simp
            refine hK.out _ _ hHeld (fun hHeld => ?_)
            clear p0 hK K
            (try simp only [Act.put, List.setIfInBounds_toArray, List.set_cons_zero, List.set_cons_succ])
            refine wpAnyH_ready (rs := [6]) (by kernel_rfl) (by simp) (AllReadyH.cons (o := { dst := some 19, op := Op.buildSlice 29 2 #[(0, Operand.tmp 15), (1, Operand.tmp 18)], type := 29, pos := "law.go:20", after := #[{ on := 2, ground := Ground.data }, { on := 5, ground := Ground.data }], guard := none }) rfl (fun K hK => ?_) AllReadyH.nil)
            · go_simp
              obtain ⟨wc, hwc⟩ : ∃ z, z = wb.alloc (.cells #[.slice axa 2 cxa, .slice axb 2 cxb] 52) := ⟨_, rfl⟩
              rw [← hwc]
              have hbc : Below wb.heap.size wb wc := by rw [hwc]; exact below_new _ _
              have Xc : Box wc wb.heap.size 52 #[.slice axa 2 cxa, .slice axb 2 cxb] := by rw [hwc]; exact box_new
              have HRC := Lib.hid (rdrs_two Xc (Ha.out wc (bch Ba.out hbc)).2 (Hb.out wc (bch Bb.out hbc)).2)
              refine hK.out _ _ (bch hHeld hbc) (fun hHeld => ?_)
              clear hwc hbc Xc hK K
              (try simp only [Act.put, List.setIfInBounds_toArray, List.set_cons_zero, List.set_cons_succ])
              refine wpAnyH_ready (rs := [7]) (by kernel_rfl) (by simp) (AllReadyH.cons (o := { dst := some 20, op := Op.call { callee := Callee.value (Operand.func 12), args := #[Operand.tmp 19], argTypes := #[29] }, type := 36, pos := "law.go:20", after := #[{ on := 6, ground := Ground.data }, { on := 3, ground := Ground.chain }], guard := none }) rfl (fun K hK => ?_) AllReadyH.nil)
              · go_simp
                go_wp2_with (go_at_call 12; refine (clashes_any [rowA, rowA] _ _ HRC.out).mono ?_; rintro e wd ⟨vd, rfl, hb, h1, h2⟩)
                have hod := h2 (chkR_ok okAA)
                rw [clashAA] at hod
                rw [chkR_ok okAA]
                have HOD := Lib.hid hod
                obtain ⟨ad, cd, rfl⟩ := own_slice hod
                have hsz := Lib.hid hHeld.size
                refine hK.out _ _ (bch hHeld hb) (fun hHeld => ?_)
                clear h1 h2 hod hb hK K
                (try simp only [Act.put, List.setIfInBounds_toArray, List.set_cons_zero, List.set_cons_succ])
                refine wpAnyH_take (i := 8) (oi := { dst := some 12, op := Op.move (Operand.tmp 20), type := 36, pos := "law.go:20", after := #[{ on := 7, ground := Ground.data }], guard := none }) (v := ?_) rfl (by kernel_rfl) (by kernel_rfl) (by kernel_rfl) (fun _ _ _ h => h) (Or.inl ⟨by rfl, ?_⟩) hHeld ?_
                rotate_left
                · (intro w hSw; go_simp; try with_reducible rfl)
                (try simp only [Act.put, List.setIfInBounds_toArray, List.set_cons_zero, List.set_cons_succ])
                refine wpAnyH_take (i := 9) (oi := { dst := some 21, op := Op.extract (Operand.tmp 12) 0, type := 23, pos := "law.go:20", after := #[{ on := 8, ground := Ground.data }], guard := none }) (v := ?_) rfl (by kernel_rfl) (by kernel_rfl) (by kernel_rfl) (fun _ _ _ h => h) (Or.inl ⟨by rfl, ?_⟩) hHeld ?_
                rotate_left
                · (intro w hSw; go_simp; try with_reducible rfl)
                (try simp only [Act.put, List.setIfInBounds_toArray, List.set_cons_zero, List.set_cons_succ])
                refine wpAnyH_take (i := 10) (oi := { dst := some 22, op := Op.extract (Operand.tmp 12) 1, type := 31, pos := "law.go:20", after := #[{ on := 8, ground := Ground.data }, { on := 11, ground := Ground.gcOnly Departure.lateStores }], guard := none }) (v := ?_) rfl (by kernel_rfl) (by kernel_rfl) (by kernel_rfl) (fun _ _ _ h => h) (Or.inl ⟨by rfl, ?_⟩) hHeld ?_
                rotate_left
                · (intro w hSw; go_simp; try with_reducible rfl)
                (try simp only [Act.put, List.setIfInBounds_toArray, List.set_cons_zero, List.set_cons_succ])
                refine wpAnyH_take (i := 11) (oi := { dst := some 3, op := Op.assign (Operand.tmp 21), type := 23, pos := "law.go:20", after := #[{ on := 9, ground := Ground.data }, { on := 7, ground := Ground.chain }, { on := 0, ground := Ground.phase }, { on := 1, ground := Ground.phase }, { on := 2, ground := Ground.phase }, { on := 3, ground := Ground.phase }, { on := 4, ground := Ground.phase }, { on := 5, ground := Ground.phase }, { on := 6, ground := Ground.phase }, { on := 7, ground := Ground.phase }, { on := 8, ground := Ground.phase }, { on := 9, ground := Ground.phase }, { on := 10, ground := Ground.textOnly Departure.lateStores }], guard := none }) (v := ?_) rfl (by kernel_rfl) (by kernel_rfl) (by kernel_rfl) (fun _ _ _ h => h) (Or.inl ⟨by rfl, ?_⟩) hHeld ?_
                rotate_left
                · (intro w hSw; go_simp; try with_reducible rfl)
                (try simp only [Act.put, List.setIfInBounds_toArray, List.set_cons_zero, List.set_cons_succ])
                refine wpAnyH_take (i := 12) (oi := { dst := some 4, op := Op.assign (Operand.tmp 22), type := 31, pos := "law.go:20", after := #[{ on := 10, ground := Ground.data }, { on := 11, ground := Ground.chain }, { on := 0, ground := Ground.phase }, { on := 1, ground := Ground.phase }, { on := 2, ground := Ground.phase }, { on := 3, ground := Ground.phase }, { on := 4, ground := Ground.phase }, { on := 5, ground := Ground.phase }, { on := 6, ground := Ground.phase }, { on := 7, ground := Ground.phase }, { on := 8, ground := Ground.phase }, { on := 9, ground := Ground.phase }, { on := 10, ground := Ground.phase }, { on := 11, ground := Ground.phase }], guard := none }) (v := ?_) rfl (by kernel_rfl) (by kernel_rfl) (by kernel_rfl) (fun _ _ _ h => h) (Or.inl ⟨by rfl, ?_⟩) hHeld ?_
                rotate_left
                · (intro w hSw; go_simp; try with_reducible rfl)
                (try simp only [Act.put, List.setIfInBounds_toArray, List.set_cons_zero, List.set_cons_succ])
                refine wpAnyH_done (by kernel_rfl) ?_ _
                first | refine hK2 _ _ (Met.intro (hJ _ _ ?_)) | refine Met.intro (hJ _ _ ?_)
                (repeat apply Exists.intro)
                refine ⟨?_, rfl⟩
                exact ⟨_, _, rfl, rfl, Lib.hid (own_low HOD.out hsz.out), Lib.hid hHeld⟩
        · have p0 := (Hb.out wb Bb.out).1
          go_simp
          refine hK.out _ _ hHeld (fun hHeld => ?_)
          clear p0 hK K
          (try simp only [Act.put, List.setIfInBounds_toArray, List.set_cons_zero, List.set_cons_succ])
          refine wpAnyH_ready (rs := [2]) (by kernel_rfl) (by simp) (AllReadyH.cons (o := { dst := some 15, op := Op.load 52 (Operand.tmp 14), type := 52, pos := "law.go:20", after := #[{ on := 1, ground := Ground.data }], guard := none }) rfl (fun K hK => ?_) AllReadyH.nil)
          · have p0 := (Ha.out wb Ba.out).1
            go_simp
            refine hK.out _ _ hHeld (fun hHeld => ?_)
            clear p0 hK K
            (try simp only [Act.put, List.setIfInBounds_toArray, List.set_cons_zero, List.set_cons_succ])
            refine wpAnyH_ready (rs := [6]) (by kernel_rfl) (by simp) (AllReadyH.cons (o := { dst := some 19, op := Op.buildSlice 29 2 #[(0, Operand.tmp 15), (1, Operand.tmp 18)], type := 29, pos := "law.go:20", after := #[{ on := 2, ground := Ground.data }, { on := 5, ground := Ground.data }], guard := none }) rfl (fun K hK => ?_) AllReadyH.nil)
            · go_simp
              obtain ⟨wc, hwc⟩ : ∃ z, z = wb.alloc (.cells #[.slice axa 2 cxa, .slice axb 2 cxb] 52) := ⟨_, rfl⟩
              rw [← hwc]
              have hbc : Below wb.heap.size wb wc := by rw [hwc]; exact below_new _ _
              have Xc : Box wc wb.heap.size 52 #[.slice axa 2 cxa, .slice axb 2 cxb] := by rw [hwc]; exact box_new
              have HRC := Lib.hid (rdrs_two Xc (Ha.out wc (bch Ba.out hbc)).2 (Hb.out wc (bch Bb.out hbc)).2)
              refine hK.out _ _ (bch hHeld hbc) (fun hHeld => ?_)
              clear hwc hbc Xc hK K
              (try simp only [Act.put, List.setIfInBounds_toArray, List.set_cons_zero, List.set_cons_succ])
              refine wpAnyH_ready (rs := [7]) (by kernel_rfl) (by simp) (AllReadyH.cons (o := { dst := some 20, op := Op.call { callee := Callee.value (Operand.func 12), args := #[Operand.tmp 19], argTypes := #[29] }, type := 36, pos := "law.go:20", after := #[{ on := 6, ground := Ground.data }, { on := 3, ground := Ground.chain }], guard := none }) rfl (fun K hK => ?_) AllReadyH.nil)
              · go_simp
                go_wp2_with (go_at_call 12; refine (clashes_any [rowA, rowA] _ _ HRC.out).mono ?_; rintro e wd ⟨vd, rfl, hb, h1, h2⟩)
                have hod := h2 (chkR_ok okAA)
                rw [clashAA] at hod
                rw [chkR_ok okAA]
                have HOD := Lib.hid hod
                obtain ⟨ad, cd, rfl⟩ := own_slice hod
                have hsz := Lib.hid hHeld.size
                refine hK.out _ _ (bch hHeld hb) (fun hHeld => ?_)
                clear h1 h2 hod hb hK K
                (try simp only [Act.put, List.setIfInBounds_toArray, List.set_cons_zero, List.set_cons_succ])
                refine wpAnyH_take (i := 8) (oi := { dst := some 12, op := Op.move (Operand.tmp 20), type := 36, pos := "law.go:20", after := #[{ on := 7, ground := Ground.data }], guard := none }) (v := ?_) rfl (by kernel_rfl) (by kernel_rfl) (by kernel_rfl) (fun _ _ _ h => h) (Or.inl ⟨by rfl, ?_⟩) hHeld ?_
                rotate_left
                · (intro w hSw; go_simp; try with_reducible rfl)
                (try simp only [Act.put, List.setIfInBounds_toArray, List.set_cons_zero, List.set_cons_succ])
                refine wpAnyH_take (i := 9) (oi := { dst := some 21, op := Op.extract (Operand.tmp 12) 0, type := 23, pos := "law.go:20", after := #[{ on := 8, ground := Ground.data }], guard := none }) (v := ?_) rfl (by kernel_rfl) (by kernel_rfl) (by kernel_rfl) (fun _ _ _ h => h) (Or.inl ⟨by rfl, ?_⟩) hHeld ?_
                rotate_left
                · (intro w hSw; go_simp; try with_reducible rfl)
                (try simp only [Act.put, List.setIfInBounds_toArray, List.set_cons_zero, List.set_cons_succ])
                refine wpAnyH_take (i := 10) (oi := { dst := some 22, op := Op.extract (Operand.tmp 12) 1, type := 31, pos := "law.go:20", after := #[{ on := 8, ground := Ground.data }, { on := 11, ground := Ground.gcOnly Departure.lateStores }], guard := none }) (v := ?_) rfl (by kernel_rfl) (by kernel_rfl) (by kernel_rfl) (fun _ _ _ h => h) (Or.inl ⟨by rfl, ?_⟩) hHeld ?_
                rotate_left
                · (intro w hSw; go_simp; try with_reducible rfl)
                (try simp only [Act.put, List.setIfInBounds_toArray, List.set_cons_zero, List.set_cons_succ])
                refine wpAnyH_take (i := 11) (oi := { dst := some 3, op := Op.assign (Operand.tmp 21), type := 23, pos := "law.go:20", after := #[{ on := 9, ground := Ground.data }, { on := 7, ground := Ground.chain }, { on := 0, ground := Ground.phase }, { on := 1, ground := Ground.phase }, { on := 2, ground := Ground.phase }, { on := 3, ground := Ground.phase }, { on := 4, ground := Ground.phase }, { on := 5, ground := Ground.phase }, { on := 6, ground := Ground.phase }, { on := 7, ground := Ground.phase }, { on := 8, ground := Ground.phase }, { on := 9, ground := Ground.phase }, { on := 10, ground := Ground.textOnly Departure.lateStores }], guard := none }) (v := ?_) rfl (by kernel_rfl) (by kernel_rfl) (by kernel_rfl) (fun _ _ _ h => h) (Or.inl ⟨by rfl, ?_⟩) hHeld ?_
                rotate_left
                · (intro w hSw; go_simp; try with_reducible rfl)
                (try simp only [Act.put, List.setIfInBounds_toArray, List.set_cons_zero, List.set_cons_succ])
                refine wpAnyH_take (i := 12) (oi := { dst := some 4, op := Op.assign (Operand.tmp 22), type := 31, pos := "law.go:20", after := #[{ on := 10, ground := Ground.data }, { on := 11, ground := Ground.chain }, { on := 0, ground := Ground.phase }, { on := 1, ground := Ground.phase }, { on := 2, ground := Ground.phase }, { on := 3, ground := Ground.phase }, { on := 4, ground := Ground.phase }, { on := 5, ground := Ground.phase }, { on := 6, ground := Ground.phase }, { on := 7, ground := Ground.phase }, { on := 8, ground := Ground.phase }, { on := 9, ground := Ground.phase }, { on := 10, ground := Ground.phase }, { on := 11, ground := Ground.phase }], guard := none }) (v := ?_) rfl (by kernel_rfl) (by kernel_rfl) (by kernel_rfl) (fun _ _ _ h => h) (Or.inl ⟨by rfl, ?_⟩) hHeld ?_
                rotate_left
                · (intro w hSw; go_simp; try with_reducible rfl)
                (try simp only [Act.put, List.setIfInBounds_toArray, List.set_cons_zero, List.set_cons_succ])
                refine wpAnyH_done (by kernel_rfl) ?_ _
                first | refine hK2 _ _ (Met.intro (hJ _ _ ?_)) | refine Met.intro (hJ _ _ ?_)
                (repeat apply Exists.intro)
                refine ⟨?_, rfl⟩
                exact ⟨_, _, rfl, rfl, Lib.hid (own_low HOD.out hsz.out), Lib.hid hHeld⟩
  case rest =>
    obtain ⟨a3, c3, rfl, rfl, HO3, HB3⟩ := hcut
    rcases own_addr HZ2.out with ⟨_, h0, _⟩ | ⟨g2, rfl, hg21, hg22⟩
    · cases h0
    clear hw2x hg21
    go_upto_region 4 with (first
      | (go_at_call 24; refine (small_any _).mono ?_; rintro e w4 ⟨v4, rfl, hr, hb⟩; have HR4 := Lib.hid hr; have HB4 := Lib.hid (bch HB3.out hb); have HBn4 := Lib.hid hb; obtain ⟨a4, c4, rfl, _⟩ := hr; clear hb)
      | (go_at_call 18; refine (alone_any [rowA, rowB] [47, 121] _ _ HR4.out).mono ?_; rintro e w5 ⟨rfl, hb⟩; have HB5 := Lib.hid (bch HB4.out hb); have HBn5 := Lib.hid hb; rw [aloneY]; clear hb))
    have HO5 : Hid (w5.ownsRow w2.heap.size 9 1 (.slice a3 1 c3) 1 ([[47, 120, 47, 102]].map encStr)) := Lib.hid (own_on (own_on HO3.out (HBn4.out)) HBn5.out)
    have HZ5 := own_on HZ2.out HB5.out
    have HOW := HZ1.out.grown (below_grown HB5.out) (fun r e => by cases e)
    have hrow := HOW.row [47, 120]
    obtain ⟨av, cv, hav⟩ := own_slice hrow
    have hol : ownS (plsL [rowA, rowB]) [47, 120] = [0, 1] := by decide +kernel
    rw [hol] at hav hrow
    rw [hav] at hrow
    have q1 : w5.cell? ⟨g2, 1, none⟩ = some (.bool true) := by
      have := HZ5.cells (g := g2) rfl 1 (.bool true) rfl
      rw [addr_add] at this
      exact this
    have q2 : w5.cell? ⟨g2, 2, none⟩ = some (.slice av 2 cv) := by
      have := HZ5.cells (g := g2) rfl 2 (z.2 [47, 120]) rfl
      rw [addr_add, hav] at this
      exact this
    have HRD : Hid (Rd w5 (.slice av 2 cv) (intsV [0, 1])) := Lib.hid (at0 (v := [0, 1]) hrow)
    have HBW : Hid (Below w.heap.size w w5) := Lib.hid (bch HB2.out HB5.out)
    clear HZ5 HOW hrow hav hol HZ1 HZ2 hg22
    go_wp2_with (first
      | (go_at_call 23; refine (eqi_any [1, 2, 3] [1, 2, 3] _ _ _ (HU8.out.on (below_new _ _)) (rd_new _ [1, 2, 3] (by decide)) (by decide) (by decide)).mono ?_; rintro e w9 ⟨rfl, hb⟩; have HB9 := Lib.hid (bch (bch HB8.out (below_new _ _)) hb); clear hb)
      | (go_at_call 23; refine (eqi_any [0, 1] [0, 1] _ _ _ (HRD.out.on (below_new _ _)) (rd_new _ [0, 1] (by decide)) (by decide) (by decide)).mono ?_; rintro e w6 ⟨rfl, hb⟩; have HB6 := Lib.hid (bch (below_new _ _) hb); clear hb)
      | (go_at_call 16; refine (eqs_any [[47, 120, 47, 102]] [[47, 120, 47, 102]] _ _ _ (((Rd.of_own HO5.out).on HB6.out).on (below_new _ _)) (rds_new _ [[47, 120, 47, 102]] (by decide)) (by decide) (by decide)).mono ?_; rintro e w7 ⟨rfl, hb⟩; have HB7 := Lib.hid (bch (bch HB6.out (below_new _ _)) hb); clear hb)
      | (go_at_call 20; go_loud (refine (union_any [[3, 1, 3], [2]] _ _ (rdr_two _ [3, 1, 3] [2] (by decide) (by decide)) (by decide)).mono ?_; rintro e w8 ⟨v8, rfl, ho, hb⟩; rw [uniFl] at ho; have HB8 := Lib.hid (bch (bch (bch (bch HB7.out (below_new _ _)) (below_new _ _)) (below_new _ _)) hb); have HU8 : Hid (Rd w8 v8 (intsV [1, 2, 3])) := Lib.hid (Rd.of_own ho); obtain ⟨a8, c8, rfl⟩ := own_slice ho; clear ho hb)))
    go_ret
    exact ⟨rfl, bch HBW.out HB9.out⟩
end Go.Proofs.YtgmplpfbhcdofaaGreat
