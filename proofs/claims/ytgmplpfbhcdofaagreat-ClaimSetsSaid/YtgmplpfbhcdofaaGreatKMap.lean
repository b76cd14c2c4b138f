/- Proved here: owned of package claim: the map of the claims of rows. -/
import Derived.Test.YtgmplpfbhcdofaaGreatReg
namespace Go.Proofs.YtgmplpfbhcdofaaGreat
open Go.RowKit Go.Shelf
attribute [local go_sem] Oper.semAt_some

theorem cl_box {w : World} {g : Nat} {p : Bs} {d : Bool} {ov : Value} (h : Box w g 44 #[.string ⟨p.toArray⟩, .bool d, ov]) : w.cell? ⟨g, 0, none⟩ = some (.string ⟨p.toArray⟩) ∧ w.cell? ⟨g, 1, none⟩ = some (.bool d) ∧ w.cell? ⟨g, 2, none⟩ = some ov :=
  ⟨h.cell rfl, h.cell rfl, h.cell rfl⟩
theorem run_mk (w : World) : (Instr.makeMap 91 none).run Tryz.prog w = .ok (.map (some w.heap.size)) (w.alloc (.map #[] 0)) := by
  simp [Instr.makeMap, Result.andThen]
theorem cell_grown {w w' : World} {g o : Nat} {u : Value} {row : Option Nat} (h : w.cell? ⟨g, o, none⟩ = some u) (hg : w.grownBy w' row) (hne : some g ≠ row) : w'.cell? ⟨g, o, none⟩ = some u := by
  have hlt : g < w.heap.size := by
    rcases Nat.lt_or_ge g w.heap.size with k | k
    · exact k
    · unfold World.cell? at h
      rw [Array.getElem?_eq_none k] at h
      cases h
  rw [← h]
  unfold World.cell?
  rw [hg.block g hlt hne]
def OwnedR (l : List (List Lf)) (w : World) (e : Ending) (w' : World) : Prop := ∃ b V, e = .returned (.map (some b)) ∧ Owned w' w.heap.size b (plsL l) V ∧ Below w.heap.size w w'

set_option maxRecDepth 100000 in
set_option maxHeartbeats 4000000 in
theorem owned_any (l : List (List Lf)) (v : Value) (w : World) (hv : RdRs w v l) (hok : okRs l) : Calls Tryz.prog 65 #[v] w (OwnedR l w) := by
  have HK := Lib.hid hok
  have HV := Lib.hid hv
  obtain ⟨a, c, rfl, hlc, hcm, hcc⟩ := hv
  obtain ⟨n, hn⟩ : ∃ n, n = l.length := ⟨_, rfl⟩
  have h16 : n ≤ 16 := by rw [hn]; exact hok.1
  rw [← hn] at HV hlc ⊢
  have HN := Lib.hid hn
  clear hn hcc hok
  unfold maxLen at hcm
  obtain ⟨i0, hi, hz0, hz1, hz2⟩ := info_parts info3
  obtain ⟨w1, hw1⟩ : ∃ q, q = w.alloc (.map #[] 0) := ⟨_, rfl⟩
  have HO1 : Hid (Owned w1 w.heap.size w.heap.size (plsL (l.take 0)) (fun _ => .slice none 0 0)) := Lib.hid (by rw [hw1]; exact Owned.start w _ (Nat.le_refl _))
  have HB1 : Hid (Below w.heap.size w w1) := Lib.hid (by rw [hw1]; exact below_new _ _)
  obtain ⟨b, hb⟩ : ∃ q, q = w.heap.size := ⟨_, rfl⟩
  have HBW : Hid (b = w.heap.size) := Lib.hid hb
  rw [← hb] at HO1
  have hmm := run_mk w
  go_enter Tryz.func65, Tryz.ntmps65
  go_upto_region 2 with fail
  rw [← hw1, ← hb]
  clear hw1 hb hmm
  go_wp2_with fail
  go_loopw [13] (fun i W => ∃ k : Nat, k ≤ n ∧ i = .int .i64 (k : Int) ∧ Hid (∃ V, Owned W b b (plsL (l.take k)) V) ∧ Hid (Below w.heap.size w W)) (fun i _ => n - (Lib.intOf i).toNat)
  case atStart => exact ⟨0, Nat.zero_le _, rfl, Lib.hid ⟨_, HO1.out⟩, HB1⟩
  case round =>
    obtain ⟨k, hk, rfl, HO, HB⟩ := hrel
    clear HO1 HB1
    by_cases hlt : k < n
    · obtain ⟨r, hr⟩ : ∃ r, l[k]? = some r := ⟨_, List.getElem?_eq_getElem (by rw [← HN.out]; exact hlt)⟩
      obtain ⟨a', c', e, z1, z2, hc⟩ := HV.out
      clear z1 z2
      rw [← HN.out] at e
      cases e
      obtain ⟨g, o, rfl, hg, hd⟩ := hc (by rw [← HN.out]; omega)
      obtain ⟨x, q0, hl⟩ := hd k r hr
      have q0 := (HB.out.cell (p := ⟨g, _, none⟩) hg).trans q0
      have HL := Lib.hid hl
      obtain ⟨a2, c2, rfl⟩ := hl.slice
      have k1 : (k : Int) < (n : Int) := by omega
      have k2 : (0 : Int) ≤ (k : Int) := by omega
      have k4 : IntKind.i64.wrap ((k : Int) + 1) = (k : Int) + 1 := IntWalk.i64_in _ (by omega)
      have HX := Lib.hid hr
      have HKR : Hid (okLs r = true) := Lib.hid (HK.out.2 r (List.mem_of_getElem? hr))
      obtain ⟨m, hm⟩ : ∃ m, m = r.length := ⟨_, rfl⟩
      have hm16 : m ≤ 16 := by rw [hm]; exact okLs_short HKR.out
      rw [← hm] at q0 HL
      have HM := Lib.hid hm
      clear hc hd hr hl hm
      obtain ⟨S0, hS0⟩ : ∃ z, z = plsL (l.take k) := ⟨_, rfl⟩
      have HS0 := Lib.hid hS0
      rw [← hS0] at HO
      have HSL : Hid (S0.length ≤ 16 * k) := Lib.hid (by
        rw [hS0]
        show (plsFrom 0 (l.take k)).length ≤ 16 * k
        have h1 := pls_len 0 (l.take k) (fun r hr => okLs_short (HK.out.2 r (List.mem_of_mem_take hr)))
        have h2 : (l.take k).length ≤ k := by rw [List.length_take]; omega
        omega)
      clear hS0
      obtain ⟨wq, hwq⟩ : ∃ q, q = wr := ⟨_, rfl⟩
      rw [← hwq] at HO HB q0 ⊢
      clear hwq
      go_upto_region 6 with fail
      go_wp2_with fail
      go_loopw [20] (fun i W => ∃ j : Nat, j ≤ m ∧ i = .int .i64 (j : Int) ∧ Hid (∃ V, Owned W b b (S0 ++ (r.take j).map (fun x => (k, x))) V) ∧ Hid (Below w.heap.size w W)  ) (fun i _ => m - (Lib.intOf i).toNat)
      case atStart => exact ⟨0, Nat.zero_le _, rfl, Lib.hid (by simpa using HO.out), HB⟩
      case round =>
        obtain ⟨j, hj, rfl, HO2, HB2⟩ := hrel
        clear HO HB
        obtain ⟨wp, hwp⟩ : ∃ q, q = wr := ⟨_, rfl⟩
        rw [← hwp] at HO2 HB2 ⊢
        clear hwp
        by_cases hltj : j < m
        · obtain ⟨x, hx⟩ : ∃ x, r[j]? = some x := ⟨_, List.getElem?_eq_getElem (by rw [← HM.out]; exact hltj)⟩
          obtain ⟨a', c', e, z1, z2, hc⟩ := (HL.out.on HB2.out).open
          clear z1 z2
          rw [← HM.out] at e
          cases e
          obtain ⟨g2, o2, rfl, hg2, hd2⟩ := hc (by rw [← HM.out]; omega)
          obtain ⟨q0, q1, q2⟩ := hd2 j x hx
          have HX2 := Lib.hid hx
          obtain ⟨V, hOw⟩ := HO2.out
          obtain ⟨s, hs⟩ : ∃ z, z = S0 ++ (r.take j).map (fun x => (k, x)) := ⟨_, rfl⟩
          rw [← hs] at hOw
          have HS := Lib.hid hs
          have HSS : Hid (s ++ [(k, x)] = S0 ++ (r.take (j + 1)).map (fun x => (k, x))) := Lib.hid (by
            rw [hs, List.take_add_one, hx, List.append_assoc]
            simp)
          have HSN : Hid (s.length ≤ 16 * k + j) := Lib.hid (by
            rw [hs, List.length_append, List.length_map, List.length_take]
            have := HSL.out
            omega)
          obtain ⟨w5, hw5⟩ : ∃ q, q = wp.alloc (.cells #[.string ⟨x.p.toArray⟩, .bool x.dir, .string ⟨x.d.toArray⟩] 63) := ⟨_, rfl⟩
          have X5 : Hid (Box w5 wp.heap.size 63 x.arr) := Lib.hid (by rw [hw5]; exact box_new)
          have hb5 : Below wp.heap.size wp w5 := by rw [hw5]; exact below_new _ _
          have HO5 := Lib.hid (hOw.on hb5)
          have HB5 : Hid (Below w.heap.size w w5) := Lib.hid (bch HB2.out hb5)
          have k1 : (j : Int) < (m : Int) := by omega
          have k2 : (0 : Int) ≤ (j : Int) := by omega
          have k4 : IntKind.i64.wrap ((j : Int) + 1) = (j : Int) + 1 := IntWalk.i64_in _ (by omega)
          have HXP : Hid (x.p.length ≤ 60) := Lib.hid (okLs_path HKR.out (List.mem_of_getElem? hx))
          have hxk : keyOf Tryz.prog 9 (.string ⟨x.p.toArray⟩) = some (.string x.p) := WideMaps.keyOf_string_mk (s := ⟨x.p.toArray⟩) Tryz.underlying9 (by have := HXP.out; unfold maxLen; show x.p.length ≤ _; omega)
          clear hc hd2 hx hb5 hs hOw
          go_upto_region 8 with fail
          obtain ⟨b7, hb7⟩ : ∃ q, q = wp.heap.size := ⟨_, rfl⟩
          rw [← hb7] at X5 ⊢
          rw [← hw5]
          clear hw5 hb7 q0 q1 q2
          have d0 : w5.cell? ⟨b7, 0, none⟩ = some (.string ⟨x.p.toArray⟩) := X5.out.cell (k := 0) rfl
          obtain ⟨D, hD, hS⟩ := HO5.out.map
          have HD := Lib.hid hD
          have HMS := Lib.hid hS
          have HHS : Hid (Maps.has D (.string x.p) = hasS s x.p) := Lib.hid (hS.1 x.p)
          obtain ⟨av, cv, hav⟩ := own_slice (HO5.out.row x.p)
          obtain ⟨nn, hnn⟩ : ∃ z, z = (ownS s x.p).length := ⟨_, rfl⟩
          have HNN : Hid (nn ≤ 16 * k + j) := Lib.hid (by have := ownS_len s x.p; have := HSN.out; omega)
          rw [← hnn] at hav
          have HNE := Lib.hid hnn
          have HAV := Lib.hid hav
          have HNIL := Lib.hid HO5.out.nil
          clear hD hS hav hnn
          go_upto_region 9 with (at_lookup; refine wpList_lookup_own_ok _ rfl _ _ 91 rfl 9 44 law9 Tryz.underlying91 RV (zv43 _) (.held (clV [] false (.slice none 0 0))) [] rfl b _ D rfl HD.out _ _ rfl hxk ?_; intro v ps hv; rw [HHS.out]; obtain rfl := look_val HMS.out HNIL.out x.p hv; rw [HAV.out]; clear hv)
          obtain ⟨w6, hw6⟩ : ∃ q, q = w5.alloc (.cells #[.string ⟨(cpS s x.p).toArray⟩, .bool (cdS s x.p), .slice av nn cv] 44) := ⟨_, rfl⟩
          have hb6 : Below w5.heap.size w5 w6 := by rw [hw6]; exact below_new _ _
          have X6 : Box w6 w5.heap.size 44 #[.string ⟨(cpS s x.p).toArray⟩, .bool (cdS s x.p), .slice av nn cv] := by rw [hw6]; exact box_new
          have X5' := X5.out.on hb6
          have HB6 : Hid (Below w.heap.size w w6) := Lib.hid (bch HB5.out hb6)
          have HO6 := HO5.out.on hb6
          have HQ : Hid (dirS (s ++ [(k, x)]) x.p = (x.dir && (cdS s x.p || !hasS s x.p))) := Lib.hid (dir_step s k x)
          rw [← hw6]
          obtain ⟨b8, hb8⟩ : ∃ q, q = w5.heap.size := ⟨_, rfl⟩
          rw [← hb8] at X6 ⊢
          obtain ⟨bd, hbd⟩ : ∃ q, q = x.dir := ⟨_, rfl⟩
          obtain ⟨bc, hbc⟩ : ∃ q, q = cdS s x.p := ⟨_, rfl⟩
          obtain ⟨bh, hbh⟩ : ∃ q, q = hasS s x.p := ⟨_, rfl⟩
          have d0 : w6.cell? ⟨b7, 0, none⟩ = some (.string ⟨x.p.toArray⟩) := X5'.cell (k := 0) rfl
          have d1 : w6.cell? ⟨b7, 1, none⟩ = some (.bool x.dir) := X5'.cell (k := 1) rfl
          obtain ⟨-, e1, e2⟩ := cl_box X6
          rw [← hbd] at d1 HQ
          rw [← hbc] at e1 HQ ⊢
          rw [← hbh] at HQ ⊢
          obtain ⟨w7, hw7⟩ : ∃ q, q = (w6.alloc (.cells #[.int .i64 (k : Int)] 3)).drew := ⟨_, rfl⟩
          have hb7 : Below w6.heap.size w6 w7 := by rw [hw7]; exact below_drewN (below_new w6 _) 1
          have HO7 := Lib.hid (HO6.on hb7)
          have HB7 : Hid (Below w.heap.size w w7) := Lib.hid (bch HB6.out hb7)
          have HOW : Hid (w7.ownsRow b 3 1 (.slice av nn cv) nn (natsV (ownS s x.p))) := Lib.hid (by
            have := HO7.out.row x.p
            rw [HAV.out, ← HNE.out] at this
            exact this)
          have HNW : Hid (∀ (j : Nat) (u : Value), [i64 k][j]? = some u → w7.cell? ((⟨w6.heap.size, 0, none⟩ : Addr).add j) = some u) := Lib.hid (fun j u hu => by
            rw [addr_add, Nat.zero_add]
            have hbx : Box w7 w6.heap.size 3 #[i64 k] := by rw [hw7]; exact heap_alloc_new w6 _
            exact hbx.cell (by simpa using hu))
          have HSZ : Hid (b ≤ w7.heap.size) := Lib.hid (by rw [HBW.out]; exact HB7.out.size)
          have HD7 : Hid (w7.ownsMap Tryz.prog 9 RV b s.length D) := Lib.hid (HD.out.kept (row := none) (below_grown (bch hb6 hb7)) (by simp))
          have HW7 := Lib.hid hw7
          have HCK : Hid (∀ W : World, w7.grownBy W (Value.slice av nn cv).ownBlock → W.cell? ⟨b7, 0, none⟩ = some (.string ⟨x.p.toArray⟩) ∧ W.cell? ⟨b7, 1, none⟩ = some (.bool bd) ∧ W.cell? ⟨b8, 1, none⟩ = some (.bool bc) ∧ W.cell? ⟨b8, 2, none⟩ = some (.slice av nn cv)) := Lib.hid (fun W hg => by
            have Y5 := (X5'.on hb7)
            have Y6 := (X6.on hb7)
            have n5 : some b7 ≠ (Value.slice av nn cv).ownBlock := fun e => by
              obtain ⟨cur, h⟩ := own_cells HOW.out e.symm
              rw [show w7.heap[b7]? = some (.cells x.arr 63 (0, 0)) from Y5] at h
              cases h
            have n6 : some b8 ≠ (Value.slice av nn cv).ownBlock := fun e => by
              obtain ⟨cur, h⟩ := own_cells HOW.out e.symm
              rw [show w7.heap[b8]? = some (.cells _ 44 (0, 0)) from Y6] at h
              cases h
            have Z5 : Box W b7 63 x.arr := (hg.block b7 Y5.lt n5).trans Y5
            have Z6 := (hg.block b8 Y6.lt n6).trans Y6
            have h5 := Z5.cell (k := 1) (v := .bool x.dir) rfl
            obtain ⟨-, h6, h7⟩ := cl_box Z6
            rw [← hbd] at h5
            rw [← hbc] at h6
            exact ⟨Z5.cell (k := 0) rfl, h5, h6, h7⟩)
          have HS7 := Lib.hid (HCK.out w7 ⟨rfl, rfl, rfl, Nat.le_refl _, fun _ _ _ => rfl⟩)
          have HN7 : Hid (b7 ≠ b ∧ b8 ≠ b) := Lib.hid (by
            obtain ⟨es, clock, h, _⟩ := HD7.out
            constructor
            · rintro rfl
              rw [show w7.heap[b7]? = some (.cells x.arr 63 (0, 0)) from X5'.on hb7] at h
              cases h
            · rintro rfl
              rw [show w7.heap[b8]? = some (.cells _ 44 (0, 0)) from X6.on hb7] at h
              cases h)
          have HCL : Hid (∀ W W' : World, (W.cell? ⟨b7, 0, none⟩ = some (.string ⟨x.p.toArray⟩) ∧ W.cell? ⟨b7, 1, none⟩ = some (.bool bd) ∧ W.cell? ⟨b8, 1, none⟩ = some (.bool bc) ∧ W.cell? ⟨b8, 2, none⟩ = some (.slice av nn cv)) → W.grownBy W' (some b) →
              (W'.cell? ⟨b7, 0, none⟩ = some (.string ⟨x.p.toArray⟩) ∧ W'.cell? ⟨b7, 1, none⟩ = some (.bool bd) ∧ W'.cell? ⟨b8, 1, none⟩ = some (.bool bc) ∧ W'.cell? ⟨b8, 2, none⟩ = some (.slice av nn cv))) := Lib.hid (fun W W' h hg => by
            have n7 : some b7 ≠ some b := fun e => HN7.out.1 (by cases e; rfl)
            have n8 : some b8 ≠ some b := fun e => HN7.out.2 (by cases e; rfl)
            exact ⟨cell_grown h.1 hg n7, cell_grown h.2.1 hg n7, cell_grown h.2.2.1 hg n8, cell_grown h.2.2.2 hg n8⟩)
          clear hw6 hb6 X6 X5' HO6 hb8 hbd hbc hbh hw7 hb7 X5 HO5 HB5 HO2 HB2 HD hg2
          cases bd with
          | false =>
            refine wp_region_held_drew (S := fun W : World => W.cell? ⟨b7, 0, none⟩ = some (.string ⟨x.p.toArray⟩) ∧ W.cell? ⟨b7, 1, none⟩ = some (.bool false) ∧ W.cell? ⟨b8, 1, none⟩ = some (.bool bc) ∧ W.cell? ⟨b8, 2, none⟩ = some (.slice av nn cv)) (by kernel_rfl) ⟨d0, d1, e1, e2⟩ (fun hHeld => ?_)
            refine wpAnyH_take (i := 0) (oi := { dst := some 31, op := Op.move (Operand.tmp 3), type := 91, pos := "row.go:44", after := #[], guard := none }) (v := ?_) rfl (by kernel_rfl) (by kernel_rfl) (by kernel_rfl) (fun _ _ _ h => h) (Or.inl ⟨by rfl, ?_⟩) hHeld ?_
            rotate_left
            · (intro w hSw; have p0 := hSw.1; have p1 := hSw.2.1; have p2 := hSw.2.2.1; have p3 := hSw.2.2.2; go_simp; try with_reducible rfl)
            (try simp only [Act.put, List.setIfInBounds_toArray, List.set_cons_zero, List.set_cons_succ])
            refine wpAnyH_take (i := 1) (oi := { dst := some 32, op := Op.fieldAddr 63 (Operand.tmp 7) 0, type := 0, pos := "row.go:44", after := #[], guard := none }) (v := ?_) rfl (by kernel_rfl) (by kernel_rfl) (by kernel_rfl) (fun _ _ _ h => h) (Or.inl ⟨by rfl, ?_⟩) hHeld ?_
            rotate_left
            · (intro w hSw; have p0 := hSw.1; have p1 := hSw.2.1; have p2 := hSw.2.2.1; have p3 := hSw.2.2.2; go_simp; try with_reducible rfl)
            (try simp only [Act.put, List.setIfInBounds_toArray, List.set_cons_zero, List.set_cons_succ])
            refine wpAnyH_take (i := 2) (oi := { dst := some 33, op := Op.load 9 (Operand.tmp 32), type := 9, pos := "row.go:44", after := #[{ on := 1, ground := Ground.data }], guard := none }) (v := ?_) rfl (by kernel_rfl) (by kernel_rfl) (by kernel_rfl) (fun _ _ _ h => h) (Or.inl ⟨by rfl, ?_⟩) hHeld ?_
            rotate_left
            · (intro w hSw; have p0 := hSw.1; have p1 := hSw.2.1; have p2 := hSw.2.2.1; have p3 := hSw.2.2.2; go_simp; try with_reducible rfl)
            (try simp only [Act.put, List.setIfInBounds_toArray, List.set_cons_zero, List.set_cons_succ])
            refine wpAnyH_take (i := 3) (oi := { dst := some 34, op := Op.fieldAddr 63 (Operand.tmp 7) 0, type := 0, pos := "row.go:44", after := #[], guard := none }) (v := ?_) rfl (by kernel_rfl) (by kernel_rfl) (by kernel_rfl) (fun _ _ _ h => h) (Or.inl ⟨by rfl, ?_⟩) hHeld ?_
            rotate_left
            · (intro w hSw; have p0 := hSw.1; have p1 := hSw.2.1; have p2 := hSw.2.2.1; have p3 := hSw.2.2.2; go_simp; try with_reducible rfl)
            (try simp only [Act.put, List.setIfInBounds_toArray, List.set_cons_zero, List.set_cons_succ])
            refine wpAnyH_take (i := 4) (oi := { dst := some 35, op := Op.load 9 (Operand.tmp 34), type := 9, pos := "row.go:44", after := #[{ on := 3, ground := Ground.data }], guard := none }) (v := ?_) rfl (by kernel_rfl) (by kernel_rfl) (by kernel_rfl) (fun _ _ _ h => h) (Or.inl ⟨by rfl, ?_⟩) hHeld ?_
            rotate_left
            · (intro w hSw; have p0 := hSw.1; have p1 := hSw.2.1; have p2 := hSw.2.2.1; have p3 := hSw.2.2.2; go_simp; try with_reducible rfl)
            (try simp only [Act.put, List.setIfInBounds_toArray, List.set_cons_zero, List.set_cons_succ])
            refine wpAnyH_take (i := 5) (oi := { dst := some 36, op := Op.fieldAddr 63 (Operand.tmp 7) 1, type := 0, pos := "row.go:44", after := #[], guard := none }) (v := ?_) rfl (by kernel_rfl) (by kernel_rfl) (by kernel_rfl) (fun _ _ _ h => h) (Or.inl ⟨by rfl, ?_⟩) hHeld ?_
            rotate_left
            · (intro w hSw; have p0 := hSw.1; have p1 := hSw.2.1; have p2 := hSw.2.2.1; have p3 := hSw.2.2.2; go_simp; try with_reducible rfl)
            (try simp only [Act.put, List.setIfInBounds_toArray, List.set_cons_zero, List.set_cons_succ])
            refine wpAnyH_take (i := 6) (oi := { dst := some 37, op := Op.load 4 (Operand.tmp 36), type := 4, pos := "row.go:44", after := #[{ on := 5, ground := Ground.data }], guard := none }) (v := ?_) rfl (by kernel_rfl) (by kernel_rfl) (by kernel_rfl) (fun _ _ _ h => h) (Or.inl ⟨by rfl, ?_⟩) hHeld ?_
            rotate_left
            · (intro w hSw; have p0 := hSw.1; have p1 := hSw.2.1; have p2 := hSw.2.2.1; have p3 := hSw.2.2.2; go_simp; try with_reducible rfl)
            (try simp only [Act.put, List.setIfInBounds_toArray, List.set_cons_zero, List.set_cons_succ])
            refine wpAnyH_take (i := 7) (oi := { dst := some 38, op := Op.move (Operand.tmp 37), type := 4, pos := "row.go:44", after := #[{ on := 6, ground := Ground.data }], guard := none }) (v := ?_) rfl (by kernel_rfl) (by kernel_rfl) (by kernel_rfl) (fun _ _ _ h => h) (Or.inl ⟨by rfl, ?_⟩) hHeld ?_
            rotate_left
            · (intro w hSw; have p0 := hSw.1; have p1 := hSw.2.1; have p2 := hSw.2.2.1; have p3 := hSw.2.2.2; go_simp; try with_reducible rfl)
            (try simp only [Act.put, List.setIfInBounds_toArray, List.set_cons_zero, List.set_cons_succ])
            refine wpAnyH_take (i := 8) (oi := { dst := some 39, op := Op.fieldAddr 44 (Operand.tmp 8) 1, type := 0, pos := "row.go:44", after := #[{ on := 7, ground := Ground.guard }], guard := some (7, true) }) (v := undef) rfl (by kernel_rfl) (by kernel_rfl) (by kernel_rfl) (fun _ _ _ h => h) (Or.inr ⟨by rfl, rfl⟩) hHeld ?_
            (try simp only [Act.put, List.setIfInBounds_toArray, List.set_cons_zero, List.set_cons_succ])
            refine wpAnyH_take (i := 9) (oi := { dst := some 40, op := Op.load 4 (Operand.tmp 39), type := 4, pos := "row.go:44", after := #[{ on := 8, ground := Ground.data }, { on := 7, ground := Ground.guard }], guard := some (7, true) }) (v := undef) rfl (by kernel_rfl) (by kernel_rfl) (by kernel_rfl) (fun _ _ _ h => h) (Or.inr ⟨by rfl, rfl⟩) hHeld ?_
            (try simp only [Act.put, List.setIfInBounds_toArray, List.set_cons_zero, List.set_cons_succ])
            refine wpAnyH_take (i := 10) (oi := { dst := some 41, op := Op.move (Operand.tmp 40), type := 4, pos := "row.go:44", after := #[{ on := 9, ground := Ground.data }, { on := 7, ground := Ground.chain }, { on := 7, ground := Ground.guard }], guard := some (7, true) }) (v := undef) rfl (by kernel_rfl) (by kernel_rfl) (by kernel_rfl) (fun _ _ _ h => h) (Or.inr ⟨by rfl, rfl⟩) hHeld ?_
            (try simp only [Act.put, List.setIfInBounds_toArray, List.set_cons_zero, List.set_cons_succ])
            refine wpAnyH_take (i := 11) (oi := { dst := some 42, op := Op.move (Operand.tmp 9), type := 4, pos := "row.go:44", after := #[{ on := 10, ground := Ground.guard }], guard := some (10, false) }) (v := undef) rfl (by kernel_rfl) (by kernel_rfl) (by kernel_rfl) (fun _ _ _ h => h) (Or.inr ⟨by rfl, rfl⟩) hHeld ?_
            (try simp only [Act.put, List.setIfInBounds_toArray, List.set_cons_zero, List.set_cons_succ])
            refine wpAnyH_take (i := 12) (oi := { dst := some 43, op := Op.unOp UnOp.not 4 (Operand.tmp 42), type := 4, pos := "row.go:44", after := #[{ on := 11, ground := Ground.data }, { on := 10, ground := Ground.guard }], guard := some (10, false) }) (v := undef) rfl (by kernel_rfl) (by kernel_rfl) (by kernel_rfl) (fun _ _ _ h => h) (Or.inr ⟨by rfl, rfl⟩) hHeld ?_
            (try simp only [Act.put, List.setIfInBounds_toArray, List.set_cons_zero, List.set_cons_succ])
            refine wpAnyH_take (i := 13) (oi := { dst := some 44, op := Op.pick (Operand.tmp 41) (Operand.const (Value.bool true)) (Operand.tmp 43), type := 4, pos := "row.go:44", after := #[{ on := 10, ground := Ground.data }, { on := 12, ground := Ground.data }, { on := 7, ground := Ground.guard }], guard := some (7, true) }) (v := undef) rfl (by kernel_rfl) (by kernel_rfl) (by kernel_rfl) (fun _ _ _ h => h) (Or.inr ⟨by rfl, rfl⟩) hHeld ?_
            (try simp only [Act.put, List.setIfInBounds_toArray, List.set_cons_zero, List.set_cons_succ])
            refine wpAnyH_take (i := 14) (oi := { dst := some 45, op := Op.pick (Operand.tmp 38) (Operand.tmp 44) (Operand.const (Value.bool false)), type := 4, pos := "row.go:44", after := #[{ on := 7, ground := Ground.data }, { on := 13, ground := Ground.data }], guard := none }) (v := ?_) rfl (by kernel_rfl) (by kernel_rfl) (by kernel_rfl) (fun _ _ _ h => h) (Or.inl ⟨by rfl, ?_⟩) hHeld ?_
            rotate_left
            · (intro w hSw; have p0 := hSw.1; have p1 := hSw.2.1; have p2 := hSw.2.2.1; have p3 := hSw.2.2.2; go_simp; try with_reducible rfl)
            (try simp only [Act.put, List.setIfInBounds_toArray, List.set_cons_zero, List.set_cons_succ])
            refine wpAnyH_take (i := 15) (oi := { dst := some 46, op := Op.fieldAddr 44 (Operand.tmp 8) 2, type := 0, pos := "row.go:44", after := #[], guard := none }) (v := ?_) rfl (by kernel_rfl) (by kernel_rfl) (by kernel_rfl) (fun _ _ _ h => h) (Or.inl ⟨by rfl, ?_⟩) hHeld ?_
            rotate_left
            · (intro w hSw; have p0 := hSw.1; have p1 := hSw.2.1; have p2 := hSw.2.2.1; have p3 := hSw.2.2.2; go_simp; try with_reducible rfl)
            (try simp only [Act.put, List.setIfInBounds_toArray, List.set_cons_zero, List.set_cons_succ])
            refine wpAnyH_take (i := 16) (oi := { dst := some 47, op := Op.load 22 (Operand.tmp 46), type := 22, pos := "row.go:44", after := #[{ on := 15, ground := Ground.data }], guard := none }) (v := ?_) rfl (by kernel_rfl) (by kernel_rfl) (by kernel_rfl) (fun _ _ _ h => h) (Or.inl ⟨by rfl, ?_⟩) hHeld ?_
            rotate_left
            · (intro w hSw; have p0 := hSw.1; have p1 := hSw.2.1; have p2 := hSw.2.2.1; have p3 := hSw.2.2.2; go_simp; try with_reducible rfl)
            (try simp only [Act.put, List.setIfInBounds_toArray, List.set_cons_zero, List.set_cons_succ])
            refine wpAnyH_take (i := 17) (oi := { dst := some 48, op := Op.move (Operand.tmp 4), type := 3, pos := "row.go:44", after := #[], guard := none }) (v := ?_) rfl (by kernel_rfl) (by kernel_rfl) (by kernel_rfl) (fun _ _ _ h => h) (Or.inl ⟨by rfl, ?_⟩) hHeld ?_
            rotate_left
            · (intro w hSw; have p0 := hSw.1; have p1 := hSw.2.1; have p2 := hSw.2.2.1; have p3 := hSw.2.2.2; go_simp; try with_reducible rfl)
            (try simp only [Act.put, List.setIfInBounds_toArray, List.set_cons_zero, List.set_cons_succ])
            refine wpAnyH_ready (rs := [18]) (by kernel_rfl) (by simp) (AllReadyH.cons (o := { dst := some 49, op := Op.buildSlice 22 1 #[(0, Operand.tmp 48)], type := 22, pos := "row.go:44", after := #[{ on := 17, ground := Ground.data }], guard := none }) rfl (fun K hK => ?_) AllReadyH.nil)
            · go_simp
              rw [← HW7.out]
              refine hK.out _ _ HS7.out (fun hHeld => ?_)
              clear hK K
              (try simp only [Act.put, List.setIfInBounds_toArray, List.set_cons_zero, List.set_cons_succ])
              refine wpAnyH_ready (rs := [19]) (by kernel_rfl) (by simp) (AllReadyH.cons (o := { dst := some 50, op := Op.call { callee := Callee.builtin Builtin.append, args := #[Operand.tmp 47, Operand.tmp 49], argTypes := #[22, 22] }, type := 22, pos := "row.go:44", after := #[{ on := 16, ground := Ground.data }, { on := 18, ground := Ground.data }, { on := 10, ground := Ground.chain }], guard := none }) rfl (fun K hK => ?_) AllReadyH.nil)
              · refine wp_append_own_if (by rfl) (.tmp 47) (.tmp 49) 22 rfl b 3 i0 (.int .i64 0) 1 8 Tryz.underlying22 hi hz0 hz1 hz2 rfl (by decide) _ _ _ rfl HOW.out ⟨w6.heap.size, 0, none⟩ 1 1 [i64 k] rfl rfl HNW.out (by simp [Value.oneCell', i64]) (by have := HNN.out; unfold maxLen; omega) (by have := HNN.out; omega) HSZ.out ?_
                intro v' w8 hown hgrow hat
                obtain ⟨a8, c8, rfl⟩ := own_slice hown
                have HOW8 := Lib.hid hown
                have HG8 : Hid (w7.grownBy w8 (Value.slice av nn cv).ownBlock) := Lib.hid hgrow
                have HAT8 : Hid ((Value.slice a8 (nn + 1) c8).ownBlock = (Value.slice av nn cv).ownBlock ∨ (Value.slice a8 (nn + 1) c8).ownBlock = some w7.heap.size) := Lib.hid hat
                have HD8 := Lib.hid (HD7.out.kept hgrow (fun e => map_not HD7.out HOW.out e.symm))
                have HS8 := Lib.hid (HCK.out w8 HG8.out)
                clear hown hgrow hat
                refine hK _ _ HS8.out (fun hHeld => ?_)
                clear hK K
                (try simp only [Act.put, List.setIfInBounds_toArray, List.set_cons_zero, List.set_cons_succ])
                refine wpAnyH_take (i := 20) (oi := { dst := some 51, op := Op.build 44 #[(0, Operand.tmp 35), (1, Operand.tmp 45), (2, Operand.tmp 50)], type := 44, pos := "row.go:44", after := #[{ on := 4, ground := Ground.data }, { on := 14, ground := Ground.data }, { on := 19, ground := Ground.data }], guard := none }) (v := ?_) rfl (by kernel_rfl) (by kernel_rfl) (by kernel_rfl) (fun _ _ _ h => h) (Or.inl ⟨by rfl, ?_⟩) hHeld ?_
                rotate_left
                · (intro w hSw; have p0 := hSw.1; have p1 := hSw.2.1; have p2 := hSw.2.2.1; have p3 := hSw.2.2.2; go_simp; try with_reducible rfl)
                (try simp only [Act.put, List.setIfInBounds_toArray, List.set_cons_zero, List.set_cons_succ])
                refine wpAnyH_ready (rs := [21]) (by kernel_rfl) (by simp) (AllReadyH.cons (o := { dst := none, op := Op.mapUpdate 91 (Operand.tmp 31) (Operand.tmp 33) (Operand.tmp 51), type := 0, pos := "row.go:44", after := #[{ on := 0, ground := Ground.data }, { on := 2, ground := Ground.data }, { on := 20, ground := Ground.data }, { on := 19, ground := Ground.chain }, { on := 0, ground := Ground.phase }, { on := 1, ground := Ground.phase }, { on := 2, ground := Ground.phase }, { on := 3, ground := Ground.phase }, { on := 4, ground := Ground.phase }, { on := 5, ground := Ground.phase }, { on := 6, ground := Ground.phase }, { on := 7, ground := Ground.phase }, { on := 8, ground := Ground.phase }, { on := 9, ground := Ground.phase }, { on := 10, ground := Ground.phase }, { on := 11, ground := Ground.phase }, { on := 12, ground := Ground.phase }, { on := 13, ground := Ground.phase }, { on := 14, ground := Ground.phase }, { on := 15, ground := Ground.phase }, { on := 16, ground := Ground.phase }, { on := 17, ground := Ground.phase }, { on := 18, ground := Ground.phase }, { on := 19, ground := Ground.phase }, { on := 20, ground := Ground.phase }], guard := none }) rfl (fun K hK => ?_) AllReadyH.nil)
                · refine wp_mapUpdate_if (by rfl) (.tmp 31) (.tmp 33) (.tmp 51) 91 rfl 9 44 law9 Tryz.underlying91 RV b s.length D rfl HD8.out (by have := HSN.out; unfold maxLen; omega) (.string ⟨x.p.toArray⟩) (clV x.p false (.slice a8 (nn + 1) c8)) (.string x.p) rfl rfl hxk (.held (clV x.p false (.slice a8 (nn + 1) c8))) [] rfl ?_
                  intro w9 hown9 hgrow9
                  have HO9 := Lib.hid (HO7.out.step k x (by rw [HAV.out]; exact HG8.out) (by rw [← HNE.out]; exact HOW8.out) (by rw [HAV.out]; exact HAT8.out) HD7.out HMS.out hgrow9 (by rw [HQ.out]; exact hown9))
                  have HS9 := Lib.hid (HCL.out w8 w9 HS8.out hgrow9)
                  have HB9 : Hid (Below w.heap.size w w9) := Lib.hid (by have h8 := (HB7.out.grown HG8.out HB7.out.size (fun q hq => by have := (own_in HOW.out hq).1; rw [HBW.out] at this; exact this)); exact h8.grown hgrow9 h8.size (by intro q hq; cases hq; rw [HBW.out]; exact Nat.le_refl _))
                  clear hown9 hgrow9
                  refine hK _ _ HS9.out (fun hHeld => ?_)
                  clear hK K
                  (try simp only [Act.put, List.setIfInBounds_toArray, List.set_cons_zero, List.set_cons_succ])
                  refine wpAnyH_done (by kernel_rfl) ?_ _
                  (try simp only [Exit.inBlock, Exit.then])
                  go_wp2_with fail
                  go_roundw
                  case rel => exact ⟨j + 1, by omega, by go_num, Lib.hid ⟨_, by rw [← HSS.out]; exact HO9.out⟩, HB9⟩
                  case measure => simp [Lib.intOf]; omega
          | true =>
            cases bc with
            | true =>
              refine wp_region_held_drew (S := fun W : World => W.cell? ⟨b7, 0, none⟩ = some (.string ⟨x.p.toArray⟩) ∧ W.cell? ⟨b7, 1, none⟩ = some (.bool true) ∧ W.cell? ⟨b8, 1, none⟩ = some (.bool true) ∧ W.cell? ⟨b8, 2, none⟩ = some (.slice av nn cv)) (by kernel_rfl) ⟨d0, d1, e1, e2⟩ (fun hHeld => ?_)
              refine wpAnyH_take (i := 0) (oi := { dst := some 31, op := Op.move (Operand.tmp 3), type := 91, pos := "row.go:44", after := #[], guard := none }) (v := ?_) rfl (by kernel_rfl) (by kernel_rfl) (by kernel_rfl) (fun _ _ _ h => h) (Or.inl ⟨by rfl, ?_⟩) hHeld ?_
              rotate_left
              · (intro w hSw; have p0 := hSw.1; have p1 := hSw.2.1; have p2 := hSw.2.2.1; have p3 := hSw.2.2.2; go_simp; try with_reducible rfl)
              (try simp only [Act.put, List.setIfInBounds_toArray, List.set_cons_zero, List.set_cons_succ])
              refine wpAnyH_take (i := 1) (oi := { dst := some 32, op := Op.fieldAddr 63 (Operand.tmp 7) 0, type := 0, pos := "row.go:44", after := #[], guard := none }) (v := ?_) rfl (by kernel_rfl) (by kernel_rfl) (by kernel_rfl) (fun _ _ _ h => h) (Or.inl ⟨by rfl, ?_⟩) hHeld ?_
              rotate_left
              · (intro w hSw; have p0 := hSw.1; have p1 := hSw.2.1; have p2 := hSw.2.2.1; have p3 := hSw.2.2.2; go_simp; try with_reducible rfl)
              (try simp only [Act.put, List.setIfInBounds_toArray, List.set_cons_zero, List.set_cons_succ])
              refine wpAnyH_take (i := 2) (oi := { dst := some 33, op := Op.load 9 (Operand.tmp 32), type := 9, pos := "row.go:44", after := #[{ on := 1, ground := Ground.data }], guard := none }) (v := ?_) rfl (by kernel_rfl) (by kernel_rfl) (by kernel_rfl) (fun _ _ _ h => h) (Or.inl ⟨by rfl, ?_⟩) hHeld ?_
              rotate_left
              · (intro w hSw; have p0 := hSw.1; have p1 := hSw.2.1; have p2 := hSw.2.2.1; have p3 := hSw.2.2.2; go_simp; try with_reducible rfl)
              (try simp only [Act.put, List.setIfInBounds_toArray, List.set_cons_zero, List.set_cons_succ])
              refine wpAnyH_take (i := 3) (oi := { dst := some 34, op := Op.fieldAddr 63 (Operand.tmp 7) 0, type := 0, pos := "row.go:44", after := #[], guard := none }) (v := ?_) rfl (by kernel_rfl) (by kernel_rfl) (by kernel_rfl) (fun _ _ _ h => h) (Or.inl ⟨by rfl, ?_⟩) hHeld ?_
              rotate_left
              · (intro w hSw; have p0 := hSw.1; have p1 := hSw.2.1; have p2 := hSw.2.2.1; have p3 := hSw.2.2.2; go_simp; try with_reducible rfl)
              (try simp only [Act.put, List.setIfInBounds_toArray, List.set_cons_zero, List.set_cons_succ])
              refine wpAnyH_take (i := 4) (oi := { dst := some 35, op := Op.load 9 (Operand.tmp 34), type := 9, pos := "row.go:44", after := #[{ on := 3, ground := Ground.data }], guard := none }) (v := ?_) rfl (by kernel_rfl) (by kernel_rfl) (by kernel_rfl) (fun _ _ _ h => h) (Or.inl ⟨by rfl, ?_⟩) hHeld ?_
              rotate_left
              · (intro w hSw; have p0 := hSw.1; have p1 := hSw.2.1; have p2 := hSw.2.2.1; have p3 := hSw.2.2.2; go_simp; try with_reducible rfl)
              (try simp only [Act.put, List.setIfInBounds_toArray, List.set_cons_zero, List.set_cons_succ])
              refine wpAnyH_take (i := 5) (oi := { dst := some 36, op := Op.fieldAddr 63 (Operand.tmp 7) 1, type := 0, pos := "row.go:44", after := #[], guard := none }) (v := ?_) rfl (by kernel_rfl) (by kernel_rfl) (by kernel_rfl) (fun _ _ _ h => h) (Or.inl ⟨by rfl, ?_⟩) hHeld ?_
              rotate_left
              · (intro w hSw; have p0 := hSw.1; have p1 := hSw.2.1; have p2 := hSw.2.2.1; have p3 := hSw.2.2.2; go_simp; try with_reducible rfl)
              (try simp only [Act.put, List.setIfInBounds_toArray, List.set_cons_zero, List.set_cons_succ])
              refine wpAnyH_take (i := 6) (oi := { dst := some 37, op := Op.load 4 (Operand.tmp 36), type := 4, pos := "row.go:44", after := #[{ on := 5, ground := Ground.data }], guard := none }) (v := ?_) rfl (by kernel_rfl) (by kernel_rfl) (by kernel_rfl) (fun _ _ _ h => h) (Or.inl ⟨by rfl, ?_⟩) hHeld ?_
              rotate_left
              · (intro w hSw; have p0 := hSw.1; have p1 := hSw.2.1; have p2 := hSw.2.2.1; have p3 := hSw.2.2.2; go_simp; try with_reducible rfl)
              (try simp only [Act.put, List.setIfInBounds_toArray, List.set_cons_zero, List.set_cons_succ])
              refine wpAnyH_take (i := 7) (oi := { dst := some 38, op := Op.move (Operand.tmp 37), type := 4, pos := "row.go:44", after := #[{ on := 6, ground := Ground.data }], guard := none }) (v := ?_) rfl (by kernel_rfl) (by kernel_rfl) (by kernel_rfl) (fun _ _ _ h => h) (Or.inl ⟨by rfl, ?_⟩) hHeld ?_
              rotate_left
              · (intro w hSw; have p0 := hSw.1; have p1 := hSw.2.1; have p2 := hSw.2.2.1; have p3 := hSw.2.2.2; go_simp; try with_reducible rfl)
              (try simp only [Act.put, List.setIfInBounds_toArray, List.set_cons_zero, List.set_cons_succ])
              refine wpAnyH_take (i := 8) (oi := { dst := some 39, op := Op.fieldAddr 44 (Operand.tmp 8) 1, type := 0, pos := "row.go:44", after := #[{ on := 7, ground := Ground.guard }], guard := some (7, true) }) (v := ?_) rfl (by kernel_rfl) (by kernel_rfl) (by kernel_rfl) (fun _ _ _ h => h) (Or.inl ⟨by rfl, ?_⟩) hHeld ?_
              rotate_left
              · (intro w hSw; have p0 := hSw.1; have p1 := hSw.2.1; have p2 := hSw.2.2.1; have p3 := hSw.2.2.2; go_simp; try with_reducible rfl)
              (try simp only [Act.put, List.setIfInBounds_toArray, List.set_cons_zero, List.set_cons_succ])
              refine wpAnyH_take (i := 9) (oi := { dst := some 40, op := Op.load 4 (Operand.tmp 39), type := 4, pos := "row.go:44", after := #[{ on := 8, ground := Ground.data }, { on := 7, ground := Ground.guard }], guard := some (7, true) }) (v := ?_) rfl (by kernel_rfl) (by kernel_rfl) (by kernel_rfl) (fun _ _ _ h => h) (Or.inl ⟨by rfl, ?_⟩) hHeld ?_
              rotate_left
              · (intro w hSw; have p0 := hSw.1; have p1 := hSw.2.1; have p2 := hSw.2.2.1; have p3 := hSw.2.2.2; go_simp; try with_reducible rfl)
              (try simp only [Act.put, List.setIfInBounds_toArray, List.set_cons_zero, List.set_cons_succ])
              refine wpAnyH_take (i := 10) (oi := { dst := some 41, op := Op.move (Operand.tmp 40), type := 4, pos := "row.go:44", after := #[{ on := 9, ground := Ground.data }, { on := 7, ground := Ground.chain }, { on := 7, ground := Ground.guard }], guard := some (7, true) }) (v := ?_) rfl (by kernel_rfl) (by kernel_rfl) (by kernel_rfl) (fun _ _ _ h => h) (Or.inl ⟨by rfl, ?_⟩) hHeld ?_
              rotate_left
              · (intro w hSw; have p0 := hSw.1; have p1 := hSw.2.1; have p2 := hSw.2.2.1; have p3 := hSw.2.2.2; go_simp; try with_reducible rfl)
              (try simp only [Act.put, List.setIfInBounds_toArray, List.set_cons_zero, List.set_cons_succ])
              refine wpAnyH_take (i := 11) (oi := { dst := some 42, op := Op.move (Operand.tmp 9), type := 4, pos := "row.go:44", after := #[{ on := 10, ground := Ground.guard }], guard := some (10, false) }) (v := undef) rfl (by kernel_rfl) (by kernel_rfl) (by kernel_rfl) (fun _ _ _ h => h) (Or.inr ⟨by rfl, rfl⟩) hHeld ?_
              (try simp only [Act.put, List.setIfInBounds_toArray, List.set_cons_zero, List.set_cons_succ])
              refine wpAnyH_take (i := 12) (oi := { dst := some 43, op := Op.unOp UnOp.not 4 (Operand.tmp 42), type := 4, pos := "row.go:44", after := #[{ on := 11, ground := Ground.data }, { on := 10, ground := Ground.guard }], guard := some (10, false) }) (v := undef) rfl (by kernel_rfl) (by kernel_rfl) (by kernel_rfl) (fun _ _ _ h => h) (Or.inr ⟨by rfl, rfl⟩) hHeld ?_
              (try simp only [Act.put, List.setIfInBounds_toArray, List.set_cons_zero, List.set_cons_succ])
              refine wpAnyH_take (i := 13) (oi := { dst := some 44, op := Op.pick (Operand.tmp 41) (Operand.const (Value.bool true)) (Operand.tmp 43), type := 4, pos := "row.go:44", after := #[{ on := 10, ground := Ground.data }, { on := 12, ground := Ground.data }, { on := 7, ground := Ground.guard }], guard := some (7, true) }) (v := ?_) rfl (by kernel_rfl) (by kernel_rfl) (by kernel_rfl) (fun _ _ _ h => h) (Or.inl ⟨by rfl, ?_⟩) hHeld ?_
              rotate_left
              · (intro w hSw; have p0 := hSw.1; have p1 := hSw.2.1; have p2 := hSw.2.2.1; have p3 := hSw.2.2.2; go_simp; try with_reducible rfl)
              (try simp only [Act.put, List.setIfInBounds_toArray, List.set_cons_zero, List.set_cons_succ])
              refine wpAnyH_take (i := 14) (oi := { dst := some 45, op := Op.pick (Operand.tmp 38) (Operand.tmp 44) (Operand.const (Value.bool false)), type := 4, pos := "row.go:44", after := #[{ on := 7, ground := Ground.data }, { on := 13, ground := Ground.data }], guard := none }) (v := ?_) rfl (by kernel_rfl) (by kernel_rfl) (by kernel_rfl) (fun _ _ _ h => h) (Or.inl ⟨by rfl, ?_⟩) hHeld ?_
              rotate_left
              · (intro w hSw; have p0 := hSw.1; have p1 := hSw.2.1; have p2 := hSw.2.2.1; have p3 := hSw.2.2.2; go_simp; try with_reducible rfl)
              (try simp only [Act.put, List.setIfInBounds_toArray, List.set_cons_zero, List.set_cons_succ])
              refine wpAnyH_take (i := 15) (oi := { dst := some 46, op := Op.fieldAddr 44 (Operand.tmp 8) 2, type := 0, pos := "row.go:44", after := #[], guard := none }) (v := ?_) rfl (by kernel_rfl) (by kernel_rfl) (by kernel_rfl) (fun _ _ _ h => h) (Or.inl ⟨by rfl, ?_⟩) hHeld ?_
              rotate_left
              · (intro w hSw; have p0 := hSw.1; have p1 := hSw.2.1; have p2 := hSw.2.2.1; have p3 := hSw.2.2.2; go_simp; try with_reducible rfl)
              (try simp only [Act.put, List.setIfInBounds_toArray, List.set_cons_zero, List.set_cons_succ])
              refine wpAnyH_take (i := 16) (oi := { dst := some 47, op := Op.load 22 (Operand.tmp 46), type := 22, pos := "row.go:44", after := #[{ on := 15, ground := Ground.data }], guard := none }) (v := ?_) rfl (by kernel_rfl) (by kernel_rfl) (by kernel_rfl) (fun _ _ _ h => h) (Or.inl ⟨by rfl, ?_⟩) hHeld ?_
              rotate_left
              · (intro w hSw; have p0 := hSw.1; have p1 := hSw.2.1; have p2 := hSw.2.2.1; have p3 := hSw.2.2.2; go_simp; try with_reducible rfl)
              (try simp only [Act.put, List.setIfInBounds_toArray, List.set_cons_zero, List.set_cons_succ])
              refine wpAnyH_take (i := 17) (oi := { dst := some 48, op := Op.move (Operand.tmp 4), type := 3, pos := "row.go:44", after := #[], guard := none }) (v := ?_) rfl (by kernel_rfl) (by kernel_rfl) (by kernel_rfl) (fun _ _ _ h => h) (Or.inl ⟨by rfl, ?_⟩) hHeld ?_
              rotate_left
              · (intro w hSw; have p0 := hSw.1; have p1 := hSw.2.1; have p2 := hSw.2.2.1; have p3 := hSw.2.2.2; go_simp; try with_reducible rfl)
              (try simp only [Act.put, List.setIfInBounds_toArray, List.set_cons_zero, List.set_cons_succ])
              refine wpAnyH_ready (rs := [18]) (by kernel_rfl) (by simp) (AllReadyH.cons (o := { dst := some 49, op := Op.buildSlice 22 1 #[(0, Operand.tmp 48)], type := 22, pos := "row.go:44", after := #[{ on := 17, ground := Ground.data }], guard := none }) rfl (fun K hK => ?_) AllReadyH.nil)
              · go_simp
                rw [← HW7.out]
                refine hK.out _ _ HS7.out (fun hHeld => ?_)
                clear hK K
                (try simp only [Act.put, List.setIfInBounds_toArray, List.set_cons_zero, List.set_cons_succ])
                refine wpAnyH_ready (rs := [19]) (by kernel_rfl) (by simp) (AllReadyH.cons (o := { dst := some 50, op := Op.call { callee := Callee.builtin Builtin.append, args := #[Operand.tmp 47, Operand.tmp 49], argTypes := #[22, 22] }, type := 22, pos := "row.go:44", after := #[{ on := 16, ground := Ground.data }, { on := 18, ground := Ground.data }, { on := 10, ground := Ground.chain }], guard := none }) rfl (fun K hK => ?_) AllReadyH.nil)
                · refine wp_append_own_if (by rfl) (.tmp 47) (.tmp 49) 22 rfl b 3 i0 (.int .i64 0) 1 8 Tryz.underlying22 hi hz0 hz1 hz2 rfl (by decide) _ _ _ rfl HOW.out ⟨w6.heap.size, 0, none⟩ 1 1 [i64 k] rfl rfl HNW.out (by simp [Value.oneCell', i64]) (by have := HNN.out; unfold maxLen; omega) (by have := HNN.out; omega) HSZ.out ?_
                  intro v' w8 hown hgrow hat
                  obtain ⟨a8, c8, rfl⟩ := own_slice hown
                  have HOW8 := Lib.hid hown
                  have HG8 : Hid (w7.grownBy w8 (Value.slice av nn cv).ownBlock) := Lib.hid hgrow
                  have HAT8 : Hid ((Value.slice a8 (nn + 1) c8).ownBlock = (Value.slice av nn cv).ownBlock ∨ (Value.slice a8 (nn + 1) c8).ownBlock = some w7.heap.size) := Lib.hid hat
                  have HD8 := Lib.hid (HD7.out.kept hgrow (fun e => map_not HD7.out HOW.out e.symm))
                  have HS8 := Lib.hid (HCK.out w8 HG8.out)
                  clear hown hgrow hat
                  refine hK _ _ HS8.out (fun hHeld => ?_)
                  clear hK K
                  (try simp only [Act.put, List.setIfInBounds_toArray, List.set_cons_zero, List.set_cons_succ])
                  refine wpAnyH_take (i := 20) (oi := { dst := some 51, op := Op.build 44 #[(0, Operand.tmp 35), (1, Operand.tmp 45), (2, Operand.tmp 50)], type := 44, pos := "row.go:44", after := #[{ on := 4, ground := Ground.data }, { on := 14, ground := Ground.data }, { on := 19, ground := Ground.data }], guard := none }) (v := ?_) rfl (by kernel_rfl) (by kernel_rfl) (by kernel_rfl) (fun _ _ _ h => h) (Or.inl ⟨by rfl, ?_⟩) hHeld ?_
                  rotate_left
                  · (intro w hSw; have p0 := hSw.1; have p1 := hSw.2.1; have p2 := hSw.2.2.1; have p3 := hSw.2.2.2; go_simp; try with_reducible rfl)
                  (try simp only [Act.put, List.setIfInBounds_toArray, List.set_cons_zero, List.set_cons_succ])
                  refine wpAnyH_ready (rs := [21]) (by kernel_rfl) (by simp) (AllReadyH.cons (o := { dst := none, op := Op.mapUpdate 91 (Operand.tmp 31) (Operand.tmp 33) (Operand.tmp 51), type := 0, pos := "row.go:44", after := #[{ on := 0, ground := Ground.data }, { on := 2, ground := Ground.data }, { on := 20, ground := Ground.data }, { on := 19, ground := Ground.chain }, { on := 0, ground := Ground.phase }, { on := 1, ground := Ground.phase }, { on := 2, ground := Ground.phase }, { on := 3, ground := Ground.phase }, { on := 4, ground := Ground.phase }, { on := 5, ground := Ground.phase }, { on := 6, ground := Ground.phase }, { on := 7, ground := Ground.phase }, { on := 8, ground := Ground.phase }, { on := 9, ground := Ground.phase }, { on := 10, ground := Ground.phase }, { on := 11, ground := Ground.phase }, { on := 12, ground := Ground.phase }, { on := 13, ground := Ground.phase }, { on := 14, ground := Ground.phase }, { on := 15, ground := Ground.phase }, { on := 16, ground := Ground.phase }, { on := 17, ground := Ground.phase }, { on := 18, ground := Ground.phase }, { on := 19, ground := Ground.phase }, { on := 20, ground := Ground.phase }], guard := none }) rfl (fun K hK => ?_) AllReadyH.nil)
                  · refine wp_mapUpdate_if (by rfl) (.tmp 31) (.tmp 33) (.tmp 51) 91 rfl 9 44 law9 Tryz.underlying91 RV b s.length D rfl HD8.out (by have := HSN.out; unfold maxLen; omega) (.string ⟨x.p.toArray⟩) (clV x.p true (.slice a8 (nn + 1) c8)) (.string x.p) rfl rfl hxk (.held (clV x.p true (.slice a8 (nn + 1) c8))) [] rfl ?_
                    intro w9 hown9 hgrow9
                    have HO9 := Lib.hid (HO7.out.step k x (by rw [HAV.out]; exact HG8.out) (by rw [← HNE.out]; exact HOW8.out) (by rw [HAV.out]; exact HAT8.out) HD7.out HMS.out hgrow9 (by rw [HQ.out]; exact hown9))
                    have HS9 := Lib.hid (HCL.out w8 w9 HS8.out hgrow9)
                    have HB9 : Hid (Below w.heap.size w w9) := Lib.hid (by have h8 := (HB7.out.grown HG8.out HB7.out.size (fun q hq => by have := (own_in HOW.out hq).1; rw [HBW.out] at this; exact this)); exact h8.grown hgrow9 h8.size (by intro q hq; cases hq; rw [HBW.out]; exact Nat.le_refl _))
                    clear hown9 hgrow9
                    refine hK _ _ HS9.out (fun hHeld => ?_)
                    clear hK K
                    (try simp only [Act.put, List.setIfInBounds_toArray, List.set_cons_zero, List.set_cons_succ])
                    refine wpAnyH_done (by kernel_rfl) ?_ _
                    (try simp only [Exit.inBlock, Exit.then])
                    go_wp2_with fail
                    go_roundw
                    case rel => exact ⟨j + 1, by omega, by go_num, Lib.hid ⟨_, by rw [← HSS.out]; exact HO9.out⟩, HB9⟩
                    case measure => simp [Lib.intOf]; omega
            | false =>
              refine wp_region_held_drew (S := fun W : World => W.cell? ⟨b7, 0, none⟩ = some (.string ⟨x.p.toArray⟩) ∧ W.cell? ⟨b7, 1, none⟩ = some (.bool true) ∧ W.cell? ⟨b8, 1, none⟩ = some (.bool false) ∧ W.cell? ⟨b8, 2, none⟩ = some (.slice av nn cv)) (by kernel_rfl) ⟨d0, d1, e1, e2⟩ (fun hHeld => ?_)
              refine wpAnyH_take (i := 0) (oi := { dst := some 31, op := Op.move (Operand.tmp 3), type := 91, pos := "row.go:44", after := #[], guard := none }) (v := ?_) rfl (by kernel_rfl) (by kernel_rfl) (by kernel_rfl) (fun _ _ _ h => h) (Or.inl ⟨by rfl, ?_⟩) hHeld ?_
              rotate_left
              · (intro w hSw; have p0 := hSw.1; have p1 := hSw.2.1; have p2 := hSw.2.2.1; have p3 := hSw.2.2.2; go_simp; try with_reducible rfl)
              (try simp only [Act.put, List.setIfInBounds_toArray, List.set_cons_zero, List.set_cons_succ])
              refine wpAnyH_take (i := 1) (oi := { dst := some 32, op := Op.fieldAddr 63 (Operand.tmp 7) 0, type := 0, pos := "row.go:44", after := #[], guard := none }) (v := ?_) rfl (by kernel_rfl) (by kernel_rfl) (by kernel_rfl) (fun _ _ _ h => h) (Or.inl ⟨by rfl, ?_⟩) hHeld ?_
              rotate_left
              · (intro w hSw; have p0 := hSw.1; have p1 := hSw.2.1; have p2 := hSw.2.2.1; have p3 := hSw.2.2.2; go_simp; try with_reducible rfl)
              (try simp only [Act.put, List.setIfInBounds_toArray, List.set_cons_zero, List.set_cons_succ])
              refine wpAnyH_take (i := 2) (oi := { dst := some 33, op := Op.load 9 (Operand.tmp 32), type := 9, pos := "row.go:44", after := #[{ on := 1, ground := Ground.data }], guard := none }) (v := ?_) rfl (by kernel_rfl) (by kernel_rfl) (by kernel_rfl) (fun _ _ _ h => h) (Or.inl ⟨by rfl, ?_⟩) hHeld ?_
              rotate_left
              · (intro w hSw; have p0 := hSw.1; have p1 := hSw.2.1; have p2 := hSw.2.2.1; have p3 := hSw.2.2.2; go_simp; try with_reducible rfl)
              (try simp only [Act.put, List.setIfInBounds_toArray, List.set_cons_zero, List.set_cons_succ])
              refine wpAnyH_take (i := 3) (oi := { dst := some 34, op := Op.fieldAddr 63 (Operand.tmp 7) 0, type := 0, pos := "row.go:44", after := #[], guard := none }) (v := ?_) rfl (by kernel_rfl) (by kernel_rfl) (by kernel_rfl) (fun _ _ _ h => h) (Or.inl ⟨by rfl, ?_⟩) hHeld ?_
              rotate_left
              · (intro w hSw; have p0 := hSw.1; have p1 := hSw.2.1; have p2 := hSw.2.2.1; have p3 := hSw.2.2.2; go_simp; try with_reducible rfl)
              (try simp only [Act.put, List.setIfInBounds_toArray, List.set_cons_zero, List.set_cons_succ])
              refine wpAnyH_take (i := 4) (oi := { dst := some 35, op := Op.load 9 (Operand.tmp 34), type := 9, pos := "row.go:44", after := #[{ on := 3, ground := Ground.data }], guard := none }) (v := ?_) rfl (by kernel_rfl) (by kernel_rfl) (by kernel_rfl) (fun _ _ _ h => h) (Or.inl ⟨by rfl, ?_⟩) hHeld ?_
              rotate_left
              · (intro w hSw; have p0 := hSw.1; have p1 := hSw.2.1; have p2 := hSw.2.2.1; have p3 := hSw.2.2.2; go_simp; try with_reducible rfl)
              (try simp only [Act.put, List.setIfInBounds_toArray, List.set_cons_zero, List.set_cons_succ])
              refine wpAnyH_take (i := 5) (oi := { dst := some 36, op := Op.fieldAddr 63 (Operand.tmp 7) 1, type := 0, pos := "row.go:44", after := #[], guard := none }) (v := ?_) rfl (by kernel_rfl) (by kernel_rfl) (by kernel_rfl) (fun _ _ _ h => h) (Or.inl ⟨by rfl, ?_⟩) hHeld ?_
              rotate_left
              · (intro w hSw; have p0 := hSw.1; have p1 := hSw.2.1; have p2 := hSw.2.2.1; have p3 := hSw.2.2.2; go_simp; try with_reducible rfl)
              (try simp only [Act.put, List.setIfInBounds_toArray, List.set_cons_zero, List.set_cons_succ])
              refine wpAnyH_take (i := 6) (oi := { dst := some 37, op := Op.load 4 (Operand.tmp 36), type := 4, pos := "row.go:44", after := #[{ on := 5, ground := Ground.data }], guard := none }) (v := ?_) rfl (by kernel_rfl) (by kernel_rfl) (by kernel_rfl) (fun _ _ _ h => h) (Or.inl ⟨by rfl, ?_⟩) hHeld ?_
              rotate_left
              · (intro w hSw; have p0 := hSw.1; have p1 := hSw.2.1; have p2 := hSw.2.2.1; have p3 := hSw.2.2.2; go_simp; try with_reducible rfl)
              (try simp only [Act.put, List.setIfInBounds_toArray, List.set_cons_zero, List.set_cons_succ])
              refine wpAnyH_take (i := 7) (oi := { dst := some 38, op := Op.move (Operand.tmp 37), type := 4, pos := "row.go:44", after := #[{ on := 6, ground := Ground.data }], guard := none }) (v := ?_) rfl (by kernel_rfl) (by kernel_rfl) (by kernel_rfl) (fun _ _ _ h => h) (Or.inl ⟨by rfl, ?_⟩) hHeld ?_
              rotate_left
              · (intro w hSw; have p0 := hSw.1; have p1 := hSw.2.1; have p2 := hSw.2.2.1; have p3 := hSw.2.2.2; go_simp; try with_reducible rfl)
              (try simp only [Act.put, List.setIfInBounds_toArray, List.set_cons_zero, List.set_cons_succ])
              refine wpAnyH_take (i := 8) (oi := { dst := some 39, op := Op.fieldAddr 44 (Operand.tmp 8) 1, type := 0, pos := "row.go:44", after := #[{ on := 7, ground := Ground.guard }], guard := some (7, true) }) (v := ?_) rfl (by kernel_rfl) (by kernel_rfl) (by kernel_rfl) (fun _ _ _ h => h) (Or.inl ⟨by rfl, ?_⟩) hHeld ?_
              rotate_left
              · (intro w hSw; have p0 := hSw.1; have p1 := hSw.2.1; have p2 := hSw.2.2.1; have p3 := hSw.2.2.2; go_simp; try with_reducible rfl)
              (try simp only [Act.put, List.setIfInBounds_toArray, List.set_cons_zero, List.set_cons_succ])
              refine wpAnyH_take (i := 9) (oi := { dst := some 40, op := Op.load 4 (Operand.tmp 39), type := 4, pos := "row.go:44", after := #[{ on := 8, ground := Ground.data }, { on := 7, ground := Ground.guard }], guard := some (7, true) }) (v := ?_) rfl (by kernel_rfl) (by kernel_rfl) (by kernel_rfl) (fun _ _ _ h => h) (Or.inl ⟨by rfl, ?_⟩) hHeld ?_
              rotate_left
              · (intro w hSw; have p0 := hSw.1; have p1 := hSw.2.1; have p2 := hSw.2.2.1; have p3 := hSw.2.2.2; go_simp; try with_reducible rfl)
              (try simp only [Act.put, List.setIfInBounds_toArray, List.set_cons_zero, List.set_cons_succ])
              refine wpAnyH_take (i := 10) (oi := { dst := some 41, op := Op.move (Operand.tmp 40), type := 4, pos := "row.go:44", after := #[{ on := 9, ground := Ground.data }, { on := 7, ground := Ground.chain }, { on := 7, ground := Ground.guard }], guard := some (7, true) }) (v := ?_) rfl (by kernel_rfl) (by kernel_rfl) (by kernel_rfl) (fun _ _ _ h => h) (Or.inl ⟨by rfl, ?_⟩) hHeld ?_
              rotate_left
              · (intro w hSw; have p0 := hSw.1; have p1 := hSw.2.1; have p2 := hSw.2.2.1; have p3 := hSw.2.2.2; go_simp; try with_reducible rfl)
              (try simp only [Act.put, List.setIfInBounds_toArray, List.set_cons_zero, List.set_cons_succ])
              refine wpAnyH_take (i := 11) (oi := { dst := some 42, op := Op.move (Operand.tmp 9), type := 4, pos := "row.go:44", after := #[{ on := 10, ground := Ground.guard }], guard := some (10, false) }) (v := ?_) rfl (by kernel_rfl) (by kernel_rfl) (by kernel_rfl) (fun _ _ _ h => h) (Or.inl ⟨by rfl, ?_⟩) hHeld ?_
              rotate_left
              · (intro w hSw; have p0 := hSw.1; have p1 := hSw.2.1; have p2 := hSw.2.2.1; have p3 := hSw.2.2.2; go_simp; try with_reducible rfl)
              (try simp only [Act.put, List.setIfInBounds_toArray, List.set_cons_zero, List.set_cons_succ])
              refine wpAnyH_take (i := 12) (oi := { dst := some 43, op := Op.unOp UnOp.not 4 (Operand.tmp 42), type := 4, pos := "row.go:44", after := #[{ on := 11, ground := Ground.data }, { on := 10, ground := Ground.guard }], guard := some (10, false) }) (v := ?_) rfl (by kernel_rfl) (by kernel_rfl) (by kernel_rfl) (fun _ _ _ h => h) (Or.inl ⟨by rfl, ?_⟩) hHeld ?_
              rotate_left
              · (intro w hSw; have p0 := hSw.1; have p1 := hSw.2.1; have p2 := hSw.2.2.1; have p3 := hSw.2.2.2; go_simp; try with_reducible rfl)
              (try simp only [Act.put, List.setIfInBounds_toArray, List.set_cons_zero, List.set_cons_succ])
              refine wpAnyH_take (i := 13) (oi := { dst := some 44, op := Op.pick (Operand.tmp 41) (Operand.const (Value.bool true)) (Operand.tmp 43), type := 4, pos := "row.go:44", after := #[{ on := 10, ground := Ground.data }, { on := 12, ground := Ground.data }, { on := 7, ground := Ground.guard }], guard := some (7, true) }) (v := ?_) rfl (by kernel_rfl) (by kernel_rfl) (by kernel_rfl) (fun _ _ _ h => h) (Or.inl ⟨by rfl, ?_⟩) hHeld ?_
              rotate_left
              · (intro w hSw; have p0 := hSw.1; have p1 := hSw.2.1; have p2 := hSw.2.2.1; have p3 := hSw.2.2.2; go_simp; try with_reducible rfl)
              (try simp only [Act.put, List.setIfInBounds_toArray, List.set_cons_zero, List.set_cons_succ])
              refine wpAnyH_take (i := 14) (oi := { dst := some 45, op := Op.pick (Operand.tmp 38) (Operand.tmp 44) (Operand.const (Value.bool false)), type := 4, pos := "row.go:44", after := #[{ on := 7, ground := Ground.data }, { on := 13, ground := Ground.data }], guard := none }) (v := ?_) rfl (by kernel_rfl) (by kernel_rfl) (by kernel_rfl) (fun _ _ _ h => h) (Or.inl ⟨by rfl, ?_⟩) hHeld ?_
              rotate_left
              · (intro w hSw; have p0 := hSw.1; have p1 := hSw.2.1; have p2 := hSw.2.2.1; have p3 := hSw.2.2.2; go_simp; try with_reducible rfl)
              (try simp only [Act.put, List.setIfInBounds_toArray, List.set_cons_zero, List.set_cons_succ])
              refine wpAnyH_take (i := 15) (oi := { dst := some 46, op := Op.fieldAddr 44 (Operand.tmp 8) 2, type := 0, pos := "row.go:44", after := #[], guard := none }) (v := ?_) rfl (by kernel_rfl) (by kernel_rfl) (by kernel_rfl) (fun _ _ _ h => h) (Or.inl ⟨by rfl, ?_⟩) hHeld ?_
              rotate_left
              · (intro w hSw; have p0 := hSw.1; have p1 := hSw.2.1; have p2 := hSw.2.2.1; have p3 := hSw.2.2.2; go_simp; try with_reducible rfl)
              (try simp only [Act.put, List.setIfInBounds_toArray, List.set_cons_zero, List.set_cons_succ])
              refine wpAnyH_take (i := 16) (oi := { dst := some 47, op := Op.load 22 (Operand.tmp 46), type := 22, pos := "row.go:44", after := #[{ on := 15, ground := Ground.data }], guard := none }) (v := ?_) rfl (by kernel_rfl) (by kernel_rfl) (by kernel_rfl) (fun _ _ _ h => h) (Or.inl ⟨by rfl, ?_⟩) hHeld ?_
              rotate_left
              · (intro w hSw; have p0 := hSw.1; have p1 := hSw.2.1; have p2 := hSw.2.2.1; have p3 := hSw.2.2.2; go_simp; try with_reducible rfl)
              (try simp only [Act.put, List.setIfInBounds_toArray, List.set_cons_zero, List.set_cons_succ])
              refine wpAnyH_take (i := 17) (oi := { dst := some 48, op := Op.move (Operand.tmp 4), type := 3, pos := "row.go:44", after := #[], guard := none }) (v := ?_) rfl (by kernel_rfl) (by kernel_rfl) (by kernel_rfl) (fun _ _ _ h => h) (Or.inl ⟨by rfl, ?_⟩) hHeld ?_
              rotate_left
              · (intro w hSw; have p0 := hSw.1; have p1 := hSw.2.1; have p2 := hSw.2.2.1; have p3 := hSw.2.2.2; go_simp; try with_reducible rfl)
              (try simp only [Act.put, List.setIfInBounds_toArray, List.set_cons_zero, List.set_cons_succ])
              refine wpAnyH_ready (rs := [18]) (by kernel_rfl) (by simp) (AllReadyH.cons (o := { dst := some 49, op := Op.buildSlice 22 1 #[(0, Operand.tmp 48)], type := 22, pos := "row.go:44", after := #[{ on := 17, ground := Ground.data }], guard := none }) rfl (fun K hK => ?_) AllReadyH.nil)
              · go_simp
                rw [← HW7.out]
                refine hK.out _ _ HS7.out (fun hHeld => ?_)
                clear hK K
                (try simp only [Act.put, List.setIfInBounds_toArray, List.set_cons_zero, List.set_cons_succ])
                refine wpAnyH_ready (rs := [19]) (by kernel_rfl) (by simp) (AllReadyH.cons (o := { dst := some 50, op := Op.call { callee := Callee.builtin Builtin.append, args := #[Operand.tmp 47, Operand.tmp 49], argTypes := #[22, 22] }, type := 22, pos := "row.go:44", after := #[{ on := 16, ground := Ground.data }, { on := 18, ground := Ground.data }, { on := 10, ground := Ground.chain }], guard := none }) rfl (fun K hK => ?_) AllReadyH.nil)
                · refine wp_append_own_if (by rfl) (.tmp 47) (.tmp 49) 22 rfl b 3 i0 (.int .i64 0) 1 8 Tryz.underlying22 hi hz0 hz1 hz2 rfl (by decide) _ _ _ rfl HOW.out ⟨w6.heap.size, 0, none⟩ 1 1 [i64 k] rfl rfl HNW.out (by simp [Value.oneCell', i64]) (by have := HNN.out; unfold maxLen; omega) (by have := HNN.out; omega) HSZ.out ?_
                  intro v' w8 hown hgrow hat
                  obtain ⟨a8, c8, rfl⟩ := own_slice hown
                  have HOW8 := Lib.hid hown
                  have HG8 : Hid (w7.grownBy w8 (Value.slice av nn cv).ownBlock) := Lib.hid hgrow
                  have HAT8 : Hid ((Value.slice a8 (nn + 1) c8).ownBlock = (Value.slice av nn cv).ownBlock ∨ (Value.slice a8 (nn + 1) c8).ownBlock = some w7.heap.size) := Lib.hid hat
                  have HD8 := Lib.hid (HD7.out.kept hgrow (fun e => map_not HD7.out HOW.out e.symm))
                  have HS8 := Lib.hid (HCK.out w8 HG8.out)
                  clear hown hgrow hat
                  refine hK _ _ HS8.out (fun hHeld => ?_)
                  clear hK K
                  (try simp only [Act.put, List.setIfInBounds_toArray, List.set_cons_zero, List.set_cons_succ])
                  refine wpAnyH_take (i := 20) (oi := { dst := some 51, op := Op.build 44 #[(0, Operand.tmp 35), (1, Operand.tmp 45), (2, Operand.tmp 50)], type := 44, pos := "row.go:44", after := #[{ on := 4, ground := Ground.data }, { on := 14, ground := Ground.data }, { on := 19, ground := Ground.data }], guard := none }) (v := ?_) rfl (by kernel_rfl) (by kernel_rfl) (by kernel_rfl) (fun _ _ _ h => h) (Or.inl ⟨by rfl, ?_⟩) hHeld ?_
                  rotate_left
                  · (intro w hSw; have p0 := hSw.1; have p1 := hSw.2.1; have p2 := hSw.2.2.1; have p3 := hSw.2.2.2; go_simp; try with_reducible rfl)
                  (try simp only [Act.put, List.setIfInBounds_toArray, List.set_cons_zero, List.set_cons_succ])
                  refine wpAnyH_ready (rs := [21]) (by kernel_rfl) (by simp) (AllReadyH.cons (o := { dst := none, op := Op.mapUpdate 91 (Operand.tmp 31) (Operand.tmp 33) (Operand.tmp 51), type := 0, pos := "row.go:44", after := #[{ on := 0, ground := Ground.data }, { on := 2, ground := Ground.data }, { on := 20, ground := Ground.data }, { on := 19, ground := Ground.chain }, { on := 0, ground := Ground.phase }, { on := 1, ground := Ground.phase }, { on := 2, ground := Ground.phase }, { on := 3, ground := Ground.phase }, { on := 4, ground := Ground.phase }, { on := 5, ground := Ground.phase }, { on := 6, ground := Ground.phase }, { on := 7, ground := Ground.phase }, { on := 8, ground := Ground.phase }, { on := 9, ground := Ground.phase }, { on := 10, ground := Ground.phase }, { on := 11, ground := Ground.phase }, { on := 12, ground := Ground.phase }, { on := 13, ground := Ground.phase }, { on := 14, ground := Ground.phase }, { on := 15, ground := Ground.phase }, { on := 16, ground := Ground.phase }, { on := 17, ground := Ground.phase }, { on := 18, ground := Ground.phase }, { on := 19, ground := Ground.phase }, { on := 20, ground := Ground.phase }], guard := none }) rfl (fun K hK => ?_) AllReadyH.nil)
                  · refine wp_mapUpdate_if (by rfl) (.tmp 31) (.tmp 33) (.tmp 51) 91 rfl 9 44 law9 Tryz.underlying91 RV b s.length D rfl HD8.out (by have := HSN.out; unfold maxLen; omega) (.string ⟨x.p.toArray⟩) (clV x.p (!bh) (.slice a8 (nn + 1) c8)) (.string x.p) rfl rfl hxk (.held (clV x.p (!bh) (.slice a8 (nn + 1) c8))) [] rfl ?_
                    intro w9 hown9 hgrow9
                    have HO9 := Lib.hid (HO7.out.step k x (by rw [HAV.out]; exact HG8.out) (by rw [← HNE.out]; exact HOW8.out) (by rw [HAV.out]; exact HAT8.out) HD7.out HMS.out hgrow9 (by rw [HQ.out]; exact hown9))
                    have HS9 := Lib.hid (HCL.out w8 w9 HS8.out hgrow9)
                    have HB9 : Hid (Below w.heap.size w w9) := Lib.hid (by have h8 := (HB7.out.grown HG8.out HB7.out.size (fun q hq => by have := (own_in HOW.out hq).1; rw [HBW.out] at this; exact this)); exact h8.grown hgrow9 h8.size (by intro q hq; cases hq; rw [HBW.out]; exact Nat.le_refl _))
                    clear hown9 hgrow9
                    refine hK _ _ HS9.out (fun hHeld => ?_)
                    clear hK K
                    (try simp only [Act.put, List.setIfInBounds_toArray, List.set_cons_zero, List.set_cons_succ])
                    refine wpAnyH_done (by kernel_rfl) ?_ _
                    (try simp only [Exit.inBlock, Exit.then])
                    go_wp2_with fail
                    go_roundw
                    case rel => exact ⟨j + 1, by omega, by go_num, Lib.hid ⟨_, by rw [← HSS.out]; exact HO9.out⟩, HB9⟩
                    case measure => simp [Lib.intOf]; omega
        · have k1 : ¬ ((j : Int) < (m : Int)) := by omega
          have HO3 : Hid (∃ V, Owned wp b b (plsL (l.take (k + 1))) V) := Lib.hid (by
            obtain ⟨V, h⟩ := HO2.out
            refine ⟨V, ?_⟩
            rw [plsL_take_snoc l k r HX.out, ← HS0.out]
            rw [List.take_of_length_le (by have := HM.out; omega)] at h
            exact h)
          clear HO2
          go_wp2_with fail
          go_roundw
          case rel => exact ⟨k + 1, by omega, by go_num, HO3, HB2⟩
          case measure => simp [Lib.intOf]; omega
    · have k1 : ¬ ((k : Int) < (n : Int)) := by omega
      have HO3 : Hid (∃ V, Owned wr b b (plsL l) V) := Lib.hid (by
        obtain ⟨V, h⟩ := HO.out
        rw [List.take_of_length_le (by have := HN.out; omega)] at h
        exact ⟨V, h⟩)
      clear HO
      go_wp2_with fail
      go_ret
      obtain ⟨V, h⟩ := HO3.out
      exact ⟨b, V, rfl, by rw [← HBW.out]; exact h, HB.out⟩
end Go.Proofs.YtgmplpfbhcdofaaGreat
