/- Proved here: ShaParts of puncheonlaw03 returns true, whatever bytes and cuts it is called with. -/
import Derived.Test.YtkenbppoldfecaaDoorPart
namespace Go.Proofs.YtkenbppoldfecaaDoor
open Go.RowKit Go.Shelf Go.Joins


/-- What holds where p of the bytes b went in: the sum that goes on in its own block g, what is left, the rows. -/
def Went (b : Bytes) (B : Value) (g : Nat) (p k : Nat) (s6 s7 : Value) (w : World) : Prop :=
  p ≤ b.length ∧ (∃ aR cR, s6 = .slice aR (b.length - p) cR ∧ b.length - p ≤ cR ∧ cR ≤ maxLen ∧ Part B b s6 (b.drop p)) ∧
  (∃ S r q a c, S = wordsOf first (b.take p) ∧ r = restOf (b.take p) ∧ q = r.length ∧ Box w g 52 (runA S (.slice a q c) p) ∧ w.ownsRow (g + 1) 5 1 (.slice a q c) q (bytesV r)) ∧
  ∃ vs ls, w.ownsRow (g + 1) 24 1 s7 vs.length vs ∧ Parts B b vs ls ∧ ls.flatten = b.take p ∧ ls.length = k

set_option maxRecDepth 100000 in
set_option maxHeartbeats 8000000 in
theorem parts_law (l : Bytes) (cs : List Int) (v vc : Value) (t : TypeId) (fr : Nat × Nat) (w : World) (hP : Prim t fr w) (hv : Rd w v (bytesV l)) (hc : Rd w vc (cs.map (Value.int .i64))) : Calls Tryd.prog 5 #[v, vc] w fun e w' => e = .returned (.bool true) ∧ Below w.heap.size w w' := by
  have HP := Lib.hid hP
  have HV := Lib.hid hv
  obtain ⟨ac, cc, rfl, hcl, hcm, _, hcc⟩ := hc
  rw [List.length_map] at hcl hcc ⊢
  unfold maxLen at hcm
  obtain ⟨n, hn⟩ : ∃ n, n = cs.length := ⟨_, rfl⟩
  rw [← hn] at hcl hcc ⊢
  have HN := Lib.hid hn
  have HC := Lib.hid hcc
  clear hP hv hn hcc
  go_enter Tryd.func5, Tryd.ntmps5
  go_wp2_with fail
  refine (wakes_any t fr w HP.out).mono ?_
  rintro e w1 ⟨rfl, hb1⟩
  go_wp2_with fail
  refine (few_any l v w1 (HV.out.on hb1)).mono ?_
  rintro e w2 ⟨v2, rfl, hown, hb2⟩
  have hB2 := bch hb1 hb2
  obtain ⟨b, hb⟩ : ∃ b, b = l.take 2000 := ⟨_, rfl⟩
  have hbl : b.length ≤ 2000 := by rw [hb, List.length_take]; omega
  rw [← hb] at hown
  have hR2 := Rd.of_own hown
  obtain ⟨a, cap, rfl, hlc, hcm2, _⟩ := id hR2
  rw [bytesV_len] at hlc hR2 ⊢
  unfold maxLen at hcm2
  obtain ⟨m, hm⟩ : ∃ m, m = b.length := ⟨_, rfl⟩
  rw [← hm] at hlc hR2 hbl ⊢
  have HB2 := Lib.hid hB2
  have HR2 := Lib.hid hR2
  have HM := Lib.hid hm
  have HBL := Lib.hid hbl
  clear hb hown hR2 hB2 hb1 hb2 hm
  go_wp2_with fail
  refine (begin_q t fr _ (HP.out.on HB2.out)).mono ?_
  rintro e w3 ⟨rfl, hb3⟩
  have HB3 := Lib.hid (bch HB2.out hb3)
  have HR3 := Lib.hid (HR2.out.on hb3)
  have Z4 : Hid (Box (w3.alloc (.cells zeroR 52)) w3.heap.size 52 zeroR) := Lib.hid (box_new _ _ _ rfl)
  have Y4 : Hid (Box ((w3.alloc (.cells zeroR 52)).setRow w3.heap.size (runA first nilS 0)) w3.heap.size 52 (runA first nilS 0)) := Lib.hid (Z4.out.row _)
  have HW4 : Hid (Below w3.heap.size w3 ((w3.alloc (.cells zeroR 52)).setRow w3.heap.size (runA first nilS 0))) := Lib.hid (below_row ((Below.refl _ _).alloc (Nat.le_refl _) _) (Nat.le_refl _) _)
  clear hb3
  go_upto_block 0 with (first
    | (with_reducible refine wpList_zero rfl 52 rfl zeroR zero52 ?_)
    | (refine wpList_store_row rfl 52 (.tmp 5) (.tmp 22) rfl w3.heap.size (runA first nilS 0) rfl rfl 52 zeroR Z4.out info52 rfl (runA_one _ _ _ _ _) ?_))
  obtain ⟨w4, hw4⟩ : ∃ x, x = (w3.alloc (.cells zeroR 52)).setRow w3.heap.size (runA first nilS 0) := ⟨_, rfl⟩
  obtain ⟨g5, hg5⟩ : ∃ x, x = w3.heap.size := ⟨_, rfl⟩
  rw [← hw4] at Y4 HW4 ⊢
  rw [← hg5] at Y4 ⊢
  have HG5 := Lib.hid hg5
  clear hw4 Z4
  have st : Hid (Went b (.slice a m cap) g5 0 0 (.slice a m cap) (.slice none 0 0) w4) := Lib.hid ⟨Nat.zero_le _, ⟨a, cap, by rw [Nat.sub_zero, ← HM.out], by have := HM.out; omega, hcm2, by rw [List.drop_zero]; exact Part.whole _ _⟩, ⟨first, [], 0, none, 0, by rw [List.take_zero]; rfl, by rw [List.take_zero]; rfl, rfl, Y4.out, World.ownsRow_nil _ _ _ _⟩, [], [], World.ownsRow_nil _ _ _ _, Parts.nil _ _, by rw [List.take_zero]; rfl, rfl⟩
  clear hg5 Y4
  go_cut [6, 7] (fun s6 s7 wx => ∃ p k, k ≤ 8 ∧ Hid (Went b (.slice a m cap) g5 p k s6 s7 wx) ∧ Hid (Below w3.heap.size w3 wx))
  case first =>
    rename_i J2 K2 hJ hK2
    go_wp2_with fail
    go_loopg [6, 7, 26] n (fun gk s6 s7 s26 wx => ∃ k p, k ≤ n ∧ k ≤ 8 ∧ gk = n - k ∧ s26 = .int .i64 k ∧ Hid (Went b (.slice a m cap) g5 p k s6 s7 wx) ∧ Hid (Below w3.heap.size w3 wx))
    case atStart => exact ⟨0, 0, Nat.zero_le _, Nat.zero_le _, rfl, rfl, st, HW4⟩
    case round =>
      obtain ⟨k, p, hk, hk8, hgk, rfl, HW, HBW⟩ := hrel
      by_cases hlt : k < n
      · obtain ⟨z, hz⟩ : ∃ z, cs[k]? = some z := ⟨_, List.getElem?_eq_getElem (by have := HN.out; omega)⟩
        obtain ⟨gc, oc, rfl, hgc, hcell⟩ := HC.out (by omega)
        have ck : wr.cell? ⟨gc, oc + k, none⟩ = some (.int .i64 z) := ((bch HB3.out HBW.out).cell (p := ⟨gc, _, none⟩) hgc).trans (hcell k _ (by rw [List.getElem?_map, hz]; rfl))
        have kn : (k : Int) < (n : Int) := by omega
        clear hcell hz
        by_cases h8 : k = 8
        · have d8 : ((k : Int) == 8) = true := by simp [h8]
          have H8 := Lib.hid h8
          clear h8
          go_wp2_with fail
          refine Met.intro (hJ _ _ ?_)
          (repeat apply Exists.intro)
          refine ⟨?_, rfl⟩
          exact ⟨p, k, hk8, HW, HBW⟩
        · have d8 : ((k : Int) == 8) = false := by simp; omega
          obtain ⟨hp, ⟨aR, cR, hs6, hRl, hRm, PR⟩, hrest⟩ := HW.out
          subst hs6
          obtain ⟨rl, hrl⟩ : ∃ rl, rl = b.length - p := ⟨_, rfl⟩
          rw [← hrl] at hRl PR ⊢
          unfold maxLen at hRm
          have e4 : IntKind.i64.wrap ((rl : Int) + 1) = (rl : Int) + 1 := IntWalk.i64_in _ (by have := HBL.out; have := HM.out; omega)
          have e5 : IntKind.u64.wrap ((rl : Int) + 1) = (rl : Int) + 1 := IntWalk.u64_in _ (by have := HBL.out; have := HM.out; omega)
          have HRL := Lib.hid hrl
          have HPR := Lib.hid PR
          have HRE := Lib.hid hrest
          have HRLc := Lib.hid hRl
          have HCM : Hid (cR ≤ 9223372036854775807) := Lib.hid (by omega)
          have HPB := Lib.hid hp
          clear hrl PR hrest hRl hRm hp
          go_wp2_with fail
          obtain ⟨kk, hkk, hkl⟩ : ∃ kk : Nat, wrap64 ((IntKind.u64.wrap z).tmod ((rl : Int) + 1)) = (kk : Int) ∧ kk ≤ rl := by
            have hU : (0 : Int) ≤ IntKind.u64.wrap z := by
              have e : IntKind.u64.wrap z = z % 18446744073709551616 := by simp [IntKind.wrap, IntKind.bits, IntKind.signed]
              rw [e]
              omega
            have hm := HBL.out
            have hrl := HRL.out
            have hm2 := HM.out
            generalize IntKind.u64.wrap z = U at hU
            have h1 : 0 ≤ U.tmod ((rl : Int) + 1) := Int.tmod_nonneg _ hU
            have h2 : U.tmod ((rl : Int) + 1) < (rl : Int) + 1 := Int.tmod_lt_of_pos _ (by omega)
            refine ⟨(U.tmod ((rl : Int) + 1)).toNat, ?_, by omega⟩
            rw [IntWalk.wrap64_in _ (by omega)]
            omega
          rw [hkk]
          clear hkk e4 e5 ck kn d8
          have k1 : (0 : Int) ≤ (kk : Int) := by omega
          have k2 : (kk : Int) ≤ (rl : Int) := by omega
          have k3 : (kk : Int) ≤ (cR : Int) := by have := HRLc.out; omega
          obtain ⟨⟨S, r, q, a5, c5, hS, hr, hq, X, O⟩, vs, ls, OR, PL, hfl, hls⟩ := HRE.out
          obtain ⟨pk, hpk⟩ : ∃ pk, pk = p + kk := ⟨_, rfl⟩
          obtain ⟨S1, hS1⟩ : ∃ S, S = wordsOf first (b.take pk) := ⟨_, rfl⟩
          obtain ⟨r1, hr1⟩ : ∃ r, r = restOf (b.take pk) := ⟨_, rfl⟩
          obtain ⟨q1, hq1⟩ : ∃ q, q = r1.length := ⟨_, rfl⟩
          have HRB : Hid (Rd wr (.slice a m cap) (bytesV b)) := Lib.hid (HR3.out.on HBW.out)
          have hpb := HPB.out
          have hrl := HRL.out
          have hmb := HM.out
          have hbl9 := HBL.out
          have hxy : b.take p ++ (b.drop p).take kk = b.take pk := by rw [hpk, List.take_add]
          have HMN : Hid (∀ W, Below wr.heap.size wr W → Calls Tryd.prog 20 #[.agg (runA S (.slice a5 q c5) p), .slice aR kk cR] W (MoreQ S1 r1 q1 pk W)) := Lib.hid (fun W hW =>
            more_next t fr (b.take p) ((b.drop p).take kk) S r q p hS hr hq (by rw [List.length_take]; omega) S1 r1 q1 pk (by rw [hxy]; exact hS1) (by rw [hxy]; exact hr1) hq1 (by rw [hxy, List.length_take]; omega) a5 c5 _ W (HP.out.on (bch (bch HB3.out HBW.out) hW)) ((Rd.of_own O).on hW) ((HPR.out.take (by rw [List.length_drop]; exact hrl) kk (by omega)) W (HRB.out.on hW)) (by rw [hxy, List.length_take]; omega))
          have HS1 := Lib.hid (Wrapped.mk hS1)
          have Hr1 := Lib.hid (Wrapped.mk hr1)
          have Hq1 := Lib.hid hq1
          have Hpk := Lib.hid hpk
          have HX := Lib.hid X
          have HOR := Lib.hid OR
          have HPL := Lib.hid PL
          have Hfl := Lib.hid (Wrapped.mk hfl)
          have Hls := Lib.hid hls
          have Hkl := Lib.hid hkl
          have HXY := Lib.hid (Wrapped.mk hxy)
          clear hS hr hq X O OR PL hfl hls hpk hS1 hr1 hq1 hxy hpb hrl hmb hbl9 hkl HRE HW
          go_cut [11, 12] (fun p11 ee wx => ∃ h a9 c9, p11 = .pointer (some ⟨h, 0, none⟩) ∧ ee = .int .i64 0 ∧ Hid (wr.heap.size ≤ h ∧ Box wx h 52 (runA S1 (.slice a9 q1 c9) pk) ∧ wx.ownsRow wr.heap.size 5 1 (.slice a9 q1 c9) q1 (bytesV r1)) ∧ Hid (Below wr.heap.size wr wx))
          case first =>
            rename_i J3 K3 hJ3 hK3
            have n5 := range_w2 HX.out
            have l5 := HX.out.lt
            have hu := Tryd.underlying52
            have hi : (Tryd.prog.info? 52).map (·.size) = some 10 := info52
            refine wp_region_held_drew (S := fun w' => Below wr.heap.size wr w') (by kernel_rfl) ((Below.refl _ _).drew) (fun hHeld => ?_)
            refine wpAnyH_take (i := 0) (oi := { dst := some 42, op := Op.load 52 (Operand.tmp 5), type := 52, pos := "outright.go:25", after := #[], guard := none }) (v := _) rfl (by kernel_rfl) (by kernel_rfl) (by kernel_rfl) (fun _ _ _ h => h) (yieldsIf_load_mid (by rfl) 52 (.tmp 5) rfl g5 0 rfl (runV S (.slice a5 q c5) p) _ (fun _ h => range_on n5 h l5) hu rfl hi) hHeld ?_
            (try simp only [Act.put, List.setIfInBounds_toArray, List.set_cons_zero, List.set_cons_succ])
            refine wpAnyH_take (i := 1) (oi := { dst := some 43, op := Op.move (Operand.tmp 6), type := 24, pos := "outright.go:25", after := #[], guard := none }) (v := ?_) rfl (by kernel_rfl) (by kernel_rfl) (by kernel_rfl) (fun _ _ _ h => h) (Or.inl ⟨by rfl, ?_⟩) hHeld ?_
            rotate_left
            · (intro w hSw; go_simp; try with_reducible rfl)
            (try simp only [Act.put, List.setIfInBounds_toArray, List.set_cons_zero, List.set_cons_succ])
            refine wpAnyH_take (i := 2) (oi := { dst := some 44, op := Op.move (Operand.tmp 10), type := 3, pos := "outright.go:25", after := #[], guard := none }) (v := ?_) rfl (by kernel_rfl) (by kernel_rfl) (by kernel_rfl) (fun _ _ _ h => h) (Or.inl ⟨by rfl, ?_⟩) hHeld ?_
            rotate_left
            · (intro w hSw; go_simp; try with_reducible rfl)
            (try simp only [Act.put, List.setIfInBounds_toArray, List.set_cons_zero, List.set_cons_succ])
            refine wpAnyH_take (i := 3) (oi := { dst := some 45, op := Op.slice 24 (Operand.tmp 43) none (some (Operand.tmp 44)) none, type := 24, pos := "outright.go:25", after := #[{ on := 1, ground := Ground.data }, { on := 2, ground := Ground.data }], guard := none }) (v := ?_) rfl (by kernel_rfl) (by kernel_rfl) (by kernel_rfl) (fun _ _ _ h => h) (Or.inl ⟨by rfl, ?_⟩) hHeld ?_
            rotate_left
            · (intro w hSw; go_simp; try with_reducible rfl)
            (try simp only [Act.put, List.setIfInBounds_toArray, List.set_cons_zero, List.set_cons_succ])
            refine wpAnyH_ready (rs := [4, 8]) (by kernel_rfl) (by simp) (AllReadyH.cons (o := { dst := some 46, op := Op.call { callee := Callee.value (Operand.func 20), args := #[Operand.tmp 42, Operand.tmp 45], argTypes := #[52, 24] }, type := 55, pos := "outright.go:25", after := #[{ on := 0, ground := Ground.data }, { on := 3, ground := Ground.data }], guard := none }) rfl (fun K hK => ?_) (AllReadyH.cons (o := { dst := some 11, op := Op.alloc 52, type := 0, pos := "outright.go:25", after := #[], guard := none }) rfl (fun K hK => ?_) AllReadyH.nil))
            · go_simp
              have hsz := hHeld.size
              refine (HMN.out _ hHeld).mono ?_
              rintro e wa ⟨a9, c9, rfl, hown, hba⟩
              refine hK.out _ _ (bch hHeld hba) (fun hHeld => ?_)
              (try simp only [Act.put, List.setIfInBounds_toArray, List.set_cons_zero, List.set_cons_succ])
              refine wpAnyH_take (i := 5) (oi := { dst := some 41, op := Op.move (Operand.tmp 46), type := 55, pos := "outright.go:25", after := #[{ on := 4, ground := Ground.data }], guard := none }) (v := ?_) rfl (by kernel_rfl) (by kernel_rfl) (by kernel_rfl) (fun _ _ _ h => h) (Or.inl ⟨by rfl, ?_⟩) hHeld ?_
              rotate_left
              · (intro w hSw; go_simp; try with_reducible rfl)
              (try simp only [Act.put, List.setIfInBounds_toArray, List.set_cons_zero, List.set_cons_succ])
              refine wpAnyH_take (i := 6) (oi := { dst := some 47, op := Op.extract (Operand.tmp 41) 0, type := 52, pos := "outright.go:25", after := #[{ on := 5, ground := Ground.data }], guard := none }) (v := ?_) rfl (by kernel_rfl) (by kernel_rfl) (by kernel_rfl) (fun _ _ _ h => h) (Or.inl ⟨by rfl, ?_⟩) hHeld ?_
              rotate_left
              · (intro w hSw; go_simp; try with_reducible rfl)
              (try simp only [Act.put, List.setIfInBounds_toArray, List.set_cons_zero, List.set_cons_succ])
              refine wpAnyH_take (i := 7) (oi := { dst := some 48, op := Op.extract (Operand.tmp 41) 1, type := 43, pos := "outright.go:25", after := #[{ on := 5, ground := Ground.data }, { on := 9, ground := Ground.gcOnly Departure.lateStores }], guard := none }) (v := ?_) rfl (by kernel_rfl) (by kernel_rfl) (by kernel_rfl) (fun _ _ _ h => h) (Or.inl ⟨by rfl, ?_⟩) hHeld ?_
              rotate_left
              · (intro w hSw; go_simp; try with_reducible rfl)
              (try simp only [Act.put, List.setIfInBounds_toArray, List.set_cons_zero, List.set_cons_succ])
              refine wpAnyH_ready (rs := [8]) (by kernel_rfl) (by simp) (AllReadyH.cons (o := { dst := some 11, op := Op.alloc 52, type := 0, pos := "outright.go:25", after := #[], guard := none }) rfl (fun K hK => ?_) AllReadyH.nil)
              · go_simp
                obtain ⟨hzl, hz⟩ := box52_new hHeld
                have hfar := fun cs => own_mono (own_on hown.out (below_row (below_new wa (.cells #[z32, z32, z32, z32, z32, z32, z32, z32, nilS, .int .u64 0] 52)) (Nat.le_refl _) cs)) hsz
                refine hK.out _ _ (bch hHeld (below_new _ _)) (fun hHeld => ?_)
                (try simp only [Act.put, List.setIfInBounds_toArray, List.set_cons_zero, List.set_cons_succ])
                refine wpAnyH_ready (rs := [9]) (by kernel_rfl) (by simp) (AllReadyH.cons (o := { dst := none, op := Op.store 52 (Operand.tmp 11) (Operand.tmp 47), type := 0, pos := "outright.go:25", after := #[{ on := 8, ground := Ground.data }, { on := 6, ground := Ground.data }, { on := 4, ground := Ground.chain }, { on := 0, ground := Ground.phase }, { on := 1, ground := Ground.phase }, { on := 2, ground := Ground.phase }, { on := 3, ground := Ground.phase }, { on := 4, ground := Ground.phase }, { on := 5, ground := Ground.phase }, { on := 6, ground := Ground.phase }, { on := 7, ground := Ground.textOnly Departure.lateStores }, { on := 8, ground := Ground.phase }], guard := none }) rfl (fun K hK => ?_) AllReadyH.nil)
                · refine wp_store_if (by rfl) 52 (.tmp 11) (.tmp 47) rfl _ 52 #[z32, z32, z32, z32, z32, z32, z32, z32, nilS, .int .u64 0] (runA S1 (.slice a9 q1 c9) pk) rfl rfl hz info52 rfl (runA_one _ _ _ _ _) ?_
                  have hz2 := hz.row (runA S1 (.slice a9 q1 c9) pk)
                  have hr2 := hfar (runA S1 (.slice a9 q1 c9) pk)
                  have hb2 := below_row hHeld hzl (runA S1 (.slice a9 q1 c9) pk)
                  refine hK.out _ _ hb2 (fun hHeld => ?_)
                  (try simp only [Act.put])
                  refine wpAnyH_take (i := 10) (oi := { dst := some 12, op := Op.assign (Operand.tmp 48), type := 43, pos := "outright.go:25", after := #[{ on := 7, ground := Ground.data }, { on := 9, ground := Ground.chain }, { on := 0, ground := Ground.phase }, { on := 1, ground := Ground.phase }, { on := 2, ground := Ground.phase }, { on := 3, ground := Ground.phase }, { on := 4, ground := Ground.phase }, { on := 5, ground := Ground.phase }, { on := 6, ground := Ground.phase }, { on := 7, ground := Ground.phase }, { on := 8, ground := Ground.phase }, { on := 9, ground := Ground.phase }], guard := none }) (v := ?_) rfl (by kernel_rfl) (by kernel_rfl) (by kernel_rfl) (fun _ _ _ h => h) (Or.inl ⟨by rfl, ?_⟩) hHeld ?_
                  rotate_left
                  · (intro w hSw; go_simp; try with_reducible rfl)
                  (try simp only [Act.put, List.setIfInBounds_toArray, List.set_cons_zero, List.set_cons_succ])
                  refine wpAnyH_done (by kernel_rfl) ?_ _
                  first | refine hK3 _ _ (Met.intro (hJ3 _ _ ?_)) | refine Met.intro (hJ3 _ _ ?_)
                  (repeat apply Exists.intro)
                  refine ⟨?_, rfl⟩
                  exact ⟨_, _, _, rfl, rfl, Lib.hid ⟨hzl, hz2, hr2⟩, Lib.hid hHeld⟩
            · go_simp
              obtain ⟨hzl, hz⟩ := box52_new hHeld
              refine hK.out _ _ (bch hHeld (below_new _ _)) (fun hHeld => ?_)
              (try simp only [Act.put, List.setIfInBounds_toArray, List.set_cons_zero, List.set_cons_succ])
              refine wpAnyH_ready (rs := [4]) (by kernel_rfl) (by simp) (AllReadyH.cons (o := { dst := some 46, op := Op.call { callee := Callee.value (Operand.func 20), args := #[Operand.tmp 42, Operand.tmp 45], argTypes := #[52, 24] }, type := 55, pos := "outright.go:25", after := #[{ on := 0, ground := Ground.data }, { on := 3, ground := Ground.data }], guard := none }) rfl (fun K hK => ?_) AllReadyH.nil)
              · go_simp
                have hsz := hHeld.size
                refine (HMN.out _ hHeld).mono ?_
                rintro e wa ⟨a9, c9, rfl, hown, hba⟩
                have hfar := fun cs => own_far_row' hown.out hz.lt hsz cs
                have hz := hz.below hba hz.lt
                refine hK.out _ _ (bch hHeld hba) (fun hHeld => ?_)
                (try simp only [Act.put, List.setIfInBounds_toArray, List.set_cons_zero, List.set_cons_succ])
                refine wpAnyH_take (i := 5) (oi := { dst := some 41, op := Op.move (Operand.tmp 46), type := 55, pos := "outright.go:25", after := #[{ on := 4, ground := Ground.data }], guard := none }) (v := ?_) rfl (by kernel_rfl) (by kernel_rfl) (by kernel_rfl) (fun _ _ _ h => h) (Or.inl ⟨by rfl, ?_⟩) hHeld ?_
                rotate_left
                · (intro w hSw; go_simp; try with_reducible rfl)
                (try simp only [Act.put, List.setIfInBounds_toArray, List.set_cons_zero, List.set_cons_succ])
                refine wpAnyH_take (i := 6) (oi := { dst := some 47, op := Op.extract (Operand.tmp 41) 0, type := 52, pos := "outright.go:25", after := #[{ on := 5, ground := Ground.data }], guard := none }) (v := ?_) rfl (by kernel_rfl) (by kernel_rfl) (by kernel_rfl) (fun _ _ _ h => h) (Or.inl ⟨by rfl, ?_⟩) hHeld ?_
                rotate_left
                · (intro w hSw; go_simp; try with_reducible rfl)
                (try simp only [Act.put, List.setIfInBounds_toArray, List.set_cons_zero, List.set_cons_succ])
                refine wpAnyH_take (i := 7) (oi := { dst := some 48, op := Op.extract (Operand.tmp 41) 1, type := 43, pos := "outright.go:25", after := #[{ on := 5, ground := Ground.data }, { on := 9, ground := Ground.gcOnly Departure.lateStores }], guard := none }) (v := ?_) rfl (by kernel_rfl) (by kernel_rfl) (by kernel_rfl) (fun _ _ _ h => h) (Or.inl ⟨by rfl, ?_⟩) hHeld ?_
                rotate_left
                · (intro w hSw; go_simp; try with_reducible rfl)
                (try simp only [Act.put, List.setIfInBounds_toArray, List.set_cons_zero, List.set_cons_succ])
                refine wpAnyH_ready (rs := [9]) (by kernel_rfl) (by simp) (AllReadyH.cons (o := { dst := none, op := Op.store 52 (Operand.tmp 11) (Operand.tmp 47), type := 0, pos := "outright.go:25", after := #[{ on := 8, ground := Ground.data }, { on := 6, ground := Ground.data }, { on := 4, ground := Ground.chain }, { on := 0, ground := Ground.phase }, { on := 1, ground := Ground.phase }, { on := 2, ground := Ground.phase }, { on := 3, ground := Ground.phase }, { on := 4, ground := Ground.phase }, { on := 5, ground := Ground.phase }, { on := 6, ground := Ground.phase }, { on := 7, ground := Ground.textOnly Departure.lateStores }, { on := 8, ground := Ground.phase }], guard := none }) rfl (fun K hK => ?_) AllReadyH.nil)
                · refine wp_store_if (by rfl) 52 (.tmp 11) (.tmp 47) rfl _ 52 #[z32, z32, z32, z32, z32, z32, z32, z32, nilS, .int .u64 0] (runA S1 (.slice a9 q1 c9) pk) rfl rfl hz info52 rfl (runA_one _ _ _ _ _) ?_
                  have hz2 := hz.row (runA S1 (.slice a9 q1 c9) pk)
                  have hr2 := hfar (runA S1 (.slice a9 q1 c9) pk)
                  have hb2 := below_row hHeld hzl (runA S1 (.slice a9 q1 c9) pk)
                  refine hK.out _ _ hb2 (fun hHeld => ?_)
                  (try simp only [Act.put])
                  refine wpAnyH_take (i := 10) (oi := { dst := some 12, op := Op.assign (Operand.tmp 48), type := 43, pos := "outright.go:25", after := #[{ on := 7, ground := Ground.data }, { on := 9, ground := Ground.chain }, { on := 0, ground := Ground.phase }, { on := 1, ground := Ground.phase }, { on := 2, ground := Ground.phase }, { on := 3, ground := Ground.phase }, { on := 4, ground := Ground.phase }, { on := 5, ground := Ground.phase }, { on := 6, ground := Ground.phase }, { on := 7, ground := Ground.phase }, { on := 8, ground := Ground.phase }, { on := 9, ground := Ground.phase }], guard := none }) (v := ?_) rfl (by kernel_rfl) (by kernel_rfl) (by kernel_rfl) (fun _ _ _ h => h) (Or.inl ⟨by rfl, ?_⟩) hHeld ?_
                  rotate_left
                  · (intro w hSw; go_simp; try with_reducible rfl)
                  (try simp only [Act.put, List.setIfInBounds_toArray, List.set_cons_zero, List.set_cons_succ])
                  refine wpAnyH_done (by kernel_rfl) ?_ _
                  first | refine hK3 _ _ (Met.intro (hJ3 _ _ ?_)) | refine Met.intro (hJ3 _ _ ?_)
                  (repeat apply Exists.intro)
                  refine ⟨?_, rfl⟩
                  exact ⟨_, _, _, rfl, rfl, Lib.hid ⟨hzl, hz2, hr2⟩, Lib.hid hHeld⟩
          case rest =>
          obtain ⟨w11, rfl⟩ : ∃ x, x = wc := ⟨_, rfl⟩
          obtain ⟨h11, a9, c9, rfl, rfl, HC11, HB11⟩ := hcut
          have hne0 : ((0 : Int) != 0) = false := rfl
          go_wp2_with fail
          have X5 : Hid (Box w11 g5 52 (runA S (.slice a5 q c5) p)) := Lib.hid (HX.out.below HB11.out HX.out.lt)
          have OR5 : Hid (w11.ownsRow (g5 + 1) 24 1 u7 vs.length vs) := Lib.hid (own24_on HOR.out HB11.out)
          have hlt7 : Hid (∀ j, u7.ownBlock = some j → g5 + 1 ≤ j ∧ j < wr.heap.size) := Lib.hid (fun j hj => HOR.out.lt j hj)
          have l5 := HX.out.lt
          have lh := HC11.out.1
          have sz11 := HB11.out.size
          have hsB : Hid (vs.length ≤ 1000) := Lib.hid (by have := HPL.out.1; have := Hls.out; omega)
          have hu := Tryd.underlying52
          have hi : (Tryd.prog.info? 52).map (·.size) = some 10 := info52
          refine wp_region_held_drew (S := fun w' => Box w' h11 52 (runA S1 (.slice a9 q1 c9) pk)) (by kernel_rfl) HC11.out.2.1.drew (fun hHeld => ?_)
          refine wpAnyH_take (i := 0) (oi := { dst := some 51, op := Op.load 52 (Operand.tmp 11), type := 52, pos := "outright.go:29", after := #[], guard := none }) (v := _) rfl (by kernel_rfl) (by kernel_rfl) (by kernel_rfl) (fun _ _ _ h => h) (yieldsIf_load_mid (by rfl) 52 (.tmp 11) rfl h11 0 rfl (runV S1 (.slice a9 q1 c9) pk) _ (fun _ h => range_w2 h) hu rfl hi) hHeld ?_
          (try simp only [Act.put, List.setIfInBounds_toArray, List.set_cons_zero, List.set_cons_succ])
          refine wpAnyH_take (i := 1) (oi := { dst := some 52, op := Op.move (Operand.tmp 7), type := 22, pos := "outright.go:29", after := #[], guard := none }) (v := ?_) rfl (by kernel_rfl) (by kernel_rfl) (by kernel_rfl) (fun _ _ _ h => h) (Or.inl ⟨by rfl, ?_⟩) hHeld ?_
          rotate_left
          · (intro w hSw; go_simp; try with_reducible rfl)
          (try simp only [Act.put, List.setIfInBounds_toArray, List.set_cons_zero, List.set_cons_succ])
          refine wpAnyH_take (i := 2) (oi := { dst := some 53, op := Op.move (Operand.tmp 6), type := 24, pos := "outright.go:29", after := #[], guard := none }) (v := ?_) rfl (by kernel_rfl) (by kernel_rfl) (by kernel_rfl) (fun _ _ _ h => h) (Or.inl ⟨by rfl, ?_⟩) hHeld ?_
          rotate_left
          · (intro w hSw; go_simp; try with_reducible rfl)
          (try simp only [Act.put, List.setIfInBounds_toArray, List.set_cons_zero, List.set_cons_succ])
          refine wpAnyH_take (i := 3) (oi := { dst := some 54, op := Op.move (Operand.tmp 10), type := 3, pos := "outright.go:29", after := #[], guard := none }) (v := ?_) rfl (by kernel_rfl) (by kernel_rfl) (by kernel_rfl) (fun _ _ _ h => h) (Or.inl ⟨by rfl, ?_⟩) hHeld ?_
          rotate_left
          · (intro w hSw; go_simp; try with_reducible rfl)
          (try simp only [Act.put, List.setIfInBounds_toArray, List.set_cons_zero, List.set_cons_succ])
          refine wpAnyH_take (i := 4) (oi := { dst := some 55, op := Op.slice 24 (Operand.tmp 53) none (some (Operand.tmp 54)) none, type := 24, pos := "outright.go:29", after := #[{ on := 2, ground := Ground.data }, { on := 3, ground := Ground.data }], guard := none }) (v := ?_) rfl (by kernel_rfl) (by kernel_rfl) (by kernel_rfl) (fun _ _ _ h => h) (Or.inl ⟨by rfl, ?_⟩) hHeld ?_
          rotate_left
          · (intro w hSw; go_simp; try with_reducible rfl)
          (try simp only [Act.put, List.setIfInBounds_toArray, List.set_cons_zero, List.set_cons_succ])
          refine wpAnyH_take (i := 7) (oi := { dst := some 58, op := Op.move (Operand.tmp 6), type := 24, pos := "outright.go:29", after := #[], guard := none }) (v := ?_) rfl (by kernel_rfl) (by kernel_rfl) (by kernel_rfl) (fun _ _ _ h => h) (Or.inl ⟨by rfl, ?_⟩) hHeld ?_
          rotate_left
          · (intro w hSw; go_simp; try with_reducible rfl)
          (try simp only [Act.put, List.setIfInBounds_toArray, List.set_cons_zero, List.set_cons_succ])
          refine wpAnyH_take (i := 8) (oi := { dst := some 59, op := Op.move (Operand.tmp 10), type := 3, pos := "outright.go:29", after := #[], guard := none }) (v := ?_) rfl (by kernel_rfl) (by kernel_rfl) (by kernel_rfl) (fun _ _ _ h => h) (Or.inl ⟨by rfl, ?_⟩) hHeld ?_
          rotate_left
          · (intro w hSw; go_simp; try with_reducible rfl)
          (try simp only [Act.put, List.setIfInBounds_toArray, List.set_cons_zero, List.set_cons_succ])
          refine wpAnyH_take (i := 9) (oi := { dst := some 60, op := Op.slice 24 (Operand.tmp 58) (some (Operand.tmp 59)) none none, type := 24, pos := "outright.go:29", after := #[{ on := 7, ground := Ground.data }, { on := 8, ground := Ground.data }], guard := none }) (v := ?_) rfl (by kernel_rfl) (by kernel_rfl) (by kernel_rfl) (fun _ _ _ h => h) (Or.inl ⟨by rfl, ?_⟩) hHeld ?_
          rotate_left
          · (intro w hSw; go_simp; try with_reducible rfl)
          (try simp only [Act.put, List.setIfInBounds_toArray, List.set_cons_zero, List.set_cons_succ])
          refine wpAnyH_ready (rs := [5]) (by kernel_rfl) (by simp) (AllReadyH.cons (o := { dst := some 56, op := Op.buildSlice 22 1 #[(0, Operand.tmp 55)], type := 22, pos := "outright.go:29", after := #[{ on := 4, ground := Ground.data }], guard := none }) rfl (fun K hK => ?_) AllReadyH.nil)
          · go_simp
            refine hK.out _ _ (hHeld.alloc _) (fun hHeld => ?_)
            (try simp only [Act.put, List.setIfInBounds_toArray, List.set_cons_zero, List.set_cons_succ])
            refine wpAnyH_ready (rs := [6]) (by kernel_rfl) (by simp) (AllReadyH.cons (o := { dst := some 57, op := Op.call { callee := Callee.builtin Builtin.append, args := #[Operand.tmp 52, Operand.tmp 56], argTypes := #[22, 22] }, type := 22, pos := "outright.go:29", after := #[{ on := 1, ground := Ground.data }, { on := 5, ground := Ground.data }], guard := none }) rfl (fun K hK => ?_) AllReadyH.nil)
            · refine wp_append_if (by rfl) (.tmp 52) (.tmp 56) rfl (g5 + 1) u7 vs rfl (OR5.out.alloc _) w11.heap.size (.slice aR kk cR) rfl (World.cell?_alloc_new w11.drew _ _ 0) rfl (by simp; omega) hsB.out ?_
              intro v7 w7 hown7 hgrow
              have hlt := hlt7.out
              have hhn : u7.ownBlock ≠ some h11 := fun e => by have := hlt _ e; omega
              have hgn : u7.ownBlock ≠ some g5 := fun e => by have := hlt _ e; omega
              have X7 := (X5.out.alloc (.cells #[.slice aR kk cR] 24)).drew.grown hgrow hgn
              have hO7 : w7.ownsRow wr.heap.size 5 1 (.slice a9 q1 c9) q1 (bytesV r1) := (show World.ownsRow (World.drew (w11.alloc (.cells #[.slice aR kk cR] 24))) wr.heap.size 5 1 (.slice a9 q1 c9) q1 (bytesV r1) from HC11.out.2.2.alloc _).kept hgrow (by
                cases hv : (Value.slice a9 q1 c9).ownBlock with
                | none => exact .inl rfl
                | some j =>
                  have h1 := (HC11.out.2.2.lt j hv).1
                  exact .inr (fun e => by have := hlt j e.symm; omega))
              have HB7 : Below w3.heap.size w3 w7 := ((bch HBW.out HB11.out).alloc (bch HBW.out HB11.out).size (.cells #[.slice aR kk cR] 24)).drew.grown hgrow (by have := (bch HBW.out HB11.out).size; simp; omega) (fun j hj => by have := hlt j hj; have := HG5.out; omega)
              refine hK.out _ _ (hHeld.grown hgrow hhn) (fun hHeld => ?_)
              (try simp only [Act.put, List.setIfInBounds_toArray, List.set_cons_zero, List.set_cons_succ])
              refine wpAnyH_ready (rs := [10]) (by kernel_rfl) (by simp) (AllReadyH.cons (o := { dst := none, op := Op.store 52 (Operand.tmp 5) (Operand.tmp 51), type := 0, pos := "outright.go:29", after := #[{ on := 0, ground := Ground.data }, { on := 6, ground := Ground.chain }, { on := 0, ground := Ground.phase }, { on := 1, ground := Ground.textOnly Departure.lateStores }, { on := 2, ground := Ground.textOnly Departure.lateStores }, { on := 3, ground := Ground.textOnly Departure.lateStores }, { on := 4, ground := Ground.textOnly Departure.lateStoresUnsure }, { on := 5, ground := Ground.textOnly Departure.lateStores }, { on := 6, ground := Ground.textOnly Departure.lateStoresUnsure }, { on := 7, ground := Ground.textOnly Departure.lateStores }, { on := 8, ground := Ground.textOnly Departure.lateStores }, { on := 9, ground := Ground.textOnly Departure.lateStoresUnsure }], guard := none }) rfl (fun K hK => ?_) AllReadyH.nil)
              · refine wp_store_if (by rfl) 52 (.tmp 5) (.tmp 51) rfl g5 52 (runA S (.slice a5 q c5) p) (runA S1 (.slice a9 q1 c9) pk) rfl rfl X7 info52 rfl (runA_one _ _ _ _ _) ?_
                have X8 := X7.row (runA S1 (.slice a9 q1 c9) pk)
                have O8 := own_far_row' hO7 (show g5 < wr.heap.size from l5) (show g5 + 1 ≤ wr.heap.size from l5) (runA S1 (.slice a9 q1 c9) pk)
                have R8 := own24_far hown7 (Nat.lt_succ_self g5) (runA S1 (.slice a9 q1 c9) pk)
                have HB8 := below_row HB7 (show w3.heap.size ≤ g5 by have := HG5.out; omega) (runA S1 (.slice a9 q1 c9) pk)
                refine hK.out _ _ (hHeld.far_row (by omega) _) (fun hHeld => ?_)
                (try simp only [Act.put])
                refine wpAnyH_take (i := 11) (oi := { dst := some 7, op := Op.assign (Operand.tmp 57), type := 22, pos := "outright.go:29", after := #[{ on := 6, ground := Ground.data }, { on := 10, ground := Ground.chain }, { on := 0, ground := Ground.phase }, { on := 1, ground := Ground.phase }, { on := 2, ground := Ground.phase }, { on := 3, ground := Ground.phase }, { on := 4, ground := Ground.phase }, { on := 5, ground := Ground.phase }, { on := 6, ground := Ground.phase }, { on := 7, ground := Ground.textOnly Departure.lateStores }, { on := 8, ground := Ground.textOnly Departure.lateStores }, { on := 9, ground := Ground.textOnly Departure.lateStoresUnsure }, { on := 10, ground := Ground.phase }], guard := none }) (v := ?_) rfl (by kernel_rfl) (by kernel_rfl) (by kernel_rfl) (fun _ _ _ h => h) (Or.inl ⟨by rfl, ?_⟩) hHeld ?_
                rotate_left
                · (intro w hSw; go_simp; try with_reducible rfl)
                (try simp only [Act.put, List.setIfInBounds_toArray, List.set_cons_zero, List.set_cons_succ])
                refine wpAnyH_take (i := 12) (oi := { dst := some 6, op := Op.assign (Operand.tmp 60), type := 24, pos := "outright.go:29", after := #[{ on := 9, ground := Ground.data }, { on := 11, ground := Ground.chain }, { on := 0, ground := Ground.phase }, { on := 1, ground := Ground.phase }, { on := 2, ground := Ground.phase }, { on := 3, ground := Ground.phase }, { on := 4, ground := Ground.phase }, { on := 5, ground := Ground.phase }, { on := 6, ground := Ground.phase }, { on := 7, ground := Ground.phase }, { on := 8, ground := Ground.phase }, { on := 9, ground := Ground.phase }, { on := 10, ground := Ground.phase }, { on := 11, ground := Ground.phase }], guard := none }) (v := ?_) rfl (by kernel_rfl) (by kernel_rfl) (by kernel_rfl) (fun _ _ _ h => h) (Or.inl ⟨by rfl, ?_⟩) hHeld ?_
                rotate_left
                · (intro w hSw; go_simp; try with_reducible rfl)
                (try simp only [Act.put, List.setIfInBounds_toArray, List.set_cons_zero, List.set_cons_succ])
                refine wpAnyH_done (by kernel_rfl) ?_ _
                have HX8 := Lib.hid X8
                have HO8 := Lib.hid O8
                have HR8 := Lib.hid R8
                have HBB8 := Lib.hid HB8
                clear hHeld X8 O8 R8 HB8 X7 HB7 hO7 hgrow hown7 hlt hhn hgn
                clear k1 k2 k3 sz11 lh l5
                obtain ⟨sN, hsN⟩ : ∃ x, x = (Value.slice (if cR = kk then aR else Option.map (fun x => x.add kk) aR) (rl - kk) (cR - kk)) := ⟨_, rfl⟩
                rw [← hsN]
                have HsN := Lib.hid hsN
                clear hsN
                have PD := Lib.hid (HPR.out.drop (by rw [List.length_drop]; exact HRL.out) kk Hkl.out)
                go_wp2_with fail
                go_roundg (n - (k + 1))
                case measure => omega
                case rel =>
                  have hpk := Hpk.out
                  have hkl := Hkl.out
                  have hrl := HRL.out
                  have hpb := HPB.out
                  have hcr := HRLc.out
                  have hmx := HCM.out
                  have hfl : (ls ++ [(b.drop p).take kk]).flatten = b.take pk := by
                    rw [List.flatten_append, Hfl.out.get]
                    have := HXY.out.get
                    simpa using this
                  refine ⟨k + 1, pk, by omega, by omega, rfl, by go_num, Lib.hid ⟨by omega, ⟨_, cR - kk, by rw [HsN.out, show b.length - pk = rl - kk by omega], by omega, by unfold maxLen; omega, ?_⟩, ⟨S1, r1, q1, a9, c9, HS1.out.get, Hr1.out.get, Hq1.out, HX8.out, HO8.out⟩, vs ++ [.slice aR kk cR], ls ++ [(b.drop p).take kk], HR8.out, HPL.out.push (HPR.out.take (by rw [List.length_drop]; exact hrl) kk hkl), hfl, by simp [Hls.out]⟩, HBB8⟩
                  rw [HsN.out]
                  have h := PD.out
                  rw [List.drop_drop, ← hpk] at h
                  exact h
      · have kn : ¬ ((k : Int) < (n : Int)) := by omega
        go_wp2_with fail
        refine Met.intro (hJ _ _ ?_)
        (repeat apply Exists.intro)
        refine ⟨?_, rfl⟩
        exact ⟨p, k, hk8, HW, HBW⟩
  case rest =>
    obtain ⟨w6, rfl⟩ : ∃ x, x = wc := ⟨_, rfl⟩
    obtain ⟨p, k, hk8, HW, HB6⟩ := hcut
    obtain ⟨hp, ⟨aR, cR, hs6, hRl, hRm, PR⟩, ⟨S, r, q, a5, c5, hS, hr, hq, X, O⟩, vs, ls, OR, PL, hfl, hls⟩ := HW.out
    subst hs6
    obtain ⟨rl, hrl⟩ : ∃ rl, rl = b.length - p := ⟨_, rfl⟩
    rw [← hrl] at hRl PR ⊢
    obtain ⟨SB, hSB⟩ : ∃ S, S = wordsOf first b := ⟨_, rfl⟩
    obtain ⟨rB, hrB⟩ : ∃ r, r = restOf b := ⟨_, rfl⟩
    obtain ⟨qB, hqB⟩ : ∃ q, q = rB.length := ⟨_, rfl⟩
    obtain ⟨D, hD⟩ : ∃ D, D = sumL b := ⟨_, rfl⟩
    have HRB : Hid (Rd w6 (.slice a m cap) (bytesV b)) := Lib.hid (HR3.out.on HB6.out)
    have hxy : b.take p ++ b.drop p = b := List.take_append_drop _ _
    have hmb := HM.out
    have hbl9 := HBL.out
    have HMN : Hid (Calls Tryd.prog 20 #[.agg (runA S (.slice a5 q c5) p), .slice aR rl cR] w6 (MoreQ SB rB qB m w6)) := Lib.hid
      (more_next t fr (b.take p) (b.drop p) S r q p hS hr hq (by rw [List.length_take]; omega) SB rB qB m (by rw [hxy]; exact hSB) (by rw [hxy]; exact hrB) hqB (by rw [hxy]; exact hmb) a5 c5 _ w6 (HP.out.on (bch HB3.out HB6.out)) (Rd.of_own O) (PR w6 HRB.out) (by rw [hxy]; omega))
    have HX := Lib.hid X
    have HOR := Lib.hid OR
    have HPL := Lib.hid PL
    have HPR := Lib.hid PR
    have Hfl := Lib.hid (Wrapped.mk hfl)
    have Hls := Lib.hid hls
    have HSB := Lib.hid (Wrapped.mk hSB)
    have HrB := Lib.hid (Wrapped.mk hrB)
    have HqB := Lib.hid hqB
    have HD := Lib.hid (Wrapped.mk hD)
    have HXY := Lib.hid (Wrapped.mk hxy)
    have HRL := Lib.hid hrl
    have hD32 : Hid (D.length = 32) := Lib.hid (by rw [hD]; exact sumL_len b)
    have hls9 := hls
    clear hS hr hq X O OR PL PR hfl hls hSB hrB hqB hD hxy hrl hp hRl hRm hmb hbl9 HW st hls9
    go_wp2_with (refine wpList_load_row rfl 52 (.tmp 5) rfl g5 rfl 52 (runA S (.slice a5 q c5) p) (0, 0) _ HX.out Tryd.underlying52 rfl info52 ?_)
    refine HMN.out.mono ?_
    rintro e w7 ⟨a9, c9, rfl, hown, hb7⟩
    have X7 : Hid (Box w7 g5 52 (runA S (.slice a5 q c5) p)) := Lib.hid (HX.out.below hb7 HX.out.lt)
    have l5 := HX.out.lt
    have HX8 : Hid (Box (w7.setRow g5 (runA SB (.slice a9 qB c9) m)) g5 52 (runA SB (.slice a9 qB c9) m)) := Lib.hid (X7.out.row _)
    have HO8 : Hid ((w7.setRow g5 (runA SB (.slice a9 qB c9) m)).ownsRow (g5 + 1) 5 1 (.slice a9 qB c9) qB (bytesV rB)) := Lib.hid (own_far_row' hown.out l5 l5 _)
    have HR8 : Hid ((w7.setRow g5 (runA SB (.slice a9 qB c9) m)).ownsRow (g5 + 1) 24 1 u7 vs.length vs) := Lib.hid (own24_far (own24_on HOR.out hb7) (Nat.lt_succ_self g5) _)
    have HB8 : Hid (Below w3.heap.size w3 (w7.setRow g5 (runA SB (.slice a9 qB c9) m))) := Lib.hid (below_row (bch HB6.out hb7) (by have := HG5.out; omega) _)
    clear hown hb7 HMN HX l5
    go_wp2_with (first
      | (refine wpList_store_row rfl 52 (.tmp 5) (.tmp 66) rfl g5 (runA SB (.slice a9 qB c9) m) rfl rfl 52 (runA S (.slice a5 q c5) p) X7.out info52 rfl (runA_one _ _ _ _ _) ?_)
      | (refine wpList_load_row rfl 52 (.tmp 5) rfl g5 rfl 52 (runA SB (.slice a9 qB c9) m) (0, 0) _ HX8.out Tryd.underlying52 rfl info52 ?_))
    obtain ⟨w8, hw8⟩ : ∃ x, x = w7.setRow g5 (runA SB (.slice a9 qB c9) m) := ⟨_, rfl⟩
    rw [← hw8] at HX8 HO8 HR8 HB8 ⊢
    clear hw8 X7
    refine (end_q t fr b SB rB qB m D HSB.out.get HrB.out.get HqB.out HM.out HD.out.get a9 c9 w8 (HP.out.on (bch HB3.out HB8.out)) (Rd.of_own HO8.out) (by have := HBL.out; omega)).mono ?_
    rintro e w9 ⟨rfl, hb9⟩
    have HIb := Lib.hid (info27b D hD32.out)
    have HZb := Lib.hid (zeros32 D hD32.out)
    have Y9 : Hid (Box (w9.alloc (.cells (part z8 [] 32 0) 27)) w9.heap.size 27 (part z8 [] 32 0)) := Lib.hid (box_new _ _ _ rfl)
    have D9 : Hid (Box ((w9.alloc (.cells (part z8 [] 32 0) 27)).setRow w9.heap.size (bytesA D)) w9.heap.size 27 (bytesA D)) := Lib.hid (Y9.out.row _)
    have hbw : Below w9.heap.size w9 ((w9.alloc (.cells (part z8 [] 32 0) 27)).setRow w9.heap.size (bytesA D)) := below_row (below_new _ _) (Nat.le_refl _) _
    have hb89 := bch hb9 hbw
    have X9 : Hid (Box ((w9.alloc (.cells (part z8 [] 32 0) 27)).setRow w9.heap.size (bytesA D)) g5 52 (runA SB (.slice a9 qB c9) m)) := Lib.hid (HX8.out.below hb89 HX8.out.lt)
    have O9 := Lib.hid (own_on HO8.out hb89)
    have R9 := Lib.hid (own24_on HR8.out hb89)
    have B9 := Lib.hid (bch HB8.out hb89)
    have L9 : Hid (w8.heap.size ≤ w9.heap.size) := Lib.hid hb9.size
    have hlt7 : Hid (∀ j, u7.ownBlock = some j → g5 + 1 ≤ j ∧ j < w8.heap.size) := Lib.hid (fun j hj => HR8.out.lt j hj)
    clear hb9 hbw hb89 HX8 HO8 HR8 HB8
    go_wp2_with (first
      | (with_reducible refine wpList_zero rfl 27 rfl (part z8 [] 32 0) (zero27 _) ?_)
      | (refine wpList_store_row rfl 27 (.tmp 14) (.tmp 71) rfl w9.heap.size (bytesA D) rfl rfl 27 (part z8 [] 32 0) Y9.out HIb.out HZb.out (bytesA_one _) ?_)
      | (refine wpList_load_row rfl 52 (.tmp 5) rfl g5 rfl 52 (runA SB (.slice a9 qB c9) m) (0, 0) _ X9.out Tryd.underlying52 rfl info52 ?_))
    obtain ⟨wA, hwA⟩ : ∃ x, x = (w9.alloc (.cells (part z8 [] 32 0) 27)).setRow w9.heap.size (bytesA D) := ⟨_, rfl⟩
    obtain ⟨g14, hg14⟩ : ∃ x, x = w9.heap.size := ⟨_, rfl⟩
    rw [← hwA] at D9 X9 O9 R9 B9 ⊢
    rw [← hg14] at D9 L9 ⊢
    clear hwA hg14 Y9
    refine (end_q t fr b SB rB qB m D HSB.out.get HrB.out.get HqB.out HM.out HD.out.get a9 c9 wA (HP.out.on (bch HB3.out B9.out)) (Rd.of_own O9.out) (by have := HBL.out; omega)).mono ?_
    rintro e wB ⟨rfl, hbB⟩
    have YB : Hid (Box (wB.alloc (.cells (part z8 [] 32 0) 27)) wB.heap.size 27 (part z8 [] 32 0)) := Lib.hid (box_new _ _ _ rfl)
    have DB : Hid (Box ((wB.alloc (.cells (part z8 [] 32 0) 27)).setRow wB.heap.size (bytesA D)) wB.heap.size 27 (bytesA D)) := Lib.hid (YB.out.row _)
    have hbw : Below wB.heap.size wB ((wB.alloc (.cells (part z8 [] 32 0) 27)).setRow wB.heap.size (bytesA D)) := below_row (below_new _ _) (Nat.le_refl _) _
    have hbAB := bch hbB hbw
    have KB : Hid (Keeps D g14 wB.heap.size g5 (runA SB (.slice a9 qB c9) m) w3 ((wB.alloc (.cells (part z8 [] 32 0) 27)).setRow wB.heap.size (bytesA D))) := Lib.hid ⟨D9.out.below hbAB D9.out.lt, DB.out, X9.out.below hbAB X9.out.lt, bch B9.out hbAB⟩
    have RB := Lib.hid (own24_on R9.out hbAB)
    have LB : Hid (g14 < wB.heap.size) := Lib.hid (by have := D9.out.lt; have := hbB.size; omega)
    clear hbB hbw hbAB D9 X9 O9 R9 B9 DB
    go_wp2_with (first
      | (with_reducible refine wpList_zero rfl 27 rfl (part z8 [] 32 0) (zero27 _) ?_)
      | (refine wpList_store_row rfl 27 (.tmp 16) (.tmp 76) rfl wB.heap.size (bytesA D) rfl rfl 27 (part z8 [] 32 0) YB.out HIb.out HZb.out (bytesA_one _) ?_))
    obtain ⟨wC, hwC⟩ : ∃ x, x = (wB.alloc (.cells (part z8 [] 32 0) 27)).setRow wB.heap.size (bytesA D) := ⟨_, rfl⟩
    obtain ⟨g16, hg16⟩ : ∃ x, x = wB.heap.size := ⟨_, rfl⟩
    rw [← hwC] at KB RB ⊢
    rw [← hg16] at KB LB ⊢
    clear hwC hg16 YB
    have hu27 := Tryd.underlying27
    have hi27 : (Tryd.prog.info? 27).map (·.size) = some (bytesV D).length := by rw [bytesV_len, hD32.out]; exact info27
    have eqA : ∀ W, (Op.equalIn 10000 27 (.agg (bytesV D).toArray) (.agg (bytesV D).toArray)).run Tryd.prog W = .ok true W := same27 D hD32.out
    have eqB : ∀ W, (Op.equalIn 10000 27 (.agg (bytesV D).toArray) (.agg (bytesA D))).run Tryd.prog W = .ok true W := same27 D hD32.out
    have e6 : IntKind.u64.wrap (m : Int) = (m : Int) := IntWalk.u64_in _ (by have := HBL.out; omega)
    refine wp_region_held_drew (S := fun w' => Keeps D g14 g16 g5 (runA SB (.slice a9 qB c9) m) w3 w') (by kernel_rfl) KB.out.drew (fun hHeld => ?_)
    refine wpAnyH_take (i := 0) (oi := { dst := some 78, op := Op.move (Operand.tmp 13), type := 43, pos := "outright.go:34", after := #[], guard := none }) (v := ?_) rfl (by kernel_rfl) (by kernel_rfl) (by kernel_rfl) (fun _ _ _ h => h) (Or.inl ⟨by rfl, ?_⟩) hHeld ?_
    rotate_left
    · (intro w hSw; go_simp; try with_reducible rfl)
    (try simp only [Act.put, List.setIfInBounds_toArray, List.set_cons_zero, List.set_cons_succ])
    refine wpAnyH_take (i := 1) (oi := { dst := some 79, op := Op.binOp BinOp.eql 43 (Operand.tmp 78) (Operand.const (Value.int IntKind.i64 0)) 43, type := 4, pos := "outright.go:34", after := #[{ on := 0, ground := Ground.data }], guard := none }) (v := ?_) rfl (by kernel_rfl) (by kernel_rfl) (by kernel_rfl) (fun _ _ _ h => h) (Or.inl ⟨by rfl, ?_⟩) hHeld ?_
    rotate_left
    · (intro w hSw; go_simp; try with_reducible rfl)
    (try simp only [Act.put, List.setIfInBounds_toArray, List.set_cons_zero, List.set_cons_succ])
    refine wpAnyH_take (i := 2) (oi := { dst := some 80, op := Op.move (Operand.tmp 79), type := 4, pos := "outright.go:34", after := #[{ on := 1, ground := Ground.data }], guard := none }) (v := ?_) rfl (by kernel_rfl) (by kernel_rfl) (by kernel_rfl) (fun _ _ _ h => h) (Or.inl ⟨by rfl, ?_⟩) hHeld ?_
    rotate_left
    · (intro w hSw; go_simp; try with_reducible rfl)
    (try simp only [Act.put, List.setIfInBounds_toArray, List.set_cons_zero, List.set_cons_succ])
    refine wpAnyH_take (i := 3) (oi := { dst := some 81, op := Op.move (Operand.tmp 15), type := 43, pos := "outright.go:34", after := #[{ on := 2, ground := Ground.guard }], guard := some (2, true) }) (v := ?_) rfl (by kernel_rfl) (by kernel_rfl) (by kernel_rfl) (fun _ _ _ h => h) (Or.inl ⟨by rfl, ?_⟩) hHeld ?_
    rotate_left
    · (intro w hSw; go_simp; try with_reducible rfl)
    (try simp only [Act.put, List.setIfInBounds_toArray, List.set_cons_zero, List.set_cons_succ])
    refine wpAnyH_take (i := 4) (oi := { dst := some 82, op := Op.binOp BinOp.eql 43 (Operand.tmp 81) (Operand.const (Value.int IntKind.i64 0)) 43, type := 4, pos := "outright.go:34", after := #[{ on := 3, ground := Ground.data }, { on := 2, ground := Ground.guard }], guard := some (2, true) }) (v := ?_) rfl (by kernel_rfl) (by kernel_rfl) (by kernel_rfl) (fun _ _ _ h => h) (Or.inl ⟨by rfl, ?_⟩) hHeld ?_
    rotate_left
    · (intro w hSw; go_simp; try with_reducible rfl)
    (try simp only [Act.put, List.setIfInBounds_toArray, List.set_cons_zero, List.set_cons_succ])
    refine wpAnyH_take (i := 5) (oi := { dst := some 83, op := Op.pick (Operand.tmp 80) (Operand.tmp 82) (Operand.const (Value.bool false)), type := 4, pos := "outright.go:34", after := #[{ on := 2, ground := Ground.data }, { on := 4, ground := Ground.data }], guard := none }) (v := ?_) rfl (by kernel_rfl) (by kernel_rfl) (by kernel_rfl) (fun _ _ _ h => h) (Or.inl ⟨by rfl, ?_⟩) hHeld ?_
    rotate_left
    · (intro w hSw; go_simp; try with_reducible rfl)
    (try simp only [Act.put, List.setIfInBounds_toArray, List.set_cons_zero, List.set_cons_succ])
    refine wpAnyH_take (i := 6) (oi := { dst := some 84, op := Op.move (Operand.tmp 83), type := 4, pos := "outright.go:34", after := #[{ on := 5, ground := Ground.data }, { on := 2, ground := Ground.chain }], guard := none }) (v := ?_) rfl (by kernel_rfl) (by kernel_rfl) (by kernel_rfl) (fun _ _ _ h => h) (Or.inl ⟨by rfl, ?_⟩) hHeld ?_
    rotate_left
    · (intro w hSw; go_simp; try with_reducible rfl)
    (try simp only [Act.put, List.setIfInBounds_toArray, List.set_cons_zero, List.set_cons_succ])
    refine wpAnyH_take (i := 7) (oi := { dst := some 85, op := Op.move (Operand.tmp 17), type := 43, pos := "outright.go:34", after := #[{ on := 6, ground := Ground.guard }], guard := some (6, true) }) (v := ?_) rfl (by kernel_rfl) (by kernel_rfl) (by kernel_rfl) (fun _ _ _ h => h) (Or.inl ⟨by rfl, ?_⟩) hHeld ?_
    rotate_left
    · (intro w hSw; go_simp; try with_reducible rfl)
    (try simp only [Act.put, List.setIfInBounds_toArray, List.set_cons_zero, List.set_cons_succ])
    refine wpAnyH_take (i := 8) (oi := { dst := some 86, op := Op.binOp BinOp.eql 43 (Operand.tmp 85) (Operand.const (Value.int IntKind.i64 0)) 43, type := 4, pos := "outright.go:34", after := #[{ on := 7, ground := Ground.data }, { on := 6, ground := Ground.guard }], guard := some (6, true) }) (v := ?_) rfl (by kernel_rfl) (by kernel_rfl) (by kernel_rfl) (fun _ _ _ h => h) (Or.inl ⟨by rfl, ?_⟩) hHeld ?_
    rotate_left
    · (intro w hSw; go_simp; try with_reducible rfl)
    (try simp only [Act.put, List.setIfInBounds_toArray, List.set_cons_zero, List.set_cons_succ])
    refine wpAnyH_take (i := 9) (oi := { dst := some 87, op := Op.pick (Operand.tmp 84) (Operand.tmp 86) (Operand.const (Value.bool false)), type := 4, pos := "outright.go:34", after := #[{ on := 6, ground := Ground.data }, { on := 8, ground := Ground.data }], guard := none }) (v := ?_) rfl (by kernel_rfl) (by kernel_rfl) (by kernel_rfl) (fun _ _ _ h => h) (Or.inl ⟨by rfl, ?_⟩) hHeld ?_
    rotate_left
    · (intro w hSw; go_simp; try with_reducible rfl)
    (try simp only [Act.put, List.setIfInBounds_toArray, List.set_cons_zero, List.set_cons_succ])
    refine wpAnyH_take (i := 10) (oi := { dst := some 88, op := Op.move (Operand.tmp 87), type := 4, pos := "outright.go:34", after := #[{ on := 9, ground := Ground.data }, { on := 6, ground := Ground.chain }], guard := none }) (v := ?_) rfl (by kernel_rfl) (by kernel_rfl) (by kernel_rfl) (fun _ _ _ h => h) (Or.inl ⟨by rfl, ?_⟩) hHeld ?_
    rotate_left
    · (intro w hSw; go_simp; try with_reducible rfl)
    (try simp only [Act.put, List.setIfInBounds_toArray, List.set_cons_zero, List.set_cons_succ])
    refine wpAnyH_take (i := 11) (oi := { dst := some 89, op := Op.load 27 (Operand.tmp 14), type := 27, pos := "outright.go:34", after := #[{ on := 10, ground := Ground.guard }], guard := some (10, true) }) (v := _) rfl (by kernel_rfl) (by kernel_rfl) (by kernel_rfl) (fun _ _ _ h => h) (yieldsIf_load_mid (by rfl) 27 (.tmp 14) rfl g14 0 rfl (bytesV D) (.array 32 5) (fun _ h => range_box h.d1) hu27 rfl hi27) hHeld ?_
    (try simp only [Act.put, List.setIfInBounds_toArray, List.set_cons_zero, List.set_cons_succ])
    refine wpAnyH_take (i := 12) (oi := { dst := some 90, op := Op.load 27 (Operand.tmp 16), type := 27, pos := "outright.go:34", after := #[{ on := 10, ground := Ground.guard }], guard := some (10, true) }) (v := _) rfl (by kernel_rfl) (by kernel_rfl) (by kernel_rfl) (fun _ _ _ h => h) (yieldsIf_load_mid (by rfl) 27 (.tmp 16) rfl g16 0 rfl (bytesV D) (.array 32 5) (fun _ h => range_box h.d2) hu27 rfl hi27) hHeld ?_
    (try simp only [Act.put, List.setIfInBounds_toArray, List.set_cons_zero, List.set_cons_succ])
    refine wpAnyH_take (i := 13) (oi := { dst := some 91, op := Op.binOp BinOp.eql 27 (Operand.tmp 89) (Operand.tmp 90) 27, type := 4, pos := "outright.go:34", after := #[{ on := 11, ground := Ground.data }, { on := 12, ground := Ground.data }, { on := 10, ground := Ground.guard }], guard := some (10, true) }) (v := ?_) rfl (by kernel_rfl) (by kernel_rfl) (by kernel_rfl) (fun _ _ _ h => h) (Or.inl ⟨by rfl, ?_⟩) hHeld ?_
    rotate_left
    · (intro w hSw; go_simp; try with_reducible rfl)
    (try simp only [Act.put, List.setIfInBounds_toArray, List.set_cons_zero, List.set_cons_succ])
    refine wpAnyH_take (i := 14) (oi := { dst := some 92, op := Op.pick (Operand.tmp 88) (Operand.tmp 91) (Operand.const (Value.bool false)), type := 4, pos := "outright.go:34", after := #[{ on := 10, ground := Ground.data }, { on := 13, ground := Ground.data }], guard := none }) (v := ?_) rfl (by kernel_rfl) (by kernel_rfl) (by kernel_rfl) (fun _ _ _ h => h) (Or.inl ⟨by rfl, ?_⟩) hHeld ?_
    rotate_left
    · (intro w hSw; go_simp; try with_reducible rfl)
    (try simp only [Act.put, List.setIfInBounds_toArray, List.set_cons_zero, List.set_cons_succ])
    refine wpAnyH_take (i := 15) (oi := { dst := some 93, op := Op.move (Operand.tmp 92), type := 4, pos := "outright.go:34", after := #[{ on := 14, ground := Ground.data }, { on := 10, ground := Ground.chain }], guard := none }) (v := ?_) rfl (by kernel_rfl) (by kernel_rfl) (by kernel_rfl) (fun _ _ _ h => h) (Or.inl ⟨by rfl, ?_⟩) hHeld ?_
    rotate_left
    · (intro w hSw; go_simp; try with_reducible rfl)
    (try simp only [Act.put, List.setIfInBounds_toArray, List.set_cons_zero, List.set_cons_succ])
    refine wpAnyH_take (i := 16) (oi := { dst := some 94, op := Op.load 27 (Operand.tmp 14), type := 27, pos := "outright.go:34", after := #[{ on := 15, ground := Ground.guard }], guard := some (15, true) }) (v := _) rfl (by kernel_rfl) (by kernel_rfl) (by kernel_rfl) (fun _ _ _ h => h) (yieldsIf_load_mid (by rfl) 27 (.tmp 14) rfl g14 0 rfl (bytesV D) (.array 32 5) (fun _ h => range_box h.d1) hu27 rfl hi27) hHeld ?_
    (try simp only [Act.put, List.setIfInBounds_toArray, List.set_cons_zero, List.set_cons_succ])
    refine wpAnyH_take (i := 17) (oi := { dst := some 95, op := Op.move (Operand.tmp 0), type := 24, pos := "outright.go:34", after := #[{ on := 15, ground := Ground.guard }], guard := some (15, true) }) (v := ?_) rfl (by kernel_rfl) (by kernel_rfl) (by kernel_rfl) (fun _ _ _ h => h) (Or.inl ⟨by rfl, ?_⟩) hHeld ?_
    rotate_left
    · (intro w hSw; go_simp; try with_reducible rfl)
    (try simp only [Act.put, List.setIfInBounds_toArray, List.set_cons_zero, List.set_cons_succ])
    refine wpAnyH_ready (rs := [18]) (by kernel_rfl) (by simp) (AllReadyH.cons (o := { dst := some 96, op := Op.buildSlice 22 1 #[(0, Operand.tmp 95)], type := 22, pos := "outright.go:34", after := #[{ on := 17, ground := Ground.data }, { on := 15, ground := Ground.guard }], guard := some (15, true) }) rfl (fun K hK => ?_) AllReadyH.nil)
    · go_simp
      refine hK.out _ _ (hHeld.alloc _) (fun hHeld => ?_)
      (try simp only [Act.put, List.setIfInBounds_toArray, List.set_cons_zero, List.set_cons_succ])
      refine wpAnyH_ready (rs := [19]) (by kernel_rfl) (by simp) (AllReadyH.cons (o := { dst := some 97, op := Op.call { callee := Callee.value (Operand.func 10), args := #[Operand.tmp 96], argTypes := #[22] }, type := 27, pos := "outright.go:34", after := #[{ on := 18, ground := Ground.data }, { on := 15, ground := Ground.chain }, { on := 15, ground := Ground.guard }], guard := some (15, true) }) rfl (fun K hK => ?_) AllReadyH.nil)
      · go_simp
        refine (sum_q t fr [b] b D (by simp) HD.out.get _ _ (HP.out.on (bch HB3.out hHeld.low)) (one_rd (w := wC.drew) rfl (HR3.out.on KB.out.drew.low)) (by simp) (by have := HBL.out; have := HM.out; omega)).mono ?_
        rintro e wD ⟨rfl, hbD⟩
        have RD := own24_on (show World.ownsRow (World.drew (wC.alloc (.cells #[.slice a m cap] 24))) (g5 + 1) 24 1 u7 vs.length vs from RB.out.alloc _) hbD
        refine hK.out _ _ (hHeld.on hbD) (fun hHeld => ?_)
        (try simp only [Act.put, List.setIfInBounds_toArray, List.set_cons_zero, List.set_cons_succ])
        refine wpAnyH_take (i := 20) (oi := { dst := some 98, op := Op.binOp BinOp.eql 27 (Operand.tmp 94) (Operand.tmp 97) 27, type := 4, pos := "outright.go:34", after := #[{ on := 16, ground := Ground.data }, { on := 19, ground := Ground.data }, { on := 15, ground := Ground.guard }], guard := some (15, true) }) (v := ?_) rfl (by kernel_rfl) (by kernel_rfl) (by kernel_rfl) (fun _ _ _ h => h) (Or.inl ⟨by rfl, ?_⟩) hHeld ?_
        rotate_left
        · (intro w hSw; go_simp; try with_reducible rfl)
        (try simp only [Act.put, List.setIfInBounds_toArray, List.set_cons_zero, List.set_cons_succ])
        refine wpAnyH_take (i := 21) (oi := { dst := some 99, op := Op.pick (Operand.tmp 93) (Operand.tmp 98) (Operand.const (Value.bool false)), type := 4, pos := "outright.go:34", after := #[{ on := 15, ground := Ground.data }, { on := 20, ground := Ground.data }], guard := none }) (v := ?_) rfl (by kernel_rfl) (by kernel_rfl) (by kernel_rfl) (fun _ _ _ h => h) (Or.inl ⟨by rfl, ?_⟩) hHeld ?_
        rotate_left
        · (intro w hSw; go_simp; try with_reducible rfl)
        (try simp only [Act.put, List.setIfInBounds_toArray, List.set_cons_zero, List.set_cons_succ])
        refine wpAnyH_take (i := 22) (oi := { dst := some 100, op := Op.move (Operand.tmp 99), type := 4, pos := "outright.go:34", after := #[{ on := 21, ground := Ground.data }, { on := 19, ground := Ground.chain }], guard := none }) (v := ?_) rfl (by kernel_rfl) (by kernel_rfl) (by kernel_rfl) (fun _ _ _ h => h) (Or.inl ⟨by rfl, ?_⟩) hHeld ?_
        rotate_left
        · (intro w hSw; go_simp; try with_reducible rfl)
        (try simp only [Act.put, List.setIfInBounds_toArray, List.set_cons_zero, List.set_cons_succ])
        refine wpAnyH_take (i := 23) (oi := { dst := some 101, op := Op.load 27 (Operand.tmp 14), type := 27, pos := "outright.go:34", after := #[{ on := 22, ground := Ground.guard }], guard := some (22, true) }) (v := _) rfl (by kernel_rfl) (by kernel_rfl) (by kernel_rfl) (fun _ _ _ h => h) (yieldsIf_load_mid (by rfl) 27 (.tmp 14) rfl g14 0 rfl (bytesV D) (.array 32 5) (fun _ h => range_box h.d1) hu27 rfl hi27) hHeld ?_
        (try simp only [Act.put, List.setIfInBounds_toArray, List.set_cons_zero, List.set_cons_succ])
        refine wpAnyH_take (i := 24) (oi := { dst := some 102, op := Op.move (Operand.tmp 7), type := 22, pos := "outright.go:34", after := #[{ on := 22, ground := Ground.guard }], guard := some (22, true) }) (v := ?_) rfl (by kernel_rfl) (by kernel_rfl) (by kernel_rfl) (fun _ _ _ h => h) (Or.inl ⟨by rfl, ?_⟩) hHeld ?_
        rotate_left
        · (intro w hSw; go_simp; try with_reducible rfl)
        (try simp only [Act.put, List.setIfInBounds_toArray, List.set_cons_zero, List.set_cons_succ])
        refine wpAnyH_take (i := 25) (oi := { dst := some 103, op := Op.move (Operand.tmp 6), type := 24, pos := "outright.go:34", after := #[{ on := 22, ground := Ground.guard }], guard := some (22, true) }) (v := ?_) rfl (by kernel_rfl) (by kernel_rfl) (by kernel_rfl) (fun _ _ _ h => h) (Or.inl ⟨by rfl, ?_⟩) hHeld ?_
        rotate_left
        · (intro w hSw; go_simp; try with_reducible rfl)
        (try simp only [Act.put, List.setIfInBounds_toArray, List.set_cons_zero, List.set_cons_succ])
        refine wpAnyH_ready (rs := [26]) (by kernel_rfl) (by simp) (AllReadyH.cons (o := { dst := some 104, op := Op.buildSlice 22 1 #[(0, Operand.tmp 103)], type := 22, pos := "outright.go:34", after := #[{ on := 25, ground := Ground.data }, { on := 22, ground := Ground.guard }], guard := some (22, true) }) rfl (fun K hK => ?_) AllReadyH.nil)
        · go_simp
          have KD := hHeld
          refine hK.out _ _ (hHeld.alloc _) (fun hHeld => ?_)
          (try simp only [Act.put, List.setIfInBounds_toArray, List.set_cons_zero, List.set_cons_succ])
          refine wpAnyH_ready (rs := [27]) (by kernel_rfl) (by simp) (AllReadyH.cons (o := { dst := some 105, op := Op.call { callee := Callee.builtin Builtin.append, args := #[Operand.tmp 102, Operand.tmp 104], argTypes := #[22, 22] }, type := 22, pos := "outright.go:34", after := #[{ on := 24, ground := Ground.data }, { on := 26, ground := Ground.data }, { on := 22, ground := Ground.chain }, { on := 22, ground := Ground.guard }], guard := some (22, true) }) rfl (fun K hK => ?_) AllReadyH.nil)
          · refine wp_append_if (by rfl) (.tmp 102) (.tmp 104) rfl (g5 + 1) u7 vs rfl (RD.alloc _) wD.heap.size (.slice aR rl cR) rfl (World.cell?_alloc_new wD _ _ 0) rfl (by have := KD.r.lt; simp; omega) (by have := HPL.out.1; have := Hls.out; omega) ?_
            intro vE wE hownE hgrow
            have hlt := hlt7.out
            refine hK.out _ _ (hHeld.grown hgrow (fun e => by have := hlt _ e; have := L9.out; omega) (fun e => by have := hlt _ e; have := L9.out; have := LB.out; omega) (fun e => by have := hlt _ e; omega) (fun j e => by have := hlt _ e; have := HG5.out; omega)) (fun hHeld => ?_)
            (try simp only [Act.put, List.setIfInBounds_toArray, List.set_cons_zero, List.set_cons_succ])
            refine wpAnyH_ready (rs := [28]) (by kernel_rfl) (by simp) (AllReadyH.cons (o := { dst := some 106, op := Op.call { callee := Callee.value (Operand.func 10), args := #[Operand.tmp 105], argTypes := #[22] }, type := 27, pos := "outright.go:34", after := #[{ on := 27, ground := Ground.data }, { on := 27, ground := Ground.chain }, { on := 22, ground := Ground.guard }], guard := some (22, true) }) rfl (fun K hK => ?_) AllReadyH.nil)
            · go_simp
              have hpush := (HPL.out.push HPR.out).rdR (HR3.out.on hHeld.low) (Rd.of_own hownE)
              refine (sum_q t fr (ls ++ [b.drop p]) b D (by rw [List.flatten_append, Hfl.out.get]; simp) HD.out.get _ _ (HP.out.on (bch HB3.out hHeld.low)) hpush (by have := Hls.out; simp; omega) (by have := HBL.out; have := HM.out; omega)).mono ?_
              rintro e wF ⟨rfl, hbF⟩
              refine hK.out _ _ (hHeld.on hbF) (fun hHeld => ?_)
              (try simp only [Act.put, List.setIfInBounds_toArray, List.set_cons_zero, List.set_cons_succ])
              refine wpAnyH_take (i := 29) (oi := { dst := some 107, op := Op.binOp BinOp.eql 27 (Operand.tmp 101) (Operand.tmp 106) 27, type := 4, pos := "outright.go:34", after := #[{ on := 23, ground := Ground.data }, { on := 28, ground := Ground.data }, { on := 22, ground := Ground.guard }], guard := some (22, true) }) (v := ?_) rfl (by kernel_rfl) (by kernel_rfl) (by kernel_rfl) (fun _ _ _ h => h) (Or.inl ⟨by rfl, ?_⟩) hHeld ?_
              rotate_left
              · (intro w hSw; go_simp; try with_reducible rfl)
              (try simp only [Act.put, List.setIfInBounds_toArray, List.set_cons_zero, List.set_cons_succ])
              refine wpAnyH_take (i := 30) (oi := { dst := some 108, op := Op.pick (Operand.tmp 100) (Operand.tmp 107) (Operand.const (Value.bool false)), type := 4, pos := "outright.go:34", after := #[{ on := 22, ground := Ground.data }, { on := 29, ground := Ground.data }], guard := none }) (v := ?_) rfl (by kernel_rfl) (by kernel_rfl) (by kernel_rfl) (fun _ _ _ h => h) (Or.inl ⟨by rfl, ?_⟩) hHeld ?_
              rotate_left
              · (intro w hSw; go_simp; try with_reducible rfl)
              (try simp only [Act.put, List.setIfInBounds_toArray, List.set_cons_zero, List.set_cons_succ])
              refine wpAnyH_take (i := 31) (oi := { dst := some 109, op := Op.move (Operand.tmp 108), type := 4, pos := "outright.go:34", after := #[{ on := 30, ground := Ground.data }, { on := 28, ground := Ground.chain }], guard := none }) (v := ?_) rfl (by kernel_rfl) (by kernel_rfl) (by kernel_rfl) (fun _ _ _ h => h) (Or.inl ⟨by rfl, ?_⟩) hHeld ?_
              rotate_left
              · (intro w hSw; go_simp; try with_reducible rfl)
              (try simp only [Act.put, List.setIfInBounds_toArray, List.set_cons_zero, List.set_cons_succ])
              refine wpAnyH_take (i := 32) (oi := { dst := some 110, op := Op.fieldAddr 52 (Operand.tmp 5) 2, type := 0, pos := "outright.go:34", after := #[{ on := 31, ground := Ground.guard }], guard := some (31, true) }) (v := ?_) rfl (by kernel_rfl) (by kernel_rfl) (by kernel_rfl) (fun _ _ _ h => h) (Or.inl ⟨by rfl, ?_⟩) hHeld ?_
              rotate_left
              · (intro w hSw; go_simp; try with_reducible rfl)
              (try simp only [Act.put, List.setIfInBounds_toArray, List.set_cons_zero, List.set_cons_succ])
              refine wpAnyH_take (i := 33) (oi := { dst := some 111, op := Op.load 50 (Operand.tmp 110), type := 50, pos := "outright.go:34", after := #[{ on := 32, ground := Ground.data }, { on := 31, ground := Ground.guard }], guard := some (31, true) }) (v := ?_) rfl (by kernel_rfl) (by kernel_rfl) (by kernel_rfl) (fun _ _ _ h => h) (Or.inl ⟨by rfl, ?_⟩) hHeld ?_
              rotate_left
              · (intro w hSw; have hc := (runA_w hSw.r).2; go_simp; try with_reducible rfl)
              (try simp only [Act.put, List.setIfInBounds_toArray, List.set_cons_zero, List.set_cons_succ])
              refine wpAnyH_take (i := 34) (oi := { dst := some 112, op := Op.move (Operand.tmp 0), type := 24, pos := "outright.go:34", after := #[{ on := 31, ground := Ground.guard }], guard := some (31, true) }) (v := ?_) rfl (by kernel_rfl) (by kernel_rfl) (by kernel_rfl) (fun _ _ _ h => h) (Or.inl ⟨by rfl, ?_⟩) hHeld ?_
              rotate_left
              · (intro w hSw; go_simp; try with_reducible rfl)
              (try simp only [Act.put, List.setIfInBounds_toArray, List.set_cons_zero, List.set_cons_succ])
              refine wpAnyH_take (i := 35) (oi := { dst := some 113, op := Op.call { callee := Callee.builtin Builtin.len, args := #[Operand.tmp 112], argTypes := #[24] }, type := 3, pos := "outright.go:34", after := #[{ on := 34, ground := Ground.data }, { on := 31, ground := Ground.guard }], guard := some (31, true) }) (v := ?_) rfl (by kernel_rfl) (by kernel_rfl) (by kernel_rfl) (fun _ _ _ h => h) (Or.inl ⟨by rfl, ?_⟩) hHeld ?_
              rotate_left
              · (intro w hSw; go_simp; try with_reducible rfl)
              (try simp only [Act.put, List.setIfInBounds_toArray, List.set_cons_zero, List.set_cons_succ])
              refine wpAnyH_take (i := 36) (oi := { dst := some 114, op := Op.convert 3 50 (Operand.tmp 113), type := 50, pos := "outright.go:34", after := #[{ on := 35, ground := Ground.data }, { on := 31, ground := Ground.guard }], guard := some (31, true) }) (v := ?_) rfl (by kernel_rfl) (by kernel_rfl) (by kernel_rfl) (fun _ _ _ h => h) (Or.inl ⟨by rfl, ?_⟩) hHeld ?_
              rotate_left
              · (intro w hSw; go_simp; try with_reducible rfl)
              (try simp only [Act.put, List.setIfInBounds_toArray, List.set_cons_zero, List.set_cons_succ])
              refine wpAnyH_take (i := 37) (oi := { dst := some 115, op := Op.binOp BinOp.eql 50 (Operand.tmp 111) (Operand.tmp 114) 50, type := 4, pos := "outright.go:34", after := #[{ on := 33, ground := Ground.data }, { on := 36, ground := Ground.data }, { on := 31, ground := Ground.guard }], guard := some (31, true) }) (v := ?_) rfl (by kernel_rfl) (by kernel_rfl) (by kernel_rfl) (fun _ _ _ h => h) (Or.inl ⟨by rfl, ?_⟩) hHeld ?_
              rotate_left
              · (intro w hSw; go_simp; try with_reducible rfl)
              (try simp only [Act.put, List.setIfInBounds_toArray, List.set_cons_zero, List.set_cons_succ])
              refine wpAnyH_take (i := 38) (oi := { dst := some 116, op := Op.pick (Operand.tmp 109) (Operand.tmp 115) (Operand.const (Value.bool false)), type := 4, pos := "outright.go:34", after := #[{ on := 31, ground := Ground.data }, { on := 37, ground := Ground.data }], guard := none }) (v := ?_) rfl (by kernel_rfl) (by kernel_rfl) (by kernel_rfl) (fun _ _ _ h => h) (Or.inl ⟨by rfl, ?_⟩) hHeld ?_
              rotate_left
              · (intro w hSw; go_simp; try with_reducible rfl)
              (try simp only [Act.put, List.setIfInBounds_toArray, List.set_cons_zero, List.set_cons_succ])
              refine wpAnyH_take (i := 39) (oi := { dst := some 4, op := Op.assign (Operand.tmp 116), type := 4, pos := "outright.go:34", after := #[{ on := 38, ground := Ground.data }, { on := 31, ground := Ground.chain }, { on := 0, ground := Ground.phase }, { on := 1, ground := Ground.phase }, { on := 2, ground := Ground.phase }, { on := 3, ground := Ground.phase }, { on := 4, ground := Ground.phase }, { on := 5, ground := Ground.phase }, { on := 6, ground := Ground.phase }, { on := 7, ground := Ground.phase }, { on := 8, ground := Ground.phase }, { on := 9, ground := Ground.phase }, { on := 10, ground := Ground.phase }, { on := 11, ground := Ground.phase }, { on := 12, ground := Ground.phase }, { on := 13, ground := Ground.phase }, { on := 14, ground := Ground.phase }, { on := 15, ground := Ground.phase }, { on := 16, ground := Ground.phase }, { on := 17, ground := Ground.phase }, { on := 18, ground := Ground.phase }, { on := 19, ground := Ground.phase }, { on := 20, ground := Ground.phase }, { on := 21, ground := Ground.phase }, { on := 22, ground := Ground.phase }, { on := 23, ground := Ground.phase }, { on := 24, ground := Ground.phase }, { on := 25, ground := Ground.phase }, { on := 26, ground := Ground.phase }, { on := 27, ground := Ground.phase }, { on := 28, ground := Ground.phase }, { on := 29, ground := Ground.phase }, { on := 30, ground := Ground.phase }, { on := 31, ground := Ground.phase }, { on := 32, ground := Ground.phase }, { on := 33, ground := Ground.phase }, { on := 34, ground := Ground.phase }, { on := 35, ground := Ground.phase }, { on := 36, ground := Ground.phase }, { on := 37, ground := Ground.phase }, { on := 38, ground := Ground.phase }], guard := none }) (v := ?_) rfl (by kernel_rfl) (by kernel_rfl) (by kernel_rfl) (fun _ _ _ h => h) (Or.inl ⟨by rfl, ?_⟩) hHeld ?_
              rotate_left
              · (intro w hSw; go_simp; try with_reducible rfl)
              (try simp only [Act.put, List.setIfInBounds_toArray, List.set_cons_zero, List.set_cons_succ])
              refine wpAnyH_done (by kernel_rfl) ?_ _
              have hfin := bch HB3.out hHeld.low
              clear hHeld
              go_wp2_with fail
              all_goals (go_ret; exact ⟨rfl, hfin⟩)
end Go.Proofs.YtkenbppoldfecaaDoor
