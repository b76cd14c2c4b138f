/- Proved here: Clashes of package claim: the paths that clash. -/
import Derived.Test.YtgmplpfbhcdofaaGreatKOf
namespace Go.Proofs.YtgmplpfbhcdofaaGreat
open Go.RowKit Go.Shelf Go.Lib
attribute [local go_sem] Oper.semAt_some

def clashB (c : Cl) : Bool := decide (1 < c.own.length) && !c.dir
def clashP (l : List Cl) : List Bs := (l.filter clashB).map (·.p)
theorem clashP_snoc (l : List Cl) (c : Cl) : clashP (l ++ [c]) = if clashB c = true then clashP l ++ [c.p] else clashP l := by
  unfold clashP
  rw [List.filter_append]
  cases h : clashB c <;> simp [h]
/-- What the loop keeps. -/
def kI (w : World) (b0 D : Nat) (z : Nat × (Bs → Value)) (pre : List Cl) (X : World) : Prop :=
  (D + 2 ≤ z.1 ∧ z.1 ≤ X.heap.size) ∧ Below w.heap.size w X ∧ ∃ v, Boxed X b0 23 v ∧ X.ownsRow w.heap.size 9 1 v (clashP pre).length ((clashP pre).map encStr) ∧ ∀ g, v.ownBlock = some g → z.1 ≤ g
/-- A claim in a round's own variable. -/
def kA (D b0 : Nat) (lv fv : Value) (x : Cl) (args : Array Value) (a : Act) (X : World) : Prop :=
  ∃ g av cv, args = #[clV x.p x.dir (.slice av x.own.length cv)] ∧ a = { tmps := #[lv, undef, .slice none 0 0, .int .i64 0, .int .i64 0, .pointer (some ⟨b0, 0, none⟩), .pointer (some ⟨g, 0, none⟩), lv, .int .i64 0, .int .i64 0, .bool false, undef, lv, fv, clV x.p x.dir (.slice av x.own.length cv), undef, undef, undef, undef, undef, undef, undef, undef, undef, undef, undef, undef, undef, undef, undef], defers := [] } ∧
    Box X g 44 #[.string ⟨x.p.toArray⟩, .bool x.dir, .slice av x.own.length cv] ∧ D + 2 ≤ g
theorem info9 : (Tryz.prog.info? 9).map (fun i => (i.zero, i.size, i.bytes)) = some (some (.string ⟨#[]⟩), 1, 16) := by kernel_rfl
def ClashR (l : List (List Lf)) (w : World) (e : Ending) (w' : World) : Prop := ∃ v, e = .returned (.tuple #[v, .int .i64 (chkR l)]) ∧ Below w.heap.size w w' ∧ (chkR l ≠ 0 → v = .slice none 0 0) ∧ (chkR l = 0 → w'.ownsRow w.heap.size 9 1 v (clashP (clsL l)).length ((clashP (clsL l)).map encStr))
set_option maxRecDepth 100000 in
set_option maxHeartbeats 2000000 in
theorem clash_bad (l : List (List Lf)) (v : Value) (w : World) (hv : RdRs w v l) (hz : chkR l ≠ 0) : Calls Tryz.prog 12 #[v] w (ClashR l w) := by
  have HC := Lib.hid (check_any l v w hv)
  obtain ⟨a, c, rfl, _⟩ := hv
  have t1 : (chkR l != 0) = true := by simpa using hz
  have HZ := Lib.hid hz
  obtain ⟨n, hn⟩ : ∃ n, n = l.length := ⟨_, rfl⟩
  rw [← hn] at HC ⊢
  clear hz hn
  go_enter Tryz.func12, Tryz.ntmps12
  go_wp2_with (go_at_call 36; refine HC.out.mono ?_; rintro e w1 ⟨rfl, hb⟩; have HB1 := Lib.hid hb; clear hb)
  go_ret2
  exact ⟨_, rfl, HB1.out, fun _ => rfl, fun h => absurd h HZ.out⟩
set_option maxRecDepth 100000 in
set_option maxHeartbeats 4000000 in
theorem clash_good (l : List (List Lf)) (v : Value) (w : World) (hv : RdRs w v l) (hz : chkR l = 0) : Calls Tryz.prog 12 #[v] w (ClashR l w) := by
  have HV := Lib.hid hv
  have HC := Lib.hid (check_any l v w hv)
  have HK := Lib.hid ((chkR_iff l).1 hz)
  obtain ⟨a, c, rfl, _⟩ := hv
  obtain ⟨n, hn⟩ : ∃ n, n = l.length := ⟨_, rfl⟩
  rw [← hn] at HV HC ⊢
  have HZ := Lib.hid hz
  clear hn hz
  refine (callsIn_wide (n := 5)).1 ?_
  refine callsIn_of_wp_marks Tryz.func12 rfl trivial ?_ rfl
  simp only [Tryz.ntmps12, List.size_toArray, List.length_cons, List.length_nil, Nat.reduceAdd, Nat.reduceSub, Array.replicate_succ, Array.replicate_zero, List.push_toArray, List.append_toArray, List.nil_append, List.cons_append]
  gi_upto_region 4 with (refine ⟨trivial, ?_⟩; gi_at_call 36; refine (callsIn_wide.2 HC.out).mono ?_; rintro e w1 ⟨rfl, hb⟩; rw [HZ.out]; have HB1 := Lib.hid hb; clear hb)
  gi_upto_region 5 with fail
  obtain ⟨w2, hw2⟩ : ∃ z, z = w1.alloc (.cells #[.slice none 0 0] 23) := ⟨_, rfl⟩
  have hb2 : Below w1.heap.size w1 w2 := by rw [hw2]; exact below_new _ _
  have X2 : Boxed w2 w1.heap.size 23 (.slice none 0 0) := by rw [hw2]; exact Boxed.new _ _ _
  have hs2 : w2.heap.size = w1.heap.size + 1 := by rw [hw2]; simp
  have HB2 : Hid (Below w.heap.size w w2) := Lib.hid (bch HB1.out hb2)
  obtain ⟨w3, hw3⟩ : ∃ z, z = w2.alloc (.cells #[.slice a n c] 29) := ⟨_, rfl⟩
  have hb3 : Below w2.heap.size w2 w3 := by rw [hw3]; exact below_new _ _
  have X3 : Box w3 w2.heap.size 29 #[.slice a n c] := by rw [hw3]; exact box_new
  have hs3 : w3.heap.size = w2.heap.size + 1 := by rw [hw3]; simp
  have HB3 : Hid (Below w.heap.size w w3) := Lib.hid (bch HB2.out hb3)
  have HX3 : Hid (Boxed w3 w1.heap.size 23 (.slice none 0 0)) := Lib.hid (boxed_on X2 hb3)
  have HW3 := Lib.hid hw3
  have HIT := Lib.hid (claims_hands 4 (by omega) w2.heap.size l _ w3 HK.out X3 (HV.out.on HB3.out))
  have HCN : Hid ((clsL l).length ≤ 256) := Lib.hid (by
    show (clsS (plsL l)).length ≤ 256
    unfold clsS
    rw [List.length_map]
    have h1 := pathsS_len (plsL l)
    have h2 := okRs_len HK.out
    omega)
  rw [← hw2]
  obtain ⟨b0, hb0⟩ : ∃ z, z = w1.heap.size := ⟨_, rfl⟩
  rw [← hb0] at HX3 ⊢
  have HBD : Hid (w.heap.size ≤ b0 ∧ b0 < w3.heap.size) := Lib.hid ⟨by rw [hb0]; exact HB1.out.size, by omega⟩
  obtain ⟨bl, hbl⟩ : ∃ z, z = w2.heap.size := ⟨_, rfl⟩
  rw [← hbl] at HIT
  clear hw2 hb2 X2 hs2 hw3 hb3 X3 hs3 hb0
  gi_wp2_with (refine ⟨trivial, ?_⟩; gi_at_call 38; refine (callsIn_wide.2 (claimsfn_any a n c _)).mono ?_; rintro e w' ⟨rfl, rfl⟩; rw [← HW3.out, ← hbl])
  rw [← hbl]
  obtain ⟨fv, hfv⟩ : ∃ z, z = Value.func (.func 64) #[] #[.pointer (some ⟨bl, 0, none⟩)] := ⟨_, rfl⟩
  obtain ⟨lv, hlv⟩ : ∃ z, z = Value.slice a n c := ⟨_, rfl⟩
  refine range_handsS rfl (by omega) (gf := 64) (lb := #[.pointer (some ⟨bl, 0, none⟩)]) rfl trivial (enters_of Tryz.func64 (by kernel_rfl) rfl)
    w3.heap.size rfl HIT.out (fun _ _ _ _ h => by obtain ⟨_, _, _, rfl⟩ := h; rfl) (fun W s k h1 h2 => by rw [← h1]; exact h2.1) (fun W s X h => h.1)
    (kI w b0 w3.heap.size) (fun _ _ _ => False) ?hI (fun _ _ _ _ _ h _ _ => h) ?h0 ?hRI (kA w3.heap.size b0 lv fv) ?hA ?assign ?body ?done ?stop
  case hI =>
    rintro z ys X Y row ⟨h1, h2, v, h3, h4, h5⟩ hg hr
    have hbd := HBD.out
    have hb3 := HB3.out.size
    refine ⟨⟨h1.1, Nat.le_trans h1.2 hg.size⟩, h2.grown hg h2.size (fun r e => by have := hr r e; omega), v, h3.kept hg (fun e => by have := hr _ e.symm; omega), own_grown h4 hg (fun r e k => ?_), h5⟩
    have := hr r e
    have := h5 r k
    omega
  case h0 =>
    intro W z X hb hs hG
    have hbd := HBD.out
    have hsz := hG.1.size
    refine ⟨⟨by rw [hG.2.1]; omega, by rw [hG.2.1]; exact Nat.le_refl _⟩, bch HB3.out (hb.trans (hG.1.mono (by omega))), .slice none 0 0, boxed_on (boxed_on HX3.out hb) hG.1, World.ownsRow_nil _ _ _ _, fun g e => by cases e⟩
  case hRI =>
    rintro W z ys X k _ ⟨h1, _⟩ hk
    have := hk.2
    omega
  case hA =>
    rintro x args a' X Y row ⟨g, av, cv, h1, h2, h3, h4⟩ hg hr
    exact ⟨g, av, cv, h1, h2, box_grown h3 hg (fun e => by have := hr g e.symm; omega), h4⟩
  case assign =>
    rintro W lp z x args X K hX ⟨av, cv, h1, rfl⟩ hK
    have HKK := Lib.hid hK
    clear hK h1
    gi_wp2
    refine HKK.out _ _ (below_new _ _) ⟨X.heap.size, av, cv, rfl, ?_, box_new, hX⟩
    rw [hfv, hlv, ← hbl]
  case body =>
    rintro W lp z pre x args a' X hWs hpre ⟨a9, c9, hV, rfl⟩ hsX ⟨h1, h2, v, hX, hO, hN⟩ ⟨g, av, cv, e1, rfl, hbx, hgD⟩
    have e2 : a9 = av ∧ c9 = cv := by
      simp only [Array.mk.injEq, List.cons.injEq, Value.agg.injEq, Value.slice.injEq, and_true, true_and] at e1
      exact e1
    obtain ⟨rfl, rfl⟩ := e2
    have HI0 : Hid (kI w b0 w3.heap.size z pre X) := Lib.hid ⟨h1, h2, v, hX, hO, hN⟩
    obtain ⟨a1, c1, rfl⟩ := own_slice hO
    obtain ⟨nx, hnx⟩ : ∃ z, z = x.own.length := ⟨_, rfl⟩
    rw [← hnx] at hbx ⊢
    have c0 := hX.cell
    have x0 : X.cell? ⟨g, 0, none⟩ = some (.string ⟨x.p.toArray⟩) := hbx.cell (k := 0) rfl
    have x1 : X.cell? ⟨g, 1, none⟩ = some (.bool x.dir) := hbx.cell (k := 1) rfl
    have x2 : X.cell? ⟨g, 2, none⟩ = some (.slice a9 nx c9) := hbx.cell (k := 2) rfl
    have HSN := Lib.hid (clashP_snoc pre x)
    by_cases hcl : clashB x = true
    · have hb1 : 1 < nx ∧ x.dir = false := by
        unfold clashB at hcl
        rw [← hnx] at hcl
        simpa using hcl
      have t1 : decide ((nx : Int) > 1) = true := decide_eq_true (by omega)
      rw [hb1.2] at x1
      have HCLP : Hid (clashP (pre ++ [x]) = clashP pre ++ [x.p]) := Lib.hid (by rw [HSN.out, if_pos hcl])
      have HPL : Hid ((clashP pre).length + 1 ≤ 300) := Lib.hid (by
        have h3 := hpre.length_le
        have h4 := HCN.out
        have h5 : (clashP pre).length ≤ pre.length := by unfold clashP; rw [List.length_map]; exact List.length_filter_le _ _
        simp at h3
        omega)
      obtain ⟨i0, hi, hz0, hz1, hz2⟩ := info_parts info9
      obtain ⟨X7, hX7⟩ : ∃ z, z = X.alloc (.cells #[.string ⟨x.p.toArray⟩] 9) := ⟨_, rfl⟩
      have hB7 : Below X.heap.size X X7 := by rw [hX7]; exact below_new _ _
      have HOW := Lib.hid (own_on hO hB7)
      have HNW : Hid (∀ (j : Nat) (u : Value), [Value.string ⟨x.p.toArray⟩][j]? = some u → X7.cell? ((⟨X.heap.size, 0, none⟩ : Addr).add j) = some u) := Lib.hid (fun j u hu => by
        rw [addr_add, Nat.zero_add]
        have hbx : Box X7 X.heap.size 9 #[.string ⟨x.p.toArray⟩] := by rw [hX7]; exact heap_alloc_new X _
        exact hbx.cell (by simpa using hu))
      have HSZ7 : Hid (w.heap.size ≤ X7.heap.size) := Lib.hid (Nat.le_trans h2.size hB7.size)
      have HXE := Lib.hid (boxed_on hX hB7)
      have hbd := HBD.out
      have HNG : Hid (some b0 ≠ (Value.slice a1 (clashP pre).length c1).ownBlock) := Lib.hid (fun e => by have := hN _ e.symm; omega)
      have HFIN : Hid (∀ v' w', w'.ownsRow w.heap.size 9 1 v' ((clashP pre).length + 1) ((clashP pre).map encStr ++ [Value.string ⟨x.p.toArray⟩]) → X7.grownBy w' (Value.slice a1 (clashP pre).length c1).ownBlock → (v'.ownBlock = (Value.slice a1 (clashP pre).length c1).ownBlock ∨ v'.ownBlock = some X7.heap.size) →
          LeftS (RC W z) w3.heap.size (kI w b0 w3.heap.size) (fun _ _ _ => False) z (pre ++ [x]) X .normal { tmps := #[], defers := [] } (w'.setCell ⟨b0, 0, none⟩ v')) := Lib.hid (fun v' w' k1 k2 k3 => by
        have hsz := k2.size
        have hsz7 := hB7.size
        have hb := HXE.out.kept k2 HNG.out
        have hnew : ∀ g, v'.ownBlock = some g → z.1 ≤ g := fun g e => by
          rcases k3 with k3 | k3
          · exact hN g (by rw [← k3]; exact e)
          · rw [k3] at e; cases e; omega
        have far : ∀ k, k < X.heap.size → k ≠ b0 → (∀ g, (Value.slice a1 (clashP pre).length c1).ownBlock = some g → k ≠ g) → (w'.setCell ⟨b0, 0, none⟩ v').heap[k]? = X.heap[k]? := fun k j1 j2 j3 => by
          rw [Below.heap_setCell _ _ _ _ (show k ≠ b0 from j2), k2.block k (by omega) (fun e => j3 k e.symm rfl), hB7.block k j1]
        refine ⟨fun k hk => ?_, fun k hk => ?_, by simp; omega, ⟨h1.1, by simp; omega⟩, ?_, v', hb.set _, ?_, hnew⟩
        · have hk1 : W.heap.size ≤ k := hk.1
          have hk2 : k < z.1 := hk.2
          exact far k (by omega) (by omega) (fun g e => by have := hN g e; omega)
        · exact far k (by omega) (by omega) (fun g e => by have := hN g e; omega)
        · exact ((h2.trans (hB7.mono h2.size)).grown k2 (Nat.le_trans h2.size hB7.size) (fun k e => (own_in hO e).1)).setCell (p := ⟨b0, 0, none⟩) hbd.1 _
        · rw [HCLP.out, List.length_append, List.map_append]
          exact own_grown k1 (grownBy_setCell' _ _ _) (fun r e e2 => by cases e; have := hnew _ e2; omega))
      have HX7 := Lib.hid hX7
      obtain ⟨m, hm⟩ : ∃ m, m = (clashP pre).length := ⟨_, rfl⟩
      rw [← hm] at c0 HOW HXE HNG HFIN HPL
      clear hX hO hN h1 h2 hB7 hX7 hm hpre hsX hbx e1 hV hgD hbd hWs hcl hb1 hnx
      gi_wp2_with (gi_at_builtin; go_loud (rw [← HX7.out]; refine wpListIn_append_own_at _ rfl _ _ 23 rfl w.heap.size 9 i0 (.string ⟨#[]⟩) 1 16 Tryz.underlying23 hi hz0 hz1 hz2 rfl (by decide) _ _ _ rfl HOW.out ⟨X.heap.size, 0, none⟩ 1 1 [Value.string ⟨x.p.toArray⟩] rfl rfl HNW.out (by simp [Value.oneCell']) (by have := HPL.out; unfold maxLen; omega) (by have := HPL.out; omega) HSZ7.out ?_; intro v' w' hown' hgrow _ hat; have HXw := Lib.hid (HXE.out.kept hgrow HNG.out); have HM := Lib.hid (HFIN.out v' w' hown' hgrow hat); have xw := HXw.out.cell; have fw := HXw.out.frozen; obtain ⟨aq, cq, rfl⟩ := own_slice hown'; clear hown' hgrow hat c0; refine Hid.out ?_))
      refine Lib.hid ?_
      gi_wp2
      exact HM.out
    · have HCLP : Hid (clashP (pre ++ [x]) = clashP pre) := Lib.hid (by rw [HSN.out, if_neg hcl])
      have HFIN : Hid (LeftS (RC W z) w3.heap.size (kI w b0 w3.heap.size) (fun _ _ _ => False) z (pre ++ [x]) X .normal { tmps := #[], defers := [] } X) := Lib.hid (by
        refine ⟨Fix.refl _ _, Fix.refl _ _, Nat.le_refl _, ?_⟩
        obtain ⟨j1, j2, v, j3, j4, j5⟩ := HI0.out
        exact ⟨j1, j2, v, j3, by rw [HCLP.out]; exact j4, j5⟩)
      by_cases h1n : 1 < nx
      · have hd : x.dir = true := by
          unfold clashB at hcl
          rw [← hnx] at hcl
          simpa [h1n] using hcl
        have t1 : decide ((nx : Int) > 1) = true := decide_eq_true (by omega)
        rw [hd] at x1
        clear hX hO hN h1 h2 hpre hsX hbx e1 hV hgD hWs hcl hnx h1n hd
        gi_wp2
        exact HFIN.out
      · have t1 : decide ((nx : Int) > 1) = false := decide_eq_false (by omega)
        clear hX hO hN h1 h2 hpre hsX hbx e1 hV hgD hWs hcl hnx h1n
        gi_wp2
        exact HFIN.out
  case done =>
    rintro z X ⟨h1, h2, v, hX, hO, hN⟩ hsX hd
    obtain ⟨a1, c1, rfl⟩ := own_slice hO
    have c0 := hX.cell
    have HD := Lib.hid hd
    have HO := Lib.hid hO
    have HN := Lib.hid hN
    have HB := Lib.hid h2
    have H1 := Lib.hid h1
    have hbd := HBD.out
    obtain ⟨m, hm⟩ : ∃ m, m = (clashP (clsL l)).length := ⟨_, rfl⟩
    rw [← hm] at c0 HO HN
    have HM := Lib.hid hm
    clear hX hO hN h1 h2 hd hm
    gi_wp2
    refine ⟨by simp, .inl ⟨_, _, rfl, run_takeDeferred HD.out, ?_⟩⟩
    refine ⟨.tuple #[.slice a1 m c1, .int .i64 0], ?_, ?_⟩
    · simp [results, Tryz.f12, go_sem]
    · refine ⟨_, by rw [HZ.out], put_below' HB.out (by omega), fun h => absurd HZ.out h, fun _ => ?_⟩
      rw [← HM.out]
      exact own_grown HO.out (grownBy_putObj' _ _ _) (fun r e e2 => by cases e; have := HN.out _ e2; have := H1.out; omega)
  case stop => exact fun _ _ _ h _ _ => h.elim
theorem clashes_any (l : List (List Lf)) (v : Value) (w : World) (hv : RdRs w v l) : Calls Tryz.prog 12 #[v] w (ClashR l w) := by
  by_cases h : chkR l = 0
  · exact clash_good l v w hv h
  · exact clash_bad l v w hv h
end Go.Proofs.YtgmplpfbhcdofaaGreat
