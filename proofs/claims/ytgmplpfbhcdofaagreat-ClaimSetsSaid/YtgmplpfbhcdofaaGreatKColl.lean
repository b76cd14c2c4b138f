/- Proved here: slices.Collect of the claims of rows. -/
import Derived.Test.YtgmplpfbhcdofaaGreatKIter
namespace Go.Proofs.YtgmplpfbhcdofaaGreat
open Go.RowKit Go.Shelf Go.Lib
attribute [local go_sem] Oper.semAt_some

def ccells (V : Bs → Value) (c : Cl) : List Value := [.string ⟨c.p.toArray⟩, .bool c.dir, V c.p]
def flatC (V : Bs → Value) (l : List Cl) : List Value := l.flatMap (ccells V)
theorem flatC_cons (V : Bs → Value) (c : Cl) (l : List Cl) : flatC V (c :: l) = ccells V c ++ flatC V l := rfl
theorem flatC_append (V : Bs → Value) (a b : List Cl) : flatC V (a ++ b) = flatC V a ++ flatC V b := List.flatMap_append
theorem flatC_len (V : Bs → Value) (l : List Cl) : (flatC V l).length = l.length * 3 := by
  induction l with
  | nil => rfl
  | cons v l ih => rw [flatC_cons, List.length_append, ih, List.length_cons]; show 3 + _ = _; omega
theorem own_grown {w w' : World} {base n sz : Nat} {e : TypeId} {v : Value} {xs : List Value} {row : Option Nat} (h : w.ownsRow base e sz v n xs) (hg : w.grownBy w' row) (hr : ∀ r, row = some r → v.ownBlock ≠ some r) : w'.ownsRow base e sz v n xs :=
  h.kept hg (by
    cases hv : v.ownBlock with
    | none => exact .inl rfl
    | some k => exact .inr (fun e => hr k e.symm hv))
theorem own_on {w w' : World} {base n sz : Nat} {e : TypeId} {v : Value} {xs : List Value} (h : w.ownsRow base e sz v n xs) (hb : Below w.heap.size w w') : w'.ownsRow base e sz v n xs :=
  h.kept (row := none) ⟨hb.os, hb.tape, hb.output, hb.size, fun k hk _ => hb.block k hk⟩ (Classical.em _)
/-- The owners of each path, in memory of their own, between A and S. -/
structure OwnsC (s : List Pl) (B A : Nat) (z : Nat × (Bs → Value)) (X : World) : Prop where
  row : ∀ p, X.ownsRow B 3 1 (z.2 p) (ownS s p).length (natsV (ownS s p))
  at_ : ∀ p g, (z.2 p).ownBlock = some g → A ≤ g ∧ g < z.1
  apart : ∀ p q, p ≠ q → ∀ g, (z.2 p).ownBlock = some g → (z.2 q).ownBlock ≠ some g
  le : A ≤ z.1 ∧ z.1 ≤ X.heap.size
theorem OwnsC.grown {s : List Pl} {B A : Nat} {z : Nat × (Bs → Value)} {X Y : World} {row : Option Nat} (h : OwnsC s B A z X) (hg : X.grownBy Y row) (hr : ∀ r, row = some r → r < A ∨ z.1 ≤ r) : OwnsC s B A z Y :=
  ⟨fun p => own_grown (h.row p) hg (fun r e k => by have := h.at_ p r k; have := hr r e; omega), h.at_, h.apart, h.le.1, Nat.le_trans h.le.2 hg.size⟩
theorem GC.owns {s : List Pl} {W X : World} {z : Nat × (Bs → Value)} (h : GC s W z X) {B : Nat} (hB : B ≤ W.heap.size) : OwnsC s B W.heap.size z X :=
  ⟨fun p => own_mono (h.2.2.1 p) hB, fun p g hg => by have := own_in (h.2.2.1 p) hg; rw [h.2.1]; exact this, h.2.2.2, by rw [h.2.1]; exact h.1.size, by rw [h.2.1]; exact Nat.le_refl _⟩
theorem put_below' {w X : World} {r : Nat} {o : Obj} (h : Below w.heap.size w X) (hr : w.heap.size ≤ r) : Below w.heap.size w (X.putObj r o) :=
  ⟨h.os, h.tape, h.output, by simpa using h.size, fun k hk => (World.putObj_heap_other (by omega)).trans (h.block k hk)⟩
/-- What the gathering loop keeps. -/
def cI (s : List Pl) (w : World) (D : Nat) (z : Nat × (Bs → Value)) (pre : List Cl) (X : World) : Prop :=
  OwnsC s w.heap.size (D + 2) z X ∧ Below w.heap.size w X ∧ ∃ v, Boxed X w.heap.size 33 v ∧ X.ownsRow w.heap.size 44 3 v pre.length (flatC z.2 pre) ∧ ∀ g, v.ownBlock = some g → z.1 ≤ g
theorem info43 : (Tryz.prog.info? 44).map (fun i => (i.zero, i.size, i.bytes)) = some (some (clV [] false (.slice none 0 0)), 3, 48) := by kernel_rfl
/-- A claim in a round's own variable. -/
def cA (w : World) (D : Nat) (fv : Value) (x : Cl) (args : Array Value) (a : Act) (X : World) : Prop :=
  ∃ g av cv, args = #[clV x.p x.dir (.slice av x.own.length cv)] ∧ a = { tmps := #[.slice none 0 0, fv, .pointer (some ⟨w.heap.size, 0, none⟩), undef, .slice none 0 0, .pointer (some ⟨g, 0, none⟩), fv, clV x.p x.dir (.slice av x.own.length cv), undef, undef, undef, undef, undef], defers := [] } ∧
    Box X g 44 #[.string ⟨x.p.toArray⟩, .bool x.dir, .slice av x.own.length cv] ∧ D + 2 ≤ g
theorem box_grown {X Y : World} {g : Nat} {t : TypeId} {cs : Array Value} {row : Option Nat} (h : Box X g t cs) (hg : X.grownBy Y row) (hr : some g ≠ row) : Box Y g t cs := (hg.block g h.lt hr).trans h

set_option maxRecDepth 100000 in
set_option maxHeartbeats 4000000 in
theorem cappend_any (bl : Nat) (l : List (List Lf)) (v : Value) (w : World) (hok : okRs l) (hbl : Box w bl 29 #[v]) (hv : RdRs w v l) :
    Calls Tryz.prog 63 #[.slice none 0 0, .func (.func 64) #[] #[.pointer (some ⟨bl, 0, none⟩)]] w fun e w' => ∃ v z, e = .returned v ∧ OwnsC (plsL l) w.heap.size w.heap.size z w' ∧ w'.ownsRow w.heap.size 44 3 v (clsL l).length (flatC z.2 (clsL l)) ∧ Below w.heap.size w w' ∧ ∀ g, v.ownBlock = some g → z.1 ≤ g := by
  obtain ⟨w0, hw0⟩ : ∃ z, z = w.alloc (.cells #[.slice none 0 0] 33) := ⟨_, rfl⟩
  have hB0 : Below w.heap.size w w0 := by rw [hw0]; exact below_new _ _
  have hs0 : w0.heap.size = w.heap.size + 1 := by rw [hw0]; simp
  have hX0 : Boxed w0 w.heap.size 33 (.slice none 0 0) := by rw [hw0]; exact Boxed.new _ _ _
  have HIT := Lib.hid (claims_hands 4 (by omega) bl l v w0 hok (hbl.on hB0) (hv.on hB0))
  have hcnt : (clsL l).length ≤ 256 := by
    show (clsS (plsL l)).length ≤ 256
    unfold clsS
    rw [List.length_map]
    have h1 := pathsS_len (plsL l)
    have h2 := okRs_len hok
    omega
  have HCN := Lib.hid hcnt
  have HW0 := Lib.hid hw0
  have HX0 := Lib.hid hX0
  have HB0 := Lib.hid hB0
  obtain ⟨fv, hfv⟩ : ∃ z, z = Value.func (.func 64) #[] #[.pointer (some ⟨bl, 0, none⟩)] := ⟨_, rfl⟩
  clear hok hbl hv hcnt hw0 hX0 hB0
  refine (callsIn_wide (n := 5)).1 ?_
  refine callsIn_of_wp_marks Tryz.func63 rfl trivial ?_ rfl
  simp only [Tryz.ntmps63, List.size_toArray, List.length_cons, List.length_nil, Nat.reduceAdd, Nat.reduceSub, Array.replicate_succ, Array.replicate_zero, List.push_toArray, List.append_toArray, List.nil_append, List.cons_append]
  gi_wp2
  rw [← HW0.out]
  refine range_handsS rfl (by omega) (gf := 64) (lb := #[.pointer (some ⟨bl, 0, none⟩)]) rfl trivial (enters_of Tryz.func64 (by kernel_rfl) rfl)
    w0.heap.size rfl HIT.out (fun _ _ _ _ h => by obtain ⟨_, _, _, rfl⟩ := h; rfl) (fun W s k h1 h2 => by rw [← h1]; exact h2.1) (fun W s X h => h.1)
    (cI (plsL l) w w0.heap.size) (fun _ _ _ => False) ?hI (fun _ _ _ _ _ h _ _ => h) ?h0 ?hRI (cA w w0.heap.size fv) ?hA ?assign ?body ?done ?stop
  case hI =>
    rintro z ys X Y row ⟨h1, h2, v, h3, h4, h5⟩ hg hr
    refine ⟨h1.grown hg (fun r e => by have := hr r e; omega), h2.grown hg h2.size (fun r e => by have := hr r e; omega), v, h3.kept hg (fun e => by have := hr _ e.symm; omega), own_grown h4 hg (fun r e k => ?_), h5⟩
    have := hr r e
    have := h5 r k
    have := h1.le
    omega
  case h0 =>
    intro W z X hb hs hG
    have := hG.owns (B := w.heap.size) (by omega)
    rw [hs] at this
    refine ⟨this, (HB0.out.trans (hb.mono (by omega))).trans (hG.1.mono (by omega)), .slice none 0 0, ?_, World.ownsRow_nil _ _ _ _, fun g e => by cases e⟩
    exact boxed_on (boxed_on HX0.out hb) hG.1
  case hRI =>
    rintro W z ys X k _ ⟨h1, _⟩ hk
    have := h1.le
    have := hk.2
    omega
  case hA =>
    rintro x args a' X Y row ⟨g, av, cv, h1, h2, h3, h4⟩ hg hr
    exact ⟨g, av, cv, h1, h2, box_grown h3 hg (fun e => by have := hr g e.symm; omega), h4⟩
  case assign =>
    rintro W lp z x args X K hX ⟨av, cv, h1, rfl⟩ hK
    have HKK := Lib.hid hK
    clear hK h1
    gi_wp2
    refine HKK.out _ _ (below_new _ _) ⟨X.heap.size, av, cv, rfl, ?_, box_new, hX⟩
    rw [hfv]
  case body =>
    rintro W lp z pre x args a' X hWs hpre ⟨a9, c9, hV, rfl⟩ hsX ⟨h1, h2, v, hX, hO, hN⟩ ⟨g, av, cv, e1, rfl, hbx, hgD⟩
    have e2 : a9 = av ∧ c9 = cv := by
      simp only [Array.mk.injEq, List.cons.injEq, Value.agg.injEq, Value.slice.injEq, and_true, true_and] at e1
      exact e1
    obtain ⟨rfl, rfl⟩ := e2
    obtain ⟨a1, c1, rfl⟩ := own_slice hO
    have c0 := hX.cell
    have x0 : X.cell? ⟨g, 0, none⟩ = some (.string ⟨x.p.toArray⟩) := hbx.cell (k := 0) rfl
    have x1 : X.cell? ⟨g, 1, none⟩ = some (.bool x.dir) := hbx.cell (k := 1) rfl
    have x2 : X.cell? ⟨g, 2, none⟩ = some (.slice a9 x.own.length c9) := hbx.cell (k := 2) rfl
    have HPL : Hid (pre.length + 1 ≤ 256) := Lib.hid (by
      have := hpre.length_le
      have := HCN.out
      simp at *
      omega)
    obtain ⟨i0, hi, hz0, hz1, hz2⟩ := info_parts info43
    obtain ⟨X7, hX7⟩ : ∃ z, z = X.alloc (.cells #[.string ⟨x.p.toArray⟩, .bool x.dir, .slice a9 x.own.length c9] 44) := ⟨_, rfl⟩
    have hB7 : Below X.heap.size X X7 := by rw [hX7]; exact below_new _ _
    have HOW := Lib.hid (own_on hO hB7)
    have HNW : Hid (∀ (j : Nat) (u : Value), [Value.string ⟨x.p.toArray⟩, .bool x.dir, .slice a9 x.own.length c9][j]? = some u → X7.cell? ((⟨X.heap.size, 0, none⟩ : Addr).add j) = some u) := Lib.hid (fun j u hu => by
      rw [addr_add, Nat.zero_add]
      have hbx : Box X7 X.heap.size 44 #[.string ⟨x.p.toArray⟩, .bool x.dir, .slice a9 x.own.length c9] := by rw [hX7]; exact heap_alloc_new X _
      exact hbx.cell (by simpa using hu))
    have HSZ7 : Hid (w.heap.size ≤ X7.heap.size) := Lib.hid (Nat.le_trans h2.size hB7.size)
    have HXE := Lib.hid (boxed_on hX hB7)
    have hws : w0.heap.size = w.heap.size + 1 := hs0
    have HNG : Hid (some w.heap.size ≠ (Value.slice a1 pre.length c1).ownBlock) := Lib.hid (fun e => by have := hN _ e.symm; have := h1.le; omega)
    have HFIN : Hid (∀ v' w', w'.ownsRow w.heap.size 44 3 v' (pre.length + 1) (flatC z.2 pre ++ [Value.string ⟨x.p.toArray⟩, .bool x.dir, .slice a9 x.own.length c9]) → X7.grownBy w' (Value.slice a1 pre.length c1).ownBlock → (v'.ownBlock = (Value.slice a1 pre.length c1).ownBlock ∨ v'.ownBlock = some X7.heap.size) →
        LeftS (RC W z) w0.heap.size (cI (plsL l) w w0.heap.size) (fun _ _ _ => False) z (pre ++ [x]) X .normal { tmps := #[], defers := [] } (w'.setCell ⟨w.heap.size, 0, none⟩ v')) := Lib.hid (fun v' w' k1 k2 k3 => by
      have hsz := k2.size
      have hsz7 := hB7.size
      have hle := h1.le
      have hb := HXE.out.kept k2 HNG.out
      have hnew : ∀ g, v'.ownBlock = some g → z.1 ≤ g := fun g e => by
        rcases k3 with k3 | k3
        · exact hN g (by rw [← k3]; exact e)
        · rw [k3] at e; cases e; omega
      have far : ∀ k, k < X.heap.size → k ≠ w.heap.size → (∀ g, (Value.slice a1 pre.length c1).ownBlock = some g → k ≠ g) → (w'.setCell ⟨w.heap.size, 0, none⟩ v').heap[k]? = X.heap[k]? := fun k j1 j2 j3 => by
        rw [Below.heap_setCell _ _ _ _ (show k ≠ w.heap.size from j2), k2.block k (by omega) (fun e => j3 k e.symm rfl), hB7.block k j1]
      refine ⟨fun k hk => ?_, fun k hk => ?_, by simp; omega, ?_, ?_, v', hb.set _, ?_, hnew⟩
      · have hk1 : W.heap.size ≤ k := hk.1
        have hk2 : k < z.1 := hk.2
        exact far k (by omega) (by omega) (fun g e => by have := hN g e; omega)
      · exact far k (by omega) (by omega) (fun g e => by have := hN g e; omega)
      · exact ((h1.grown (below_grown hB7) (fun r e => by cases e)).grown k2 (fun r e => .inr (hN r e))).grown (grownBy_setCell' _ _ _) (fun r e => by cases e; exact .inl (by omega))
      · exact ((h2.trans (hB7.mono h2.size)).grown k2 (Nat.le_trans h2.size hB7.size) (fun k e => (own_in hO e).1)).setCell (p := ⟨w.heap.size, 0, none⟩) (Nat.le_refl _) _
      · rw [flatC_append, List.length_append]
        have : flatC z.2 [x] = [Value.string ⟨x.p.toArray⟩, .bool x.dir, .slice a9 x.own.length c9] := by
          show ccells z.2 x ++ [] = _
          rw [List.append_nil, ccells, hV]
        rw [this]
        exact own_grown k1 (grownBy_setCell' _ _ _) (fun r e e2 => by cases e; have := hnew _ e2; omega))
    have HX7 := Lib.hid hX7
    obtain ⟨m, hm⟩ : ∃ m, m = pre.length := ⟨_, rfl⟩
    rw [← hm] at c0 HOW HXE HNG HFIN HPL
    clear hX hO hN h1 h2 hB7 hX7 hm hpre hsX hbx e1 hV hgD hws hWs
    gi_wp2_with (gi_at_builtin; go_loud (rw [← HX7.out]; refine wpListIn_append_own_at _ rfl _ _ 33 rfl w.heap.size 44 i0 (clV [] false (.slice none 0 0)) 3 48 Tryz.underlying33 hi hz0 hz1 hz2 rfl (by decide) _ _ _ rfl HOW.out ⟨X.heap.size, 0, none⟩ 1 1 [Value.string ⟨x.p.toArray⟩, .bool x.dir, .slice a9 x.own.length c9] rfl rfl HNW.out (by simp [Value.oneCell']) (by have := HPL.out; unfold maxLen; omega) (by have := HPL.out; omega) HSZ7.out ?_; intro v' w' hown' hgrow _ hat; have HXw := Lib.hid (HXE.out.kept hgrow HNG.out); have HM := Lib.hid (HFIN.out v' w' hown' hgrow hat); have xw := HXw.out.cell; have fw := HXw.out.frozen; obtain ⟨aq, cq, rfl⟩ := own_slice hown'; clear hown' hgrow hat c0; refine Hid.out ?_))
    refine Lib.hid ?_
    gi_wp2
    exact HM.out
  case done =>
    rintro z X ⟨h1, h2, v, hX, hO, hN⟩ hsX hd
    obtain ⟨a1, c1, rfl⟩ := own_slice hO
    have c0 := hX.cell
    have HD := Lib.hid hd
    have HO := Lib.hid hO
    have HN := Lib.hid hN
    have HB := Lib.hid h2
    have H1 := Lib.hid h1
    obtain ⟨m, hm⟩ : ∃ m, m = (clsL l).length := ⟨_, rfl⟩
    rw [← hm] at c0 HO HN
    have HM := Lib.hid hm
    clear hX hO hN h1 h2 hd hm
    gi_wp2
    refine ⟨by simp, .inl ⟨_, _, rfl, run_takeDeferred HD.out, ?_⟩⟩
    refine ⟨.slice a1 m c1, ?_, ?_⟩
    · simp [results, Tryz.f63, go_sem]
    · have hle := H1.out.le
      refine ⟨_, z, rfl, ?_, ?_, ?_, HN.out⟩
      · have h3 := H1.out.grown (grownBy_putObj' X w0.heap.size (.deferred none)) (fun r e => by cases e; exact .inl (by omega))
        exact ⟨h3.row, fun p g hg => by have := h3.at_ p g hg; omega, h3.apart, by have := h3.le; omega⟩
      · rw [← HM.out]
        exact own_grown HO.out (grownBy_putObj' _ _ _) (fun r e e2 => by cases e; have := HN.out _ e2; omega)
      · exact put_below' HB.out (by omega)
  case stop => exact fun _ _ _ h _ _ => h.elim
end Go.Proofs.YtgmplpfbhcdofaaGreat
