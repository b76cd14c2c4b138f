/- Proved here: Alone of package claim: who has all beneath a path. -/
import Derived.Test.YtgmplpfbhcdofaaGreatKClash
namespace Go.Proofs.YtgmplpfbhcdofaaGreat
open Go.RowKit Go.Shelf Go.Lib
attribute [local go_sem] Oper.semAt_some

def oneB (p : Bs) (c : Cl) : Bool := c.p == p && decide (c.own.length = 1)
def ansC : Option Cl → Int × Bool
  | some c => (((c.own[0]?).getD 0 : Nat), true)
  | none => (0, false)
theorem alone_ans (l : List (List Lf)) (p : Bs) : aloneL l p = ansC ((clsL l).find? (oneB p)) := rfl
/-- What Alone answers. -/
noncomputable def aloneR (l : List (List Lf)) (p : Bs) : Int × Bool := if chkR l = 0 then aloneL l p else (0, false)
def AloneR (l : List (List Lf)) (p : Bs) (w : World) (e : Ending) (w' : World) : Prop := e = .returned (.tuple #[.int .i64 (aloneR l p).1, .bool (aloneR l p).2]) ∧ Below w.heap.size w w'
theorem results_cc {fn : Func} {p q : Tmp} {t u : TypeId} (h : fn.results = #[.cell p t, .cell q u]) (tmps : Array Value) {P : Program} {w : World} {b c : Nat} {x y : Value} (h1 : tmps.getD p undef = .pointer (some ⟨b, 0, none⟩)) (h2 : tmps.getD q undef = .pointer (some ⟨c, 0, none⟩)) (k1 : (loadVar t ⟨b, 0, none⟩).run P w = .ok x w) (k2 : (loadVar u ⟨c, 0, none⟩).run P w = .ok y w) :
    (results fn tmps).run P w = .ok (.tuple #[x, y]) w := by
  have e1 : tmps[p]?.getD undef = .pointer (some ⟨b, 0, none⟩) := by rw [← h1]; simp
  have e2 : tmps[q]?.getD undef = .pointer (some ⟨c, 0, none⟩) := by rw [← h2]; simp
  simp [results, h, e1, e2, asAddr, k1, k2]
theorem load_int {w : World} {b : Nat} {v : Value} (h : Boxed w b 3 v) : (loadVar 3 ⟨b, 0, none⟩).run Tryz.prog w = .ok v w := by
  have hc := h.cell
  go_simp
theorem load_bool {w : World} {b : Nat} {v : Value} (h : Boxed w b 4 v) : (loadVar 4 ⟨b, 0, none⟩).run Tryz.prog w = .ok v w := by
  have hc := h.cell
  go_simp
set_option maxRecDepth 100000 in
set_option maxHeartbeats 4000000 in
theorem alone_bad (l : List (List Lf)) (p : Bs) (v : Value) (w : World) (hv : RdRs w v l) (hz : chkR l ≠ 0) : Calls Tryz.prog 18 #[v, .string ⟨p.toArray⟩] w (AloneR l p w) := by
  have HV := Lib.hid hv
  obtain ⟨a, c, rfl, _⟩ := hv
  have t1 : (chkR l != 0) = true := by simpa using hz
  have HZ : Hid (aloneR l p = (0, false)) := Lib.hid (by unfold aloneR; rw [if_neg hz])
  obtain ⟨n, hn⟩ : ∃ n, n = l.length := ⟨_, rfl⟩
  rw [← hn] at HV ⊢
  clear hz hn
  obtain ⟨w1, hw1⟩ : ∃ z, z = ((w.alloc (.cells #[.string ⟨p.toArray⟩] 9)).alloc (.cells #[.int .i64 0] 3)).alloc (.cells #[.bool false] 4) := ⟨_, rfl⟩
  have hb1 : Below w.heap.size w w1 := by rw [hw1]; exact ((below_new w _).alloc (by simp) _).alloc (by simp; omega) _
  have HB1 := Lib.hid hb1
  have HC := Lib.hid (check_any l _ w1 (HV.out.on hb1))
  have X4 : Boxed w1 (w.heap.size + 1) 3 (.int .i64 0) := by
    rw [hw1]
    have := Boxed.new (w.alloc (.cells #[.string ⟨p.toArray⟩] 9)) 3 (.int .i64 0)
    rw [World.size_alloc] at this
    exact boxed_on this (below_new _ _)
  have X5 : Boxed w1 (w.heap.size + 1 + 1) 4 (.bool false) := by
    rw [hw1]
    have := Boxed.new ((w.alloc (.cells #[.string ⟨p.toArray⟩] 9)).alloc (.cells #[.int .i64 0] 3)) 4 (.bool false)
    rw [World.size_alloc, World.size_alloc] at this
    exact this
  go_enter Tryz.func18, Tryz.ntmps18
  go_upto_region 1 with fail
  rw [← hw1]
  clear hw1
  go_upto_region 2 with (go_at_call 36; refine HC.out.mono ?_; rintro e w2 ⟨rfl, hb⟩; have HB2 := Lib.hid hb; clear hb)
  obtain ⟨b4, hb4⟩ : ∃ z, z = w.heap.size + 1 := ⟨_, rfl⟩
  obtain ⟨b5, hb5⟩ : ∃ z, z = w.heap.size + 1 + 1 := ⟨_, rfl⟩
  rw [← hb5] at X5 ⊢
  rw [← hb4] at X4 ⊢
  have hne : b4 ≠ b5 := by omega
  have H4 : Hid (w.heap.size ≤ b4) := Lib.hid (by omega)
  have H5 : Hid (w.heap.size ≤ b5) := Lib.hid (by omega)
  have Y4 := boxed_on X4 HB2.out
  have Y5 := boxed_on X5 HB2.out
  have c4 := Y4.cell
  have f4 := Y4.frozen
  have c5 := (Y5.other (Ne.symm hne) (.int .i64 0)).cell
  have f5 := (Y5.other (Ne.symm hne) (.int .i64 0)).frozen
  have HB : Hid (Below w.heap.size w w2) := Lib.hid (bch HB1.out HB2.out)
  have Z4 := Lib.hid (((Y4.set (.int .i64 0)).other hne (.bool false)))
  have Z5 := Lib.hid ((Y5.other (Ne.symm hne) (.int .i64 0)).set (.bool false))
  clear hb4 hb5 X4 X5 Y4 Y5 hb1
  go_wp2_with fail
  exact bodyPost_ret (results_cc rfl _ rfl rfl (load_int Z4.out) (load_bool Z5.out)) rfl ⟨by rw [HZ.out], (HB.out.setCell H4.out _).setCell H5.out _⟩
/-- What the loop keeps. -/
def aI (s : List Pl) (w : World) (b3 b4 b5 D : Nat) (p : Bs) (z : Nat × (Bs → Value)) (pre : List Cl) (X : World) : Prop :=
  OwnsC s w.heap.size (D + 2) z X ∧ Below w.heap.size w X ∧ Boxed X b3 9 (.string ⟨p.toArray⟩) ∧ Boxed X b4 3 (.int .i64 0) ∧ Boxed X b5 4 (.bool false) ∧ ∀ c ∈ pre, oneB p c = false
def aX (l : List (List Lf)) (w : World) (b4 b5 : Nat) (p : Bs) (_ : Nat × (Bs → Value)) (_ : List Cl) (X : World) : Prop :=
  Below w.heap.size w X ∧ Boxed X b4 3 (.int .i64 (aloneL l p).1) ∧ Boxed X b5 4 (.bool (aloneL l p).2)
/-- A claim in a round's own variable. -/
def aA (D b3 b4 b5 : Nat) (p : Bs) (lv fv : Value) (x : Cl) (args : Array Value) (a : Act) (X : World) : Prop :=
  ∃ g av cv, args = #[clV x.p x.dir (.slice av x.own.length cv)] ∧ a = { tmps := #[lv, .string ⟨p.toArray⟩, undef, .pointer (some ⟨b3, 0, none⟩), .pointer (some ⟨b4, 0, none⟩), .pointer (some ⟨b5, 0, none⟩), .pointer (some ⟨g, 0, none⟩), lv, .int .i64 0, .bool false, lv, fv, clV x.p x.dir (.slice av x.own.length cv), undef, undef, undef, undef, undef, undef, undef, undef, undef, undef, undef, undef, undef, undef], defers := [] } ∧
    Box X g 44 #[.string ⟨x.p.toArray⟩, .bool x.dir, .slice av x.own.length cv] ∧ D + 2 ≤ g
theorem clsL_at {l : List (List Lf)} {c : Cl} (h : c ∈ clsL l) : c = clS (plsL l) c.p := by
  obtain ⟨p, _, rfl⟩ := List.mem_map.1 h
  rfl
theorem find_here {l : List (List Lf)} {p : Bs} {pre : List Cl} {x : Cl} (hpre : pre ++ [x] <+: clsL l) (hn : ∀ c ∈ pre, oneB p c = false) (hx : oneB p x = true) : aloneL l p = ansC (some x) := by
  rw [alone_ans]
  obtain ⟨t, ht⟩ := hpre
  rw [← ht, List.append_assoc, List.find?_append]
  have : pre.find? (oneB p) = none := List.find?_eq_none.2 (fun c hc => by rw [hn c hc]; simp)
  rw [this]
  simp [hx]
set_option maxRecDepth 100000 in
set_option maxHeartbeats 4000000 in
theorem alone_good (l : List (List Lf)) (p : Bs) (v : Value) (w : World) (hv : RdRs w v l) (hz : chkR l = 0) : Calls Tryz.prog 18 #[v, .string ⟨p.toArray⟩] w (AloneR l p w) := by
  have HV := Lib.hid hv
  have HK := Lib.hid ((chkR_iff l).1 hz)
  have HAR : Hid (aloneR l p = aloneL l p) := Lib.hid (by unfold aloneR; rw [if_pos hz])
  have HZ := Lib.hid hz
  obtain ⟨a, c, rfl, _⟩ := hv
  obtain ⟨n, hn⟩ : ∃ n, n = l.length := ⟨_, rfl⟩
  rw [← hn] at HV ⊢
  clear hz hn
  obtain ⟨w1, hw1⟩ : ∃ z, z = ((w.alloc (.cells #[.string ⟨p.toArray⟩] 9)).alloc (.cells #[.int .i64 0] 3)).alloc (.cells #[.bool false] 4) := ⟨_, rfl⟩
  have hb1 : Below w.heap.size w w1 := by rw [hw1]; exact ((below_new w _).alloc (by simp) _).alloc (by simp; omega) _
  have HB1 := Lib.hid hb1
  have HC := Lib.hid (check_any l _ w1 (HV.out.on hb1))
  have X3 : Boxed w1 w.heap.size 9 (.string ⟨p.toArray⟩) := by
    rw [hw1]
    exact (((Boxed.new w 9 (.string ⟨p.toArray⟩)).alloc _).alloc _)
  have X4 : Boxed w1 (w.heap.size + 1) 3 (.int .i64 0) := by
    rw [hw1]
    have := Boxed.new (w.alloc (.cells #[.string ⟨p.toArray⟩] 9)) 3 (.int .i64 0)
    rw [World.size_alloc] at this
    exact this.alloc _
  have X5 : Boxed w1 (w.heap.size + 1 + 1) 4 (.bool false) := by
    rw [hw1]
    have := Boxed.new ((w.alloc (.cells #[.string ⟨p.toArray⟩] 9)).alloc (.cells #[.int .i64 0] 3)) 4 (.bool false)
    rw [World.size_alloc, World.size_alloc] at this
    exact this
  refine (callsIn_wide (n := 5)).1 ?_
  refine callsIn_of_wp_marks Tryz.func18 rfl trivial ?_ rfl
  simp only [Tryz.ntmps18, List.size_toArray, List.length_cons, List.length_nil, Nat.reduceAdd, Nat.reduceSub, Array.replicate_succ, Array.replicate_zero, List.push_toArray, List.append_toArray, List.nil_append, List.cons_append]
  gi_upto_region 1 with fail
  rw [← hw1]
  clear hw1
  gi_upto_region 3 with (refine ⟨trivial, ?_⟩; gi_at_call 36; refine (callsIn_wide.2 HC.out).mono ?_; rintro e w2 ⟨rfl, hb⟩; rw [HZ.out]; have HB2 := Lib.hid hb; clear hb)
  obtain ⟨b3, hb3⟩ : ∃ z, z = w.heap.size := ⟨_, rfl⟩
  obtain ⟨b4, hb4⟩ : ∃ z, z = w.heap.size + 1 := ⟨_, rfl⟩
  obtain ⟨b5, hb5⟩ : ∃ z, z = w.heap.size + 1 + 1 := ⟨_, rfl⟩
  rw [← hb5] at X5 ⊢
  rw [← hb4] at X4 ⊢
  rw [← hb3] at X3 ⊢
  have hlt5 := X5.lt
  have H345 : Hid (w.heap.size ≤ b3 ∧ w.heap.size ≤ b4 ∧ w.heap.size ≤ b5 ∧ b4 ≠ b5 ∧ b3 < w1.heap.size ∧ b4 < w1.heap.size ∧ b5 < w1.heap.size ∧ b3 ≠ b4 ∧ b3 ≠ b5) := Lib.hid (by omega)
  have Y3 := Lib.hid (boxed_on X3 HB2.out)
  have Y4 := Lib.hid (boxed_on X4 HB2.out)
  have Y5 := Lib.hid (boxed_on X5 HB2.out)
  have HB12 : Hid (Below w.heap.size w w2) := Lib.hid (bch HB1.out HB2.out)
  clear hb3 hb4 hb5 X3 X4 X5 hb1 hlt5
  obtain ⟨w3, hw3⟩ : ∃ z, z = w2.alloc (.cells #[.slice a n c] 29) := ⟨_, rfl⟩
  have hb3 : Below w2.heap.size w2 w3 := by rw [hw3]; exact below_new _ _
  have Q3 : Box w3 w2.heap.size 29 #[.slice a n c] := by rw [hw3]; exact box_new
  have HB3 : Hid (Below w.heap.size w w3) := Lib.hid (bch HB12.out hb3)
  have Z3 := Lib.hid (boxed_on Y3.out hb3)
  have Z4 := Lib.hid (boxed_on Y4.out hb3)
  have Z5 := Lib.hid (boxed_on Y5.out hb3)
  have HW3 := Lib.hid hw3
  have HS3 : Hid (w1.heap.size ≤ w3.heap.size) := Lib.hid (Nat.le_trans HB2.out.size hb3.size)
  have HIT := Lib.hid (claims_hands 4 (by omega) w2.heap.size l _ w3 HK.out Q3 (HV.out.on HB3.out))
  obtain ⟨bl, hbl⟩ : ∃ z, z = w2.heap.size := ⟨_, rfl⟩
  rw [← hbl] at HIT
  clear hw3 hb3 Q3
  gi_wp2_with (refine ⟨trivial, ?_⟩; gi_at_call 38; refine (callsIn_wide.2 (claimsfn_any a n c _)).mono ?_; rintro e w' ⟨rfl, rfl⟩; rw [← HW3.out])
  rw [← hbl]
  obtain ⟨fv, hfv⟩ : ∃ z, z = Value.func (.func 64) #[] #[.pointer (some ⟨bl, 0, none⟩)] := ⟨_, rfl⟩
  obtain ⟨lv, hlv⟩ : ∃ z, z = Value.slice a n c := ⟨_, rfl⟩
  refine range_handsS rfl (by omega) (gf := 64) (lb := #[.pointer (some ⟨bl, 0, none⟩)]) rfl trivial (enters_of Tryz.func64 (by kernel_rfl) rfl)
    w3.heap.size rfl HIT.out (fun _ _ _ _ h => by obtain ⟨_, _, _, rfl⟩ := h; rfl) (fun W s k h1 h2 => by rw [← h1]; exact h2.1) (fun W s X h => h.1)
    (aI (plsL l) w b3 b4 b5 w3.heap.size p) (aX l w b4 b5 p) ?hI ?hIx ?h0 ?hRI (aA w3.heap.size b3 b4 b5 p lv fv) ?hA ?assign ?body ?done ?stop
  case hI =>
    rintro z ys X Y row ⟨h1, h2, h3, h4, h5, h6⟩ hg hr
    have hbd := H345.out
    have hs3 := HS3.out
    have hb3 := HB3.out.size
    exact ⟨h1.grown hg (fun r e => by have := hr r e; omega), h2.grown hg h2.size (fun r e => by have := hr r e; omega), h3.kept hg (fun e => by have := hr _ e.symm; omega), h4.kept hg (fun e => by have := hr _ e.symm; omega), h5.kept hg (fun e => by have := hr _ e.symm; omega), h6⟩
  case hIx =>
    rintro z ys X Y row ⟨h2, h4, h5⟩ hg hr
    have hbd := H345.out
    have hs3 := HS3.out
    have hb3 := HB3.out.size
    exact ⟨h2.grown hg h2.size (fun r e => by have := hr r e; omega), h4.kept hg (fun e => by have := hr _ e.symm; omega), h5.kept hg (fun e => by have := hr _ e.symm; omega)⟩
  case h0 =>
    intro W z X hb hs hG
    have hb3 := HB3.out.size
    have := hG.owns (B := w.heap.size) (by omega)
    rw [hs] at this
    exact ⟨this, bch HB3.out (hb.trans (hG.1.mono (by omega))), boxed_on (boxed_on Z3.out hb) hG.1, boxed_on (boxed_on Z4.out hb) hG.1, boxed_on (boxed_on Z5.out hb) hG.1, fun c hc => by cases hc⟩
  case hRI =>
    rintro W z ys X k _ ⟨h1, _⟩ hk
    have := hk.2
    have := h1.le
    omega
  case hA =>
    rintro x args a' X Y row ⟨g, av, cv, h1, h2, h3, h4⟩ hg hr
    exact ⟨g, av, cv, h1, h2, box_grown h3 hg (fun e => by have := hr g e.symm; omega), h4⟩
  case assign =>
    rintro W lp z x args X K hX ⟨av, cv, h1, rfl⟩ hK
    have HKK := Lib.hid hK
    clear hK h1
    gi_wp2
    refine HKK.out _ _ (below_new _ _) ⟨X.heap.size, av, cv, rfl, ?_, box_new, hX⟩
    rw [hfv, hlv, ← hbl]
  case body =>
    rintro W lp z pre x args a' X hWs hpre ⟨a9, c9, hV, rfl⟩ hsX ⟨h1, h2, h3, h4, h5, h6⟩ ⟨g, av, cv, e1, rfl, hbx, hgD⟩
    have e2 : a9 = av ∧ c9 = cv := by
      simp only [Array.mk.injEq, List.cons.injEq, Value.agg.injEq, Value.slice.injEq, and_true, true_and] at e1
      exact e1
    obtain ⟨rfl, rfl⟩ := e2
    have HI0 : Hid (aI (plsL l) w b3 b4 b5 w3.heap.size p z pre X) := Lib.hid ⟨h1, h2, h3, h4, h5, h6⟩
    obtain ⟨nx, hnx⟩ : ∃ z, z = x.own.length := ⟨_, rfl⟩
    have hxc := clsL_at (hpre.subset (by simp : x ∈ pre ++ [x]))
    have hxo : x.own = ownS (plsL l) x.p := congrArg Cl.own hxc
    have hrow := h1.row x.p
    rw [hV, ← hxo, ← hnx] at hrow
    rw [← hnx] at hbx ⊢
    have y3 := h3.cell
    have x0 : X.cell? ⟨g, 0, none⟩ = some (.string ⟨x.p.toArray⟩) := hbx.cell (k := 0) rfl
    have x2 : X.cell? ⟨g, 2, none⟩ = some (.slice a9 nx c9) := hbx.cell (k := 2) rfl
    by_cases hx : oneB p x = true
    · have hx2 : x.p = p ∧ nx = 1 := by
        unfold oneB at hx
        rw [← hnx] at hx
        simpa using hx
      have hfind := find_here hpre h6 hx
      obtain ⟨hxp, hn1⟩ := hx2
      obtain ⟨o0, ho0⟩ : ∃ o0, x.own = [o0] := List.length_eq_one_iff.1 (by rw [← hnx]; exact hn1)
      have hans : aloneL l p = ((o0 : Int), true) := by rw [hfind]; simp [ansC, ho0]
      rw [hn1, ho0] at hrow
      rw [hn1] at x2 ⊢
      rcases own_addr hrow with ⟨_, h0, _⟩ | ⟨g9, rfl, hg91, hg92⟩
      · cases h0
      have q0 : X.cell? ⟨g9, 0, none⟩ = some (.int .i64 (o0 : Int)) := by
        have := hrow.cells (g := g9) rfl 0 (i64 o0) rfl
        rw [addr_add] at this
        exact this
      have t1 : (x.p == p) = true := by simp [hxp]
      have c4 := h4.cell
      have f4 := h4.frozen
      have hbd := H345.out
      have c5 := (h5.other (Ne.symm hbd.2.2.2.1) (.int .i64 (o0 : Int))).cell
      have f5 := (h5.other (Ne.symm hbd.2.2.2.1) (.int .i64 (o0 : Int))).frozen
      have HFIN : Hid (LeftS (RC W z) w3.heap.size (aI (plsL l) w b3 b4 b5 w3.heap.size p) (aX l w b4 b5 p) z (pre ++ [x]) X .ret { tmps := #[], defers := [] } ((X.setCell ⟨b4, 0, none⟩ (.int .i64 (o0 : Int))).setCell ⟨b5, 0, none⟩ (.bool true))) := Lib.hid (by
        have hs3 := HS3.out
        refine ⟨fun k hk => ?_, (h2.setCell (p := ⟨b4, 0, none⟩) hbd.2.1 _).setCell (p := ⟨b5, 0, none⟩) hbd.2.2.1 _, ?_, ?_⟩
        · rw [Below.heap_setCell _ _ _ _ (show k ≠ b5 by omega), Below.heap_setCell _ _ _ _ (show k ≠ b4 by omega)]
        · rw [hans]
          exact (h4.set _).other hbd.2.2.2.1 _
        · rw [hans]
          exact (h5.other (Ne.symm hbd.2.2.2.1) _).set _)
      clear h1 h2 h3 h4 h5 h6 hpre hsX hbx e1 hV hgD hWs hnx hxc hxo hrow hx hfind hans hxp hn1 ho0 hbd
      gi_wp2
      exact HFIN.out
    · have HFIN : Hid (LeftS (RC W z) w3.heap.size (aI (plsL l) w b3 b4 b5 w3.heap.size p) (aX l w b4 b5 p) z (pre ++ [x]) X .normal { tmps := #[], defers := [] } X) := Lib.hid (by
        refine ⟨Fix.refl _ _, Fix.refl _ _, Nat.le_refl _, h1, h2, h3, h4, h5, fun c hc => ?_⟩
        rcases List.mem_append.1 hc with k | k
        · exact h6 c k
        · simp at k
          rw [k]
          simpa using hx)
      by_cases hxp : x.p = p
      · have hn1 : nx ≠ 1 := by
          intro e
          apply hx
          unfold oneB
          rw [← hnx]
          simp [hxp, e]
        have t1 : (x.p == p) = true := by simp [hxp]
        have t2 : ((nx : Int) == 1) = false := by simpa using (by omega : ¬ (nx : Int) = 1)
        clear h1 h2 h3 h4 h5 h6 hpre hsX hbx e1 hV hgD hWs hnx hxc hxo hrow hx hxp hn1
        gi_wp2
        exact HFIN.out
      · have t1 : (x.p == p) = false := by simp [hxp]
        clear h1 h2 h3 h4 h5 h6 hpre hsX hbx e1 hV hgD hWs hnx hxc hxo hrow hx hxp
        gi_wp2
        exact HFIN.out
  case done =>
    rintro z X ⟨h1, h2, h3, h4, h5, h6⟩ hsX hd
    have hans : aloneL l p = (0, false) := by
      rw [alone_ans, List.find?_eq_none.2 (fun c hc => by rw [h6 c hc]; simp)]
      rfl
    have c4 := h4.cell
    have f4 := h4.frozen
    have hbd := H345.out
    have hs3 := HS3.out
    have c5 := (h5.other (Ne.symm hbd.2.2.2.1) (.int .i64 0)).cell
    have f5 := (h5.other (Ne.symm hbd.2.2.2.1) (.int .i64 0)).frozen
    have HD : Hid (((X.setCell ⟨b4, 0, none⟩ (.int .i64 0)).setCell ⟨b5, 0, none⟩ (.bool false)).heap[w3.heap.size]? = some (.deferred (some []))) := Lib.hid (by
      rw [Below.heap_setCell _ _ _ _ (show w3.heap.size ≠ b5 by omega), Below.heap_setCell _ _ _ _ (show w3.heap.size ≠ b4 by omega)]
      exact hd)
    have K4 := Lib.hid (((h4.set (.int .i64 0)).other hbd.2.2.2.1 (.bool false)).kept (grownBy_putObj' _ w3.heap.size (.deferred none)) (by simp; omega))
    have K5 := Lib.hid (((h5.other (Ne.symm hbd.2.2.2.1) (.int .i64 0)).set (.bool false)).kept (grownBy_putObj' _ w3.heap.size (.deferred none)) (by simp; omega))
    have HBZ : Hid (Below w.heap.size w (((X.setCell ⟨b4, 0, none⟩ (.int .i64 0)).setCell ⟨b5, 0, none⟩ (.bool false)).putObj w3.heap.size (.deferred none))) := Lib.hid (put_below' ((h2.setCell (p := ⟨b4, 0, none⟩) hbd.2.1 _).setCell (p := ⟨b5, 0, none⟩) hbd.2.2.1 _) (by omega))
    have HAN := Lib.hid hans
    clear h1 h2 h3 h4 h5 h6 hsX hd hans hbd hs3
    gi_wp2
    refine ⟨by simp, .inl ⟨_, _, rfl, run_takeDeferred HD.out, ?_⟩⟩
    exact ⟨_, results_cc rfl _ rfl rfl (load_int K4.out) (load_bool K5.out), by rw [HAR.out, HAN.out], HBZ.out⟩
  case stop =>
    rintro z pre X ⟨h2, h4, h5⟩ hsX hd
    have hbd := H345.out
    have hs3 := HS3.out
    have HD := Lib.hid hd
    have K4 := Lib.hid (h4.kept (grownBy_putObj' X w3.heap.size (.deferred none)) (by simp; omega))
    have K5 := Lib.hid (h5.kept (grownBy_putObj' X w3.heap.size (.deferred none)) (by simp; omega))
    have HBZ : Hid (Below w.heap.size w (X.putObj w3.heap.size (.deferred none))) := Lib.hid (put_below' h2 (by omega))
    clear h2 h4 h5 hd hbd hs3
    gi_wp2
    refine ⟨by simp, .inl ⟨_, _, rfl, run_takeDeferred HD.out, ?_⟩⟩
    exact ⟨_, results_cc rfl _ rfl rfl (load_int K4.out) (load_bool K5.out), by rw [HAR.out], HBZ.out⟩
theorem alone_any (l : List (List Lf)) (p : Bs) (v : Value) (w : World) (hv : RdRs w v l) : Calls Tryz.prog 18 #[v, .string ⟨p.toArray⟩] w (AloneR l p w) := by
  by_cases h : chkR l = 0
  · exact alone_good l p v w hv h
  · exact alone_bad l p v w hv h
end Go.Proofs.YtgmplpfbhcdofaaGreat
