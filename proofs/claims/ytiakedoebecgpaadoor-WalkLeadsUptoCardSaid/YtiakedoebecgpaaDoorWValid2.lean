/- Proved here: valid and Check of package tree, check of package walk, wherever the roots stand. -/
import Derived.Test.YtiakedoebecgpaaDoorWValid
import Derived.StillTailTactics
namespace Go.Proofs.YtiakedoebecgpaaDoor
open Go.RowKit Go.Shelf

/-- What the package-level variables hold. -/
structure Tabs (w : World) : Prop where
  r0 : w.cell? ⟨0, 0, none⟩ = some (.string ⟨#[47]⟩)
  r1 : w.cell? ⟨0, 1, none⟩ = some (.int .i64 1)
  r2 : w.cell? ⟨0, 2, none⟩ = some (.string ⟨#[]⟩)
  s0 : w.cell? ⟨2, 0, none⟩ = some (.string ⟨#[47]⟩)
  s1 : w.cell? ⟨2, 1, none⟩ = some (.int .i64 1)
  s2 : w.cell? ⟨2, 2, none⟩ = some (.string ⟨#[]⟩)
  max : ∃ m, w.cell? ⟨3, 0, none⟩ = some (.int .i64 m)
  one : 6 ≤ w.heap.size
theorem Tabs.on {w w' : World} (h : Tabs w) (hb : Below w.heap.size w w') : Tabs w' :=
  have k : ∀ g o u, g < 6 → w.cell? ⟨g, o, none⟩ = some u → w'.cell? ⟨g, o, none⟩ = some u := fun _ _ _ hg hu => (hb.cell (p := ⟨_, _, none⟩) (Nat.lt_of_lt_of_le hg h.one)).trans hu
  ⟨k _ _ _ (by omega) h.r0, k _ _ _ (by omega) h.r1, k _ _ _ (by omega) h.r2, k _ _ _ (by omega) h.s0, k _ _ _ (by omega) h.s1, k _ _ _ (by omega) h.s2, h.max.imp fun _ q => k _ _ _ (by omega) q, Nat.le_trans h.one hb.size⟩

theorem bl_cb (a b : Str) : (Op.bytesLess a b || a == b) = decide (Lib.compareBytes a b ≤ 0) := by
  induction a generalizing b with
  | nil => cases b <;> rfl
  | cons x xs ih =>
    cases b with
    | nil => rfl
    | cons y ys =>
      have h := ih ys
      rw [cb_cons]
      simp only [Op.bytesLess]
      by_cases h1 : x < y
      · simp [h1]
      · by_cases h2 : y < x
        · have hne : x ≠ y := fun e => by subst e; exact h1 h2
          simp [h1, h2, hne]
        · have hxy : x = y := by
            rcases byte_tri x y with k | k | k
            · exact absurd k h1
            · exact k
            · exact absurd k h2
          subst hxy
          simp [h1] at h ⊢
          exact h

theorem owns_l1 (w : World) (B : Nat) (hB : B ≤ w.heap.size) : OwnL (w.alloc (.cells #[.string ⟨#[47]⟩, .string ⟨#[47]⟩] 109)) B (.slice (some ⟨w.heap.size, 0, none⟩) 1 1) [([47], [47])] := by
  have := World.ownsRow_lit (e := 109) (size := 2) w #[.string ⟨#[47]⟩, .string ⟨#[47]⟩] 1 hB (by unfold maxLen; omega) rfl
  exact this
/-- The last path of the topmost level is another one. -/
theorem OwnL.store {w : World} {B g c : Nat} {d l : Str} {r : List Lv} (h : OwnL w B (.slice (some ⟨g, 0, none⟩) (r.length + 1) c) ((d, l) :: r)) (x : Str) :
    OwnL (w.setCell ⟨g, r.length * 2 + 1, none⟩ (.string ⟨x.toArray⟩)) B (.slice (some ⟨g, 0, none⟩) (r.length + 1) c) ((d, x) :: r) := by
  obtain ⟨h1, h2⟩ := h
  rcases h2 with ⟨_, h3⟩ | ⟨g', cap, cur, hv, hg, hh, hn, hcap, hcs, htake⟩
  · cases h3
  · injection hv with e1 e2 e3
    injection e1 with e1
    injection e1 with e1
    subst e1 e3
    refine ⟨by rw [flatL_len, List.length_reverse], .inr ⟨g, c, cur.setIfInBounds (r.length * 2 + 1) (.string ⟨x.toArray⟩), rfl, hg, heap_setCell_same w g _ cur 109 _ hh, hn, hcap, by rw [Array.size_setIfInBounds]; exact hcs, ?_⟩⟩
    rw [Array.toList_setIfInBounds, List.take_set]
    rw [List.length_cons] at htake ⊢
    rw [htake]
    simp only [List.reverse_cons, flatL_append]
    rw [List.set_append_right _ _ (by rw [flatL_len, List.length_reverse]; omega), flatL_len, List.length_reverse, Nat.add_sub_cancel_left]
    rfl
theorem OwnL.far {w : World} {B : Nat} {v : Value} {st : List Lv} (h : OwnL w B v st) {w' : World} (hw : Below w.heap.size w w') : OwnL w' B v st := by
  refine h.kept (row := none) ⟨hw.os, hw.tape, hw.output, hw.size, fun k hk _ => hw.block k hk⟩ ?_
  cases e : v.ownBlock <;> simp
theorem OwnL.on {w w' : World} {B : Nat} {v : Value} {st : List Lv} (h : OwnL w B v st) (hw : Below w.heap.size w w') : OwnL w' B v st := h.far hw
theorem info109z : (Tryd.prog.info? 109).map (fun i => (i.zero, i.size, i.bytes)) = some (some (.agg #[.string ⟨#[]⟩, .string ⟨#[]⟩]), 2, 32) := by kernel_rfl

theorem up_is (x : Str) (hx : x.length ≤ 140737488355328) (u : Str) (hu : upL x = u) (w : World) : Calls Tryd.prog 62 #[.string ⟨x.toArray⟩] w fun e w' => e = .returned (.string ⟨u.toArray⟩) ∧ Below w.heap.size w w' := by
  rw [← hu]; exact up_any ⟨x.toArray⟩ hx w
theorem vdata_is (x : It) (b : Bool) (hb : x.dataB = b) (w : World) : Calls Tryd.prog 65 #[.agg x.arr] w fun e w' => e = .returned (.bool b) ∧ Below w.heap.size w w' := by
  rw [← hb]; exact vdata_any x w
theorem leave_is (st : List Lv) (a : Option Addr) (n c m : Nat) (d : Str) (B : Nat) (w : World) (h : OwnL w B (.slice a n c) st) (hn : n = st.length) (hm : (leaveL st d).length = m) : Calls Tryd.prog 64 #[.slice a n c, .string ⟨d.toArray⟩] w fun e w' => e = .returned (.slice a m c) ∧ w = w' := by
  subst hn hm; exact leave_any st a c d B w h

theorem runV_len (l : List It) (st : List Lv) (h : runV l = some st) : st.length ≤ l.length + 1 := by
  induction l using snoc_ind generalizing st with
  | nil => cases h; simp
  | snoc l x ih =>
    rw [runV_snoc] at h
    cases e : runV l with
    | none => rw [e] at h; cases h
    | some s =>
      rw [e] at h
      have h1 := ih s e
      obtain ⟨d, lb, r, e1, _, _, _, e5⟩ := stepV_some h
      have h2 : ((d, lb) :: r).length ≤ s.length := by
        rw [← e1]; exact (List.dropWhile_sublist _).length_le
      rw [List.length_append, e5]
      simp only [List.length_cons, List.length_nil] at h2 ⊢
      split <;> simp <;> omega
theorem OwnL.ne {w : World} {B g b n c : Nat} {st : List Lv} {cs : Array Value} (h : OwnL w B (.slice (some ⟨g, 0, none⟩) n c) st) (hx : Box w b 35 cs) : b ≠ g := by
  intro e
  subst e
  rcases h.2 with ⟨h2, _⟩ | ⟨g', cap, cur, hv, _, hh, _⟩
  · cases h2
  · injection hv with e1 e2 e3
    injection e1 with e1
    injection e1 with e1
    subst e1
    rw [show w.heap[b]? = _ from hx] at hh
    injection hh with hh
    injection hh with _ hh
    cases hh
theorem owns_l2 {w : World} {B : Nat} {v : Value} {st : List Lv} {p : Str} (h : w.ownsRow B 109 2 v (st.length + 1) (flatL st.reverse ++ [.string ⟨p.toArray⟩, .string ⟨p.toArray⟩])) : OwnL w B v ((p, p) :: st) := by
  unfold OwnL
  rw [List.length_cons, List.reverse_cons, flatL_append]
  exact h
theorem two_new (W : World) (x y : Value) : ∀ (j : Nat) (u : Value), [x, y][j]? = some u → (W.alloc (.cells #[x, y] 109)).cell? ((⟨W.heap.size, 0, none⟩ : Addr).add j) = some u := by
  intro j u hu
  rw [add_to, Nat.zero_add]
  exact (box_new (w := W) (t := 109) (cs := #[x, y])).cell (by rw [← hu]; simp)
theorem step_yes {st r : List Lv} {x : It} {d l : Str} {u : Str} (hu : upL x.path = u) (hl : leaveL st u = (d, l) :: r) (h1 : ¬ Lib.compareBytes x.path l ≤ 0) (h2 : x.dataB = true) :
    stepV st x = some (if x.kind = 1 then (x.path, x.path) :: (d, x.path) :: r else (d, x.path) :: r) := by
  unfold stepV
  rw [hu, hl]
  simp only
  rw [if_neg (fun k => k.elim h1 (fun q => by rw [h2] at q; cases q))]

set_option maxRecDepth 100000 in
set_option maxHeartbeats 8000000 in
theorem tvalid_any (l : List It) (v : Value) (w : World) (hv : RdI w v l) (hsz : ∀ x ∈ l, x.path.length ≤ 140737488355328) (hT : Tabs w) : Calls Tryd.prog 34 #[v] w fun e w' => e = .returned (.bool (validT l)) ∧ Below w.heap.size w w' := by
  obtain ⟨a, c, rfl, hlc, hcm, hcell⟩ := hv.open
  have HC := Lib.hid hcell
  have HZ := Lib.hid hsz
  have HT := Lib.hid hT
  obtain ⟨n, hn⟩ : ∃ n, n = l.length := ⟨_, rfl⟩
  rw [← hn] at hlc HC ⊢
  have HN := Lib.hid hn
  unfold maxLen at hcm
  obtain ⟨r0, -, -, -, -, -, -, -⟩ := hT
  clear hn hcell hv hsz
  by_cases h2 : 2000 < n
  · have d2 : decide ((n : Int) > 2000) = true := decide_eq_true (by omega)
    have HF : Hid (validT l = false) := Lib.hid (by unfold validT; rw [decide_eq_false (by have := HN.out; omega)]; rfl)
    go_enter Tryd.func34, Tryd.ntmps34
    go_wp2_with fail
    go_ret
    exact ⟨retb HF.out.symm, Below.refl _ _⟩
  · have d2 : decide ((n : Int) > 2000) = false := decide_eq_false (by omega)
    have X0 : Hid (OwnL (w.alloc (.cells #[.string ⟨#[47]⟩, .string ⟨#[47]⟩] 109)) w.heap.size (.slice (some ⟨w.heap.size, 0, none⟩) 1 1) [([47], [47])]) := Lib.hid (owns_l1 w _ (Nat.le_refl _))
    have B0 : Hid (Below w.heap.size w (w.alloc (.cells #[.string ⟨#[47]⟩, .string ⟨#[47]⟩] 109))) := Lib.hid (below_new _ _)
    go_enter Tryd.func34, Tryd.ntmps34
    go_wp2_with fail
    go_loopw [3, 5, 6, 18, 19, 20, 21, 22, 23, 24, 25, 26, 27, 28, 29, 30, 31, 32, 33, 34, 35, 36, 37, 38, 39, 40, 41, 42, 43, 44, 45, 46, 47, 48, 49, 50, 51, 52, 53, 54, 55, 56, 57, 58, 59, 60, 61, 62, 63, 64] (fun o _ _ i _ _ _ _ _ _ _ _ _ _ _ _ _ _ _ _ _ _ _ _ _ _ _ _ _ _ _ _ _ _ _ _ _ _ _ _ _ _ _ _ _ _ _ _ _ _ W => ∃ (k : Nat) (st : List Lv), k ≤ n ∧ i = .int .i64 k ∧ Hid (runV (l.take k) = some st) ∧ Hid (OwnL W w.heap.size o st) ∧ Hid (Below w.heap.size w W)) (fun _ _ _ i _ _ _ _ _ _ _ _ _ _ _ _ _ _ _ _ _ _ _ _ _ _ _ _ _ _ _ _ _ _ _ _ _ _ _ _ _ _ _ _ _ _ _ _ _ _ _ => n - (Lib.intOf i).toNat)
    case atStart => exact ⟨0, _, Nat.zero_le _, rfl, Lib.hid rfl, X0, B0⟩
    case round =>
      clear X0 B0 r0
      obtain ⟨k, st, hk, rfl, HR, HO, HB⟩ := hrel
      obtain ⟨wq, hwq⟩ : ∃ q, q = wr := ⟨_, rfl⟩
      rw [← hwq] at HB HO ⊢
      clear hwq
      obtain ⟨a3, c3, hv3, hc3, hc3m⟩ := HO.out.nil_form
      subst hv3
      obtain ⟨m, hm⟩ : ∃ m, m = st.length := ⟨_, rfl⟩
      rw [← hm] at HO hc3 ⊢
      have HM := Lib.hid hm
      unfold maxLen at hc3m
      clear hm
      by_cases hlt : k < n
      · obtain ⟨x, hx⟩ : ∃ x, l[k]? = some x := ⟨_, List.getElem?_eq_getElem (by have := HN.out; omega)⟩
        obtain ⟨g, o, rfl, hg, hc⟩ := HC.out (by omega)
        obtain ⟨q0, q1, q2⟩ := (hc k x hx).on hg HB.out
        have HX := Lib.hid hx
        have k1 : (k : Int) < (n : Int) := by omega
        have k2 : (0 : Int) ≤ (k : Int) := by omega
        have k4 : IntKind.i64.wrap ((k : Int) + 1) = (k : Int) + 1 := IntWalk.i64_in _ (by omega)
        have hxz := HZ.out x (List.mem_of_getElem? hx)
        have X1 : Box (wq.alloc (.cells #[.string ⟨x.path.toArray⟩, .int .i64 x.kind, .string ⟨x.data.toArray⟩] 35)) wq.heap.size 35 x.arr := box_new
        have HO1 : Hid (OwnL (wq.alloc (.cells #[.string ⟨x.path.toArray⟩, .int .i64 x.kind, .string ⟨x.data.toArray⟩] 35)) w.heap.size (.slice a3 m c3) st) := Lib.hid (HO.out.on (below_new _ _))
        have HB1 : Hid (Below w.heap.size w (wq.alloc (.cells #[.string ⟨x.path.toArray⟩, .int .i64 x.kind, .string ⟨x.data.toArray⟩] 35))) := Lib.hid (bch HB.out (below_new _ _))
        obtain ⟨c0, c1, c2⟩ := X1.it
        have HX1 := Lib.hid X1
        clear hx hc X1
        obtain ⟨u, hu⟩ : ∃ u, upL x.path = u := ⟨_, rfl⟩
        have HU := Lib.hid hu
        have HRD : Hid (stepV st x = none → validT l = false) := Lib.hid (fun hs => by
          have h1 : runV (l.take (k + 1)) = none := by
            rw [List.take_add_one, HX.out, Option.toList_some, runV_snoc, HR.out]; exact hs
          unfold validT
          rw [runV_dead _ _ h1 (List.take_prefix _ _)]
          simp)
        clear hu
        go_upto_region 7 with fail
        obtain ⟨w1, hw1⟩ : ∃ q, q = wq.alloc (.cells #[.string ⟨x.path.toArray⟩, .int .i64 x.kind, .string ⟨x.data.toArray⟩] 35) := ⟨_, rfl⟩
        obtain ⟨b5, hb5⟩ : ∃ q, q = wq.heap.size := ⟨_, rfl⟩
        rw [← hw1, ← hb5] at HX1 c0 c1 c2 ⊢
        rw [← hw1] at HO1 HB1
        clear hw1 hb5 q0 q1 q2 HO HB
        go_wp2_with fail
        refine (up_is x.path hxz u HU.out _).mono ?_
        rintro e w2 ⟨rfl, hb2⟩
        have HO2 := Lib.hid (HO1.out.on hb2)
        have HX2 := Lib.hid (HX1.out.on hb2)
        have HB2 := Lib.hid (bch HB1.out hb2)
        obtain ⟨d0, d1, d2⟩ := HX2.out.it
        clear c0 c1 c2 hb2 HO1 HX1 HB1
        cases hst : leaveL st u with
        | nil =>
          have HL := Lib.hid hst
          have HF : Hid (validT l = false) := Lib.hid (HRD.out (by unfold stepV; rw [HU.out, HL.out]))
          clear hst
          go_wp2_with fail
          refine (leave_is st a3 m c3 0 u _ _ HO2.out HM.out (by rw [HL.out]; rfl)).mono ?_
          rintro e w' ⟨rfl, rfl⟩
          go_wp2_with fail
          go_quiet (fail)
          go_wp2_with fail
          go_ret
          exact ⟨retb HF.out.symm, below_drewN' HB2.out _⟩
        | cons e r =>
          obtain ⟨d', lb⟩ := e
          obtain ⟨j, hj⟩ : ∃ j, j = r.length := ⟨_, rfl⟩
          have HL := Lib.hid hst
          have HJ := Lib.hid hj
          have HO3 : Hid (OwnL w2 w.heap.size (.slice a3 (j + 1) c3) ((d', lb) :: r)) := Lib.hid (by
            obtain ⟨s1, hs1⟩ : ∃ s1, st = s1 ++ ((d', lb) :: r) := by
              obtain ⟨s1, hs1⟩ := List.dropWhile_suffix (l := st) (fun e : Lv => e.1 != u)
              refine ⟨s1, ?_⟩
              rw [← hst]; exact hs1.symm
            have h1 := HO2.out
            rw [HM.out, hs1] at h1
            have h2 := h1.pop
            rw [List.length_cons, ← hj] at h2
            exact h2)
          obtain ⟨g3, c3', hv3, hg3b, hg3, hjc, -, e0, e1, e1f⟩ := HO3.out.form
          rw [← hj] at hv3 hjc e0 e1 e1f
          injection hv3 with i1 _ i3
          subst i1 i3
          have j0 : IntKind.i64.wrap ((j : Int) + 1 - 1) = (j : Int) := by rw [show (j : Int) + 1 - 1 = (j : Int) by omega]; exact IntWalk.i64_in _ (by omega)
          have j1 : decide ((j : Int) < 0) = false := decide_eq_false (by omega)
          have j2 : (0 : Int) ≤ (j : Int) := by omega
          have j3 : (j : Int) < (j : Int) + 1 := by omega
          clear hst hj
          go_wp2_with fail
          refine (leave_is st _ m c3 (j + 1) u _ _ HO2.out HM.out (by rw [HL.out, HJ.out]; rfl)).mono ?_
          rintro e w' ⟨rfl, rfl⟩
          go_upto_region 9 with fail
          by_cases hle : Lib.compareBytes x.path lb ≤ 0
          · have HF : Hid (validT l = false) := Lib.hid (HRD.out (by unfold stepV; rw [HU.out, HL.out]; simp only; rw [if_pos (.inl hle)]))
            have t1 : (Op.bytesLess x.path lb || x.path == lb) = true := by rw [bl_cb]; exact decide_eq_true hle
            clear hle
            go_quiet (fail)
            go_wp2_with fail
            go_ret
            exact ⟨retb HF.out.symm, below_drewN' HB2.out _⟩
          · have t1 : (Op.bytesLess x.path lb || x.path == lb) = false := by rw [bl_cb]; exact decide_eq_false hle
            have HLE := Lib.hid hle
            clear hle
            cases hd : x.dataB with
            | false =>
              have HD := Lib.hid hd
              have HF : Hid (validT l = false) := Lib.hid (HRD.out (by unfold stepV; rw [HU.out, HL.out]; simp only; rw [if_pos (.inr HD.out)]))
              clear hd
              go_still_tail 14, (by kernel_rfl)
              go_wp2_with fail
              refine (vdata_is x false HD.out _).mono ?_
              rintro e w4 ⟨rfl, hb4⟩
              go_wp2_with fail
              go_ret
              exact ⟨retb HF.out.symm, bch (below_drewN' HB2.out _) hb4⟩
            | true =>
              have HD := Lib.hid hd
              clear hd
              go_still_tail 14, (by kernel_rfl)
              go_wp2_with fail
              refine (vdata_is x true HD.out _).mono ?_
              rintro e w4 ⟨rfl, hb4⟩
              have HO4 : Hid (OwnL w4 w.heap.size (.slice (some ⟨g3, 0, none⟩) (j + 1) c3) ((d', lb) :: r)) := Lib.hid (OwnL.on (w := World.drewN w2 _) HO3.out hb4)
              have HX4 : Hid (Box w4 b5 35 x.arr) := Lib.hid (Box.on (w := World.drewN w2 _) HX2.out hb4)
              have HB4 := Lib.hid (bch (below_drewN' HB2.out _) hb4)
              have hlen := runV_len _ _ HR.out
              have hjm : j + 1 ≤ m := by
                have h1 : ((d', lb) :: r).length ≤ st.length := by rw [← HL.out]; exact (List.dropWhile_sublist _).length_le
                rw [List.length_cons, ← HJ.out, ← HM.out] at h1
                exact h1
              have hjb : j ≤ 2001 := by
                rw [← HM.out, List.length_take] at hlen
                omega
              have HSTEP := Lib.hid (step_yes HU.out HL.out (by have := HLE.out; omega) HD.out)
              have HRN : Hid (runV (l.take (k + 1)) = some (if x.kind = 1 then (x.path, x.path) :: (d', x.path) :: r else (d', x.path) :: r)) := Lib.hid (by
                rw [List.take_add_one, HX.out, Option.toList_some, runV_snoc, HR.out]; exact HSTEP.out)
              have hne := HO4.out.ne HX4.out
              obtain ⟨g4, c4, hv4, -, hg4, -, -, -, f1, f1f⟩ := HO4.out.form
              injection hv4 with i1 i2 i3
              clear i2 i3
              injection i1 with i1
              injection i1 with i1 i2 i3
              clear i2 i3
              subst i1
              rw [← HJ.out] at f1 f1f
              obtain ⟨x0, x1, x2⟩ := HX4.out.it
              obtain ⟨w5, hw5⟩ : ∃ q, q = w4.setCell ⟨g3, j * 2 + 1, none⟩ (.string ⟨x.path.toArray⟩) := ⟨_, rfl⟩
              have HO5 : Hid (OwnL w5 w.heap.size (.slice (some ⟨g3, 0, none⟩) (j + 1) c3) ((d', x.path) :: r)) := Lib.hid (by
                have := HO4.out
                rw [HJ.out] at this
                rw [hw5, HJ.out]
                exact this.store x.path)
              have HX5 : Hid (Box w5 b5 35 x.arr) := Lib.hid (by rw [hw5]; exact HX4.out.far hne _)
              have HB5 : Hid (Below w.heap.size w w5) := Lib.hid (by rw [hw5]; exact HB4.out.setCell (p := ⟨g3, j * 2 + 1, none⟩) hg3b _)
              clear hlen hjm hne d0 d1 d2 e0 e1 e1f hb4 HO2 HO3 HX2 HB2 t1
              go_upto_region 12 with fail
              rw [← hw5]
              clear hw5 f1 f1f x0 x1 x2 HO4 HX4 HB4
              obtain ⟨x0, x1, x2⟩ := HX5.out.it
              by_cases hk1 : x.kind = 1
              · have t1 : (x.kind == 1) = true := by simp [hk1]
                have HRY : Hid (runV (l.take (k + 1)) = some ((x.path, x.path) :: (d', x.path) :: r)) := Lib.hid (by rw [HRN.out, if_pos hk1])
                obtain ⟨i0, hi, hz0, hz1, hz2⟩ := info_parts info109z
                have hws : w.heap.size ≤ w5.heap.size := HB5.out.size
                have HOF : Hid (w5.ownsRow w.heap.size 109 2 (.slice (some ⟨g3, 0, none⟩) (j + 1) c3) (j + 1) (flatL ((d', x.path) :: r).reverse)) := Lib.hid (by
                  have := HO5.out
                  unfold OwnL at this
                  rw [List.length_cons, ← HJ.out] at this
                  exact this)
                have HNW := Lib.hid (two_new w5 (.string ⟨x.path.toArray⟩) (.string ⟨x.path.toArray⟩))
                clear hk1
                go_wp2_with (at_builtin; refine wpList_append_own _ rfl _ _ 110 rfl w.heap.size 109 i0 (.agg #[.string ⟨#[]⟩, .string ⟨#[]⟩]) 2 32 Tryd.underlying110 hi hz0 hz1 hz2 rfl (by decide) _ _ _ rfl (HOF.out.alloc _) ⟨w5.heap.size, 0, none⟩ 1 1 [.string ⟨x.path.toArray⟩, .string ⟨x.path.toArray⟩] rfl rfl HNW.out (by simp [Value.oneCell']) (by unfold maxLen; omega) (by omega) (by simp; omega) ?_)
                intro v6 w6 hown6 hgrow6 _
                have HO6 : Hid (OwnL w6 w.heap.size v6 ((x.path, x.path) :: (d', x.path) :: r)) := Lib.hid (owns_l2 (st := (d', x.path) :: r) (by rw [List.length_cons, ← HJ.out, List.reverse_cons]; exact hown6))
                have HB6 : Hid (Below w.heap.size w w6) := Lib.hid ((HB5.out.alloc hws _).grown hgrow6 (by simp; omega) (by intro q hq; simp [Value.ownBlock] at hq; omega))
                clear hown6 hgrow6
                go_wp2_with fail
                go_roundw
                case rel => exact ⟨k + 1, _, hlt, by go_num, HRY, HO6, HB6⟩
                case measure => simp [Lib.intOf]; omega
              · have t1 : (x.kind == 1) = false := by simp [hk1]
                have HRY : Hid (runV (l.take (k + 1)) = some ((d', x.path) :: r)) := Lib.hid (by rw [HRN.out, if_neg hk1])
                clear hk1
                go_wp2_with fail
                go_roundw
                case rel => exact ⟨k + 1, _, hlt, by go_num, HRY, HO5, HB5⟩
                case measure => simp [Lib.intOf]; omega
      · have k1 : ¬ ((k : Int) < (n : Int)) := by omega
        have HF : Hid (validT l = true) := Lib.hid (by
          have h1 := HR.out
          rw [List.take_of_length_le (by have := HN.out; omega)] at h1
          unfold validT
          rw [h1, decide_eq_true (by have := HN.out; omega)]; rfl)
        go_wp2_with fail
        go_ret
        exact ⟨retb HF.out.symm, HB.out⟩
theorem tvalid_is (l : List It) (b : Bool) (hb : b = validT l) (v : Value) (w : World) (hv : RdI w v l) (hsz : ∀ x ∈ l, x.path.length ≤ 140737488355328) (hT : Tabs w) : Calls Tryd.prog 34 #[v] w fun e w' => e = .returned (.bool b) ∧ Below w.heap.size w w' := by
  rw [hb]; exact tvalid_any l v w hv hsz hT
def errT (b : Bool) : Int := if b = true then 0 else 160

set_option maxRecDepth 100000 in
set_option maxHeartbeats 1000000 in
theorem tcheck_any (l : List It) (v : Value) (w : World) (hv : RdI w v l) (hsz : ∀ x ∈ l, x.path.length ≤ 140737488355328) (hT : Tabs w) : Calls Tryd.prog 14 #[.agg #[v]] w fun e w' => e = .returned (.int .i64 (errT (validT l))) ∧ Below w.heap.size w w' := by
  obtain ⟨b, hb⟩ : ∃ b, b = validT l := ⟨_, rfl⟩
  rw [← hb]
  have X : Box (w.alloc (.cells #[v] 24)) w.heap.size 24 #[v] := box_new
  have HB := Lib.hid (below_new w (.cells #[v] 24))
  have HA := Lib.hid (tvalid_is l b hb v _ (hv.on HB.out) hsz (hT.on HB.out))
  have c0 := X.cell (k := 0) rfl
  obtain ⟨a, c, rfl, _⟩ := hv.open
  clear hv hsz hT hb X
  cases b
  all_goals
    go_enter Tryd.func14, Tryd.ntmps14
    go_wp2_with fail
    refine HA.out.mono ?_
    rintro e w1 ⟨rfl, hb⟩
    go_wp2_with fail
    go_ret
    exact ⟨rfl, bch HB.out hb⟩
theorem tcheck_is (l : List It) (b : Bool) (hb : b = validT l) (v : Value) (w : World) (hv : RdI w v l) (hsz : ∀ x ∈ l, x.path.length ≤ 140737488355328) (hT : Tabs w) : Calls Tryd.prog 14 #[.agg #[v]] w fun e w' => e = .returned (.int .i64 (errT b)) ∧ Below w.heap.size w w' := by
  rw [hb]; exact tcheck_any l v w hv hsz hT
/-- The first of the errors that stand ahead of all else. -/
def errC (b : Bool) (n : Nat) : Int := if b = true then (if 2000 < n then 3 else 0) else 160

set_option maxRecDepth 100000 in
set_option maxHeartbeats 1000000 in
theorem wcheck_any (l : List It) (b : Bool) (hb : b = validT l) (v : Value) (s : ByteArray) (w : World) (hv : RdI w v l) (hsz : ∀ x ∈ l, x.path.length ≤ 140737488355328) (hT : Tabs w) : Calls Tryd.prog 52 #[.agg #[v], .string s] w fun e w' => e = .returned (.int .i64 (errC b s.size)) ∧ Below w.heap.size w w' := by
  have X : Box (w.alloc (.cells #[v] 24)) w.heap.size 24 #[v] := box_new
  have HB := Lib.hid (below_new w (.cells #[v] 24))
  have HA := Lib.hid (tcheck_is l b hb v _ (hv.on HB.out) hsz (hT.on HB.out))
  have c0 := X.cell (k := 0) rfl
  obtain ⟨a, c, rfl, _⟩ := hv.open
  clear hv hsz hT hb X
  cases b
  · go_enter Tryd.func52, Tryd.ntmps52
    go_wp2_with fail
    refine HA.out.mono ?_
    rintro e w1 ⟨rfl, hb⟩
    go_wp2_with fail
    go_ret
    exact ⟨rfl, bch HB.out hb⟩
  · by_cases h : 2000 < s.size
    · have d1 : decide ((s.size : Int) > 2000) = true := decide_eq_true (by omega)
      have HF : Hid (errC true s.size = 3) := Lib.hid (by unfold errC; rw [if_pos rfl, if_pos h])
      go_enter Tryd.func52, Tryd.ntmps52
      go_wp2_with fail
      refine HA.out.mono ?_
      rintro e w1 ⟨rfl, hb⟩
      go_wp2_with fail
      go_ret
      exact ⟨by rw [HF.out]; rfl, bch HB.out hb⟩
    · have d1 : decide ((s.size : Int) > 2000) = false := decide_eq_false (by omega)
      have HF : Hid (errC true s.size = 0) := Lib.hid (by unfold errC; rw [if_pos rfl, if_neg h])
      go_enter Tryd.func52, Tryd.ntmps52
      go_wp2_with fail
      refine HA.out.mono ?_
      rintro e w1 ⟨rfl, hb⟩
      go_wp2_with fail
      go_ret
      exact ⟨by rw [HF.out]; rfl, bch HB.out hb⟩
end Go.Proofs.YtiakedoebecgpaaDoor
