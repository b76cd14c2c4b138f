/- Proved here: slices.Clone and slices.Equal at rows of versions. -/
import Derived.Test.YtjekibhaabkecaaDoorTells
import Derived.Lib.SliceRun
namespace Go.Proofs.YtjekibhaabkecaaDoor
open Go.RowKit Go.Shelf

def flatV (l : List Ver) : List Value := l.flatMap Ver.cells
theorem flatV_cons (v : Ver) (l : List Ver) : flatV (v :: l) = v.cells ++ flatV l := rfl
theorem flatV_append (a b : List Ver) : flatV (a ++ b) = flatV a ++ flatV b := List.flatMap_append
theorem cells_len (v : Ver) : v.cells.length = 7 := rfl
theorem flatV_len (l : List Ver) : (flatV l).length = l.length * 7 := by
  induction l with
  | nil => rfl
  | cons v l ih => rw [flatV_cons, List.length_append, ih, List.length_cons, cells_len]; omega
theorem flat7 (l : List Ver) (j r : Nat) (hr : r < 7) : (flatV l)[j * 7 + r]? = (l[j]?).bind fun v => v.cells[r]? := by
  induction l generalizing j with
  | nil => simp [flatV]
  | cons v l ih =>
    cases j with
    | zero =>
      rw [flatV_cons, Nat.zero_mul, Nat.zero_add, List.getElem?_append_left (by rw [cells_len]; exact hr)]
      rfl
    | succ j =>
      rw [flatV_cons, List.getElem?_append_right (by rw [cells_len]; omega), cells_len, show (j + 1) * 7 + r - 7 = j * 7 + r by omega, ih]
      rfl
theorem ver_one (v : Ver) : ∀ u ∈ v.cells, u.oneCell' = true := by
  intro u hu
  simp [Ver.cells] at hu
  rcases hu with rfl | rfl | rfl | rfl | rfl | rfl | rfl <;> rfl
theorem flatV_one (l : List Ver) : ∀ u ∈ flatV l, u.oneCell' = true := by
  intro u hu
  obtain ⟨v, _, hv⟩ := List.mem_flatMap.1 hu
  exact ver_one v u hv
theorem add_to (g o j : Nat) : (⟨g, o, none⟩ : Addr).add j = ⟨g, o + j, none⟩ := by
  unfold Addr.add
  split <;> simp_all

theorem RdV.flat {w : World} {x : Value} {l : List Ver} (h : RdV w x l) : ∃ (a : Option Addr) (cap : Nat), x = .slice a l.length cap ∧ l.length ≤ cap ∧ cap ≤ maxLen ∧ (0 < l.length → ∃ g o, a = some ⟨g, o, none⟩ ∧ g < w.heap.size ∧ ∀ (j : Nat) (u : Value), (flatV l)[j]? = some u → w.cell? ⟨g, o + j, none⟩ = some u) := by
  obtain ⟨a, cap, h1, h2, h3, h4⟩ := h
  refine ⟨a, cap, h1, h2, h3, fun h0 => ?_⟩
  obtain ⟨g, o, e, hg, hc⟩ := h4 h0
  refine ⟨g, o, e, hg, fun j u hu => ?_⟩
  obtain ⟨q, r, hr, rfl⟩ : ∃ q r, r < 7 ∧ j = q * 7 + r := ⟨j / 7, j % 7, by omega, by omega⟩
  rw [flat7 l q r hr] at hu
  obtain ⟨v, hv, hu⟩ := Option.bind_eq_some_iff.1 hu
  obtain ⟨c0, c1, c2, c3, c4, c5, c6⟩ := hc q v hv
  rw [← Nat.add_assoc]
  rcases (by omega : r = 0 ∨ r = 1 ∨ r = 2 ∨ r = 3 ∨ r = 4 ∨ r = 5 ∨ r = 6) with rfl | rfl | rfl | rfl | rfl | rfl | rfl
  · simp [Ver.cells] at hu; rw [← hu]; exact c0
  · simp [Ver.cells] at hu; rw [← hu]; exact c1
  · simp [Ver.cells] at hu; rw [← hu]; exact c2
  · simp [Ver.cells] at hu; rw [← hu]; exact c3
  · simp [Ver.cells] at hu; rw [← hu]; exact c4
  · simp [Ver.cells] at hu; rw [← hu]; exact c5
  · simp [Ver.cells] at hu; rw [← hu]; exact c6
theorem RdV.of_flat {w : World} {l : List Ver} {a : Option Addr} {cap : Nat} (h2 : l.length ≤ cap) (h3 : cap ≤ maxLen) (h4 : 0 < l.length → ∃ g o, a = some ⟨g, o, none⟩ ∧ g < w.heap.size ∧ ∀ (j : Nat) (u : Value), (flatV l)[j]? = some u → w.cell? ⟨g, o + j, none⟩ = some u) : RdV w (.slice a l.length cap) l := by
  refine ⟨a, cap, rfl, h2, h3, fun h0 => ?_⟩
  obtain ⟨g, o, e, hg, hc⟩ := h4 h0
  refine ⟨g, o, e, hg, fun j v hv => ?_⟩
  have key : ∀ r u, r < 7 → v.cells[r]? = some u → w.cell? ⟨g, o + j * 7 + r, none⟩ = some u := fun r u hr hu => by
    have := flat7 l j r hr
    rw [hv] at this
    rw [Nat.add_assoc]
    exact hc (j * 7 + r) u (this.trans hu)
  exact ⟨key 0 _ (by omega) rfl, key 1 _ (by omega) rfl, key 2 _ (by omega) rfl, key 3 _ (by omega) rfl, key 4 _ (by omega) rfl, key 5 _ (by omega) rfl, key 6 _ (by omega) rfl⟩
theorem RdV.of_own {w : World} {B : Nat} {x : Value} {l : List Ver} (h : w.ownsRow B 26 7 x l.length (flatV l)) : RdV w x l := by
  have hx := h
  rcases h.2 with ⟨rfl, h0⟩ | ⟨g, cap, cur, rfl, _, hg, h2, h3, _⟩
  · have : l = [] := List.eq_nil_of_length_eq_zero h0
    subst this
    exact RdV.nil w
  · exact RdV.of_flat h2 h3 fun _ => ⟨g, 0, rfl, (hx.lt g rfl).2, fun j u hu => by
      have := hx.cells (g := g) rfl j u hu
      rw [add_to] at this
      exact this⟩
theorem RdV.on {w w' : World} {x : Value} {l : List Ver} (h : RdV w x l) (hb : Below w.heap.size w w') : RdV w' x l := by
  obtain ⟨a, cap, h1, h2, h3, h4⟩ := h.flat
  subst h1
  refine RdV.of_flat h2 h3 fun h0 => ?_
  obtain ⟨g, o, e, hg, hc⟩ := h4 h0
  exact ⟨g, o, e, Nat.lt_of_lt_of_le hg hb.size, fun j u hu => (hb.cell (p := ⟨g, _, none⟩) hg).trans (hc j u hu)⟩

theorem info26z : (Tryd.prog.info? 26).map (fun i => (i.zero, i.size, i.bytes)) = some (some (.agg Ver.zero.arr), 7, 64) := by kernel_rfl

set_option maxRecDepth 100000 in
set_option maxHeartbeats 2000000 in
theorem clone_any (l : List Ver) (x : Value) (w : World) (hx : RdV w x l) (hl : l.length ≤ 1000000) :
    Calls Tryd.prog 17 #[x] w fun e w' => ∃ x', e = .returned x' ∧ w'.ownsRow w.heap.size 26 7 x' l.length (flatV l) ∧ Below w.heap.size w w' := by
  obtain ⟨a, cap, rfl, hlc, hcm, hcell⟩ := hx.flat
  obtain ⟨i0, hi, hz0, hz1, hz2⟩ := info_parts info26z
  have q33 : ∀ (w : World) (a : Option Addr) (n c n' c' : Nat), (binOp .eql 33 (.slice a n c) (.slice none n' c')).run Tryd.prog w = .ok (.bool a.isNone) w := fun w a n c n' c' => Lib.run_eql_slice_nil w _ _ a n c n' c' Tryd.underlying33
  cases a with
  | none =>
    have h0 : l.length = 0 := by
      rcases Nat.eq_zero_or_pos l.length with h | h
      · exact h
      · obtain ⟨g, o, e, _⟩ := hcell h; cases e
    have : l = [] := List.eq_nil_of_length_eq_zero h0
    subst this
    clear hcell hx
    go_enter Tryd.func17, Tryd.ntmps17
    go_wp2
    go_ret
    exact ⟨_, rfl, World.ownsRow_nil _ _ _ _, Below.refl _ _⟩
  | some ad =>
    have hnews : ∀ (j : Nat) (u : Value), (flatV l)[j]? = some u → (w.alloc (.cells #[] 26)).cell? (ad.add j) = some u := fun j u hu => by
      have h0 : 0 < l.length := by
        have := (List.getElem?_eq_some_iff.1 hu).1
        rw [flatV_len] at this
        omega
      obtain ⟨g, o, e, hg, hc⟩ := hcell h0
      cases e
      rw [add_to]
      exact Lib.cell?_alloc_some _ (hc j u hu)
    obtain ⟨n, hn⟩ : ∃ n, n = l.length := ⟨_, rfl⟩
    have hfl := flatV_len l
    rw [← hn] at hfl hl hlc
    rw [← hn]
    have HFL := Lib.hid hfl
    have HNW := Lib.hid hnews
    clear hcell hx hn hfl hnews
    go_enter Tryd.func17, Tryd.ntmps17
    go_wp2_with (at_builtin; refine wpList_append_own _ rfl _ _ 33 rfl w.heap.size 26 i0 (.agg Ver.zero.arr) 7 64 Tryd.underlying33 hi hz0 hz1 hz2 rfl (by decide) _ _ _ rfl (World.ownsRow_made w #[] 0 (Nat.le_refl _) (Nat.zero_le _) rfl) ad n cap (flatV l) rfl HFL.out HNW.out (flatV_one l) (by unfold maxLen; omega) (by omega) (by simp) ?_)
    intro v' w1 hown hgrow _
    go_wp2
    go_ret
    refine ⟨v', rfl, by simpa using hown, ?_⟩
    exact ((Below.refl _ w).alloc (Nat.le_refl _) _).grown hgrow (by simp) (by intro k hk; simp [Value.ownBlock] at hk; omega)

def EqR (w : World) (e : Ending) (w' : World) : Prop := e = .returned (.bool true) ∧ Below w.heap.size w w'
theorem guard26 : Tryd.prog.eqGuardType Tryd.prog.depth 26 = false := by kernel_rfl

set_option maxRecDepth 100000 in
set_option maxHeartbeats 4000000 in
theorem equal_any (l : List Ver) (v1 v2 : Value) (w : World) (h1 : RdV w v1 l) (h2 : RdV w v2 l) : Calls Tryd.prog 24 #[v1, v2] w (EqR w) := by
  obtain ⟨a1, cap1, rfl, hlc1, hcm1, hc1⟩ := h1
  obtain ⟨a2, cap2, rfl, hlc2, hcm2, hc2⟩ := h2
  unfold maxLen at hcm1 hcm2
  obtain ⟨n, hn⟩ : ∃ n, n = l.length := ⟨_, rfl⟩
  rw [← hn] at hlc1 hlc2 hc1 hc2
  rw [← hn]
  have HN := Lib.hid hn
  have H1 := Lib.hid hc1
  have H2 := Lib.hid hc2
  clear hn hc1 hc2
  have t0 : ((n : Int) == (n : Int)) = true := by simp
  go_enter Tryd.func24, Tryd.ntmps24
  go_wp2
  go_loopw [5, 13, 14, 15, 16, 17, 18, 19, 20, 21, 22, 23, 24, 25] (fun _ i _ _ _ _ _ _ _ _ _ _ _ _ wr => ∃ k : Nat, k ≤ n ∧ i = .int .i64 k ∧ Below w.heap.size w wr) (fun _ i _ _ _ _ _ _ _ _ _ _ _ _ _ => n - (Lib.intOf i).toNat)
  case atStart => exact ⟨0, Nat.zero_le _, rfl, Below.refl _ _⟩
  case round =>
    obtain ⟨k, hk, rfl, hB⟩ := hrel
    by_cases hlt : k < n
    · obtain ⟨p, hp⟩ : ∃ p, l[k]? = some p := ⟨_, List.getElem?_eq_getElem (by have := HN.out; omega)⟩
      obtain ⟨g1, o1, rfl, hg1, hc1⟩ := H1.out (by omega)
      obtain ⟨g2, o2, rfl, hg2, hc2⟩ := H2.out (by omega)
      obtain ⟨q0, q1, q2, q3, q4, q5, q6⟩ := hc1 k p hp
      obtain ⟨s0, s1, s2, s3, s4, s5, s6⟩ := hc2 k p hp
      have r0 := (hB.cell (p := ⟨g1, _, none⟩) hg1).trans q0
      have r1 := (hB.cell (p := ⟨g1, _, none⟩) hg1).trans q1
      have r2 := (hB.cell (p := ⟨g1, _, none⟩) hg1).trans q2
      have r3 := (hB.cell (p := ⟨g1, _, none⟩) hg1).trans q3
      have r4 := (hB.cell (p := ⟨g1, _, none⟩) hg1).trans q4
      have r5 := (hB.cell (p := ⟨g1, _, none⟩) hg1).trans q5
      have r6 := (hB.cell (p := ⟨g1, _, none⟩) hg1).trans q6
      have x0 := (hB.cell (p := ⟨g2, _, none⟩) hg2).trans s0
      have x1 := (hB.cell (p := ⟨g2, _, none⟩) hg2).trans s1
      have x2 := (hB.cell (p := ⟨g2, _, none⟩) hg2).trans s2
      have x3 := (hB.cell (p := ⟨g2, _, none⟩) hg2).trans s3
      have x4 := (hB.cell (p := ⟨g2, _, none⟩) hg2).trans s4
      have x5 := (hB.cell (p := ⟨g2, _, none⟩) hg2).trans s5
      have x6 := (hB.cell (p := ⟨g2, _, none⟩) hg2).trans s6
      have hne : ∀ W, (binOp .neq 26 (.agg #[.int .i64 p.n0, .int .i64 p.n1, .int .i64 p.n2, .int .i64 p.n3, .int .i64 p.many, .string p.tag, .int .i64 p.step]) (.agg #[.int .i64 p.n0, .int .i64 p.n1, .int .i64 p.n2, .int .i64 p.n3, .int .i64 p.many, .string p.tag, .int .i64 p.step])).run Tryd.prog W = .ok (.bool false) W := fun W => by
        have e := eq26 p p W
        rw [decide_eq_true rfl] at e
        rw [run_neq_struct]
        have e' : (Op.equalIn 10000 26 (.agg #[.int .i64 p.n0, .int .i64 p.n1, .int .i64 p.n2, .int .i64 p.n3, .int .i64 p.many, .string p.tag, .int .i64 p.step]) (.agg #[.int .i64 p.n0, .int .i64 p.n1, .int .i64 p.n2, .int .i64 p.n3, .int .i64 p.many, .string p.tag, .int .i64 p.step])).run Tryd.prog W = .ok true W := e
        rw [e']
        rfl
      have hgd := guard26
      clear q0 q1 q2 q3 q4 q5 q6 s0 s1 s2 s3 s4 s5 s6 hc1 hc2 hp
      go_wp2
      go_region
      go_wp2
      go_roundw
      case rel => exact ⟨k + 1, hlt, by go_num, hB.drew⟩
      case measure => simp [Lib.intOf]; omega
    · go_wp2
      go_ret
      exact ⟨rfl, hB⟩
end Go.Proofs.YtjekibhaabkecaaDoor
