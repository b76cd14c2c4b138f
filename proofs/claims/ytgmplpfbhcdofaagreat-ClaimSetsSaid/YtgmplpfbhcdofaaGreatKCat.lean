/- Proved here: slices.Grow of nil, slices.Concat. -/
import Derived.Test.YtgmplpfbhcdofaaGreatOSort
import Derived.Laws.AppendOwnNone
import Derived.Shelf.Spec.SlicesGrow
namespace Go.Proofs.YtgmplpfbhcdofaaGreat
open Go.RowKit Go.Shelf

/-- A slice of slices reads as these rows. -/
def RdR (w : World) (v : Value) (rows : List (List Value)) : Prop :=
  ∃ vs : List Value, Rd w v vs ∧ vs.length = rows.length ∧ ∀ (i : Nat) (x : Value) (r : List Value), vs[i]? = some x → rows[i]? = some r → Rd w x r
theorem RdR.on {w w' : World} {v : Value} {rows : List (List Value)} (h : RdR w v rows) (hb : Below w.heap.size w w') : RdR w' v rows := by
  obtain ⟨vs, h1, h2, h3⟩ := h
  exact ⟨vs, h1.on hb, h2, fun i x r hx hr => (h3 i x r hx hr).on hb⟩

/-- 'append(v, x...)', v in memory of the call's own. -/
theorem wpList_append_rd {w : World} {ops : Array Oper} {rest : List Oper} {o : Oper} {a : Act} {Q : Exit → Act → World → Prop} (hgd : o.guard = none) (s x : Operand) (t e : TypeId) (z : Value) (bytes : Nat)
    (ho : o.op = .call { callee := .builtin .append, args := #[s, x], argTypes := #[t, t] }) (ht : Tryz.prog.underlying t = some (.slice e)) (hi : (Tryz.prog.info? e).map (fun i => (i.zero, i.size, i.bytes)) = some (some z, 1, bytes)) (hz : z.cells.size = 1)
    (base : Nat) (v vx : Value) (l m : List Value) (hs : a.eval s = v) (hown : w.ownsRow base e 1 v l.length l) (hx : a.eval x = vx) (hsrc : Rd w vx m) (h1 : ∀ y ∈ m, y.oneCell' = true)
    (hb : base ≤ w.heap.size) (hl : (l.length + m.length) * bytes ≤ 140737488355328) (hb1 : 1 ≤ bytes)
    (h : ∀ v' w', w'.ownsRow base e 1 v' (l ++ m).length (l ++ m) → Below base w w' → wpList Tryz.prog ops Q rest (a.put o.dst v') w') : wpList Tryz.prog ops Q (o :: rest) a w := by
  obtain ⟨i0, hi, hz0, hz1, hz2⟩ := info_parts hi
  obtain ⟨ad, cap, rfl, hc1, hc2, hn, hc3⟩ := hsrc
  cases ad with
  | none =>
    obtain ⟨rfl, rfl⟩ := hn rfl
    refine wpList_append_own_none hgd s x t ho base e i0 1 ht hi v _ _ hs hown hx (h v w ?_ (Below.refl _ _))
    rw [List.append_nil]
    exact hown
  | some ad =>
    have hnews : ∀ (j : Nat) (y : Value), m[j]? = some y → w.cell? (ad.add j) = some y := fun j y hy => by
      have hlt := (List.getElem?_eq_some_iff.1 hy).1
      obtain ⟨g, o, e, _, hc⟩ := hc3 (by omega)
      cases e
      rw [addr_add]
      exact hc j y hy
    have hlm : l.length + m.length ≤ 140737488355328 := by
      have : (l.length + m.length) * 1 ≤ (l.length + m.length) * bytes := Nat.mul_le_mul_left _ hb1
      omega
    refine wpList_append_own _ hgd s x t ho base e i0 z 1 bytes ht hi hz0 hz1 hz2 hz (by decide) v _ _ hs hown ad m.length cap m hx (by omega) hnews h1 (by unfold maxLen; omega) hl hb ?_
    intro v' w' ho' hgr _
    refine h v' w' (by rw [List.length_append]; exact ho') ((Below.refl _ w).grown hgr hb (fun k hk => (hown.lt k hk).1))

theorem flat_take {rows : List (List Value)} {k : Nat} {r : List Value} (h : rows[k]? = some r) : (rows.take (k + 1)).flatten = (rows.take k).flatten ++ r := by
  rw [List.take_add_one, h, List.flatten_append]
  simp
theorem flat_le (rows : List (List Value)) (k : Nat) : (rows.take k).flatten.length ≤ rows.flatten.length := by
  conv => rhs; rw [← List.take_append_drop k rows, List.flatten_append, List.length_append]
  omega
theorem zero_cells (z : Value) (hz : z.cells.size = 1) (n : Nat) : (Builtin.zeroCells z.cells n).size = n := by simp [Builtin.zeroCells, hz]

def Tryz.grow48_ren : Go.Shelf.Ren := ⟨fun | 4 => 70 | n => n, fun | 0 => 0 | 3 => 3 | 4 => 4 | 9 => 9 | 20 => 20 | 22 => 22 | 25 => 3 | n => n, fun | n => n⟩
theorem Tryz.grow48_lays : Go.Proofs.Lays8.n4 Tryz.prog Tryz.grow48_ren := {
  mixed := by kernel_rfl
  f4 := ⟨"slices.Grow[[]int,int]", by decide, Tryz.func70.trans (congrArg some (by kernel_rfl))⟩
  t0 := Tryz.underlying0
  a0 := Tryz.isAgg0
  z0 := Tryz.sizeOf0
  v0 := Tryz.zeroValue0
  t3 := Tryz.underlying3
  a3 := Tryz.isAgg3
  z3 := Tryz.sizeOf3
  v3 := Tryz.zeroValue3
  t4 := Tryz.underlying4
  a4 := Tryz.isAgg4
  z4 := Tryz.sizeOf4
  v4 := Tryz.zeroValue4
  t9 := Tryz.underlying9
  a9 := Tryz.isAgg9
  z9 := Tryz.sizeOf9
  v9 := Tryz.zeroValue9
  t20 := Tryz.underlying20
  a20 := Tryz.isAgg20
  z20 := Tryz.sizeOf20
  v20 := Tryz.zeroValue20
  t22 := Tryz.underlying22
  a22 := Tryz.isAgg22
  z22 := Tryz.sizeOf22
  v22 := Tryz.zeroValue22 }
theorem infoC3 : (Tryz.prog.info? 3).map (fun i => (i.zero, i.size, i.bytes)) = some (some (.int .i64 0), 1, 8) := by kernel_rfl

theorem grow48_nil (n : Nat) (hn : n * 8 ≤ 140737488355328) (w : World) : Calls Tryz.prog 70 #[.slice none 0 0, .int .i64 (n : Int)] w fun e w' => ∃ v, e = .returned v ∧ w'.ownsRow w.heap.size 3 1 v 0 [] ∧ Below w.heap.size w w' := by
  obtain ⟨i0, hi, hz0, hz1, hz2⟩ := info_parts infoC3
  by_cases h0 : n = 0
  · subst h0
    refine (Any8.slices_Grow_room Tryz.grow48_lays none 0 0 0 w (Nat.le_refl _) (by omega) (by omega) (Nat.le_refl _)).mono ?_
    rintro e w' ⟨rfl, rfl⟩
    exact ⟨_, rfl, World.ownsRow_nil _ _ _ _, Below.refl _ _⟩
  · refine (Any8.slices_Grow_grow Tryz.grow48_lays i0 (.int .i64 0) hi hz0 (by omega) none 0 0 n [] w (Nat.le_refl _) (by omega) (by rw [hz2]; omega) (by omega) (by simp) (fun _ => rfl) (fun a h => by cases h)).mono ?_
    rintro e w' ⟨rfl, rfl⟩
    have g1 := grownCap_ge w (0 + n) 0 3
    have g2 := grownCap_le_maxLen w (0 + n) 0 3 (by unfold maxLen; omega)
    refine ⟨_, rfl, ⟨by simp, .inr ⟨_, _, _, rfl, Nat.le_refl _, heap_alloc_new w.drew _, by omega, g2, ?_, by simp⟩⟩, (Below.refl _ w).drew.alloc (Nat.le_refl _) _⟩
    show (#[] ++ Builtin.zeroCells (.int .i64 0 : Value).cells (0 + n - 0) ++ Builtin.zeroCells (.int .i64 0 : Value).cells (grownCap w (0 + n) 0 3 - (0 + n))).size = grownCap w (0 + n) 0 3 * 1
    rw [Array.size_append, Array.size_append, zero_cells _ rfl, zero_cells _ rfl]
    obtain ⟨G, hG⟩ : ∃ G, G = grownCap w (0 + n) 0 3 := ⟨_, rfl⟩
    rw [← hG] at g1 ⊢
    simp
    omega

def Cat31 (w : World) (rows : List (List Value)) (e : Ending) (w' : World) : Prop := ∃ v', e = .returned v' ∧ w'.ownsRow w.heap.size 3 1 v' rows.flatten.length rows.flatten ∧ Below w.heap.size w w'

set_option maxRecDepth 100000 in
set_option maxHeartbeats 2000000 in
theorem concat31_any (rows : List (List Value)) (v : Value) (w : World) (hv : RdR w v rows) (h1 : ∀ r ∈ rows, ∀ y ∈ r, y.oneCell' = true) (hl : rows.flatten.length * 8 ≤ 140737488355328) : Calls Tryz.prog 44 #[v] w (Cat31 w rows) := by
  obtain ⟨vs, ⟨a, cap, rfl, hlc, hcm, hnil, hcell⟩, hlen, hrow⟩ := hv
  unfold maxLen at hcm
  obtain ⟨n, hn⟩ : ∃ n, n = vs.length := ⟨_, rfl⟩
  rw [← hn] at hlc hcell hlen ⊢
  have HN := Lib.hid hn
  have HC := Lib.hid hcell
  have HR := Lib.hid hrow
  have HL := Lib.hid hlen
  have H1 := Lib.hid h1
  have HT := Lib.hid hl
  clear hn hcell hrow hlen h1 hl hnil
  go_enter Tryz.func44, Tryz.ntmps44
  go_wp2
  go_loop [3, 5, 11, 12, 13, 14, 15, 16, 17, 18, 19, 20, 22] (fun s _ i _ _ _ _ _ _ _ _ _ _ => ∃ k : Nat, k ≤ n ∧ i = .int .i64 k ∧ s = .int .i64 ((rows.take k).flatten.length : Nat)) (fun _ _ i _ _ _ _ _ _ _ _ _ _ => n - (Lib.intOf i).toNat)
  case atStart => exact ⟨0, Nat.zero_le _, rfl, rfl⟩
  case round =>
    obtain ⟨k, hk, rfl, rfl⟩ := hrel
    by_cases hlt : k < n
    · obtain ⟨x, hx⟩ : ∃ x, vs[k]? = some x := ⟨_, List.getElem?_eq_getElem (by have := HN.out; omega)⟩
      obtain ⟨r, hr⟩ : ∃ r, rows[k]? = some r := ⟨_, List.getElem?_eq_getElem (by have := HL.out; omega)⟩
      obtain ⟨g, o, rfl, hg, hc⟩ := HC.out (by omega)
      have c1 := hc k x hx
      obtain ⟨a2, cap2, rfl, hc21, hc22, _, _⟩ := HR.out k x r hx hr
      unfold maxLen at hc22
      obtain ⟨m, hm⟩ : ∃ m, m = r.length := ⟨_, rfl⟩
      rw [← hm] at c1 hc21
      obtain ⟨q, hq⟩ : ∃ q, q = (rows.take k).flatten.length := ⟨_, rfl⟩
      have hq2 : (rows.take (k + 1)).flatten.length = q + m := by rw [flat_take hr, List.length_append, hq, hm]
      have hb : q + m ≤ 140737488355328 := by
        have := flat_le rows (k + 1)
        have := HT.out
        omega
      rw [← hq]
      have HQ2 := Lib.hid hq2
      clear hx hr hc hq hq2 hm
      go_wp2
      all_goals first
        | (exfalso; omega)
        | (go_round
           case rel => exact ⟨k + 1, hlt, by go_num, by rw [HQ2.out]; go_num⟩
           case measure => simp [Lib.intOf]; omega)
    · have hkn : ¬ ((k : Int) < (n : Int)) := by omega
      have hq : (rows.take k).flatten = rows.flatten := by rw [List.take_of_length_le (by have := HL.out; omega)]
      rw [hq]
      obtain ⟨q, hq2⟩ : ∃ q, q = rows.flatten.length := ⟨_, rfl⟩
      rw [← hq2]
      have HQ := Lib.hid hq2
      have hb : q ≤ 140737488355328 := by have := HT.out; omega
      clear hq hq2
      go_wp2_with fail
      refine (grow48_nil q (by have := HT.out; have := HQ.out; omega) _).mono ?_
      rintro e w1 ⟨v1, rfl, hown, hb1⟩
      have HO := Lib.hid hown
      clear hown
      go_wp2_with fail
      go_loopw [6, 8, 27, 28, 29, 30, 31, 32, 33, 34] (fun v2 _ i _ _ _ _ _ _ _ wr => ∃ j : Nat, j ≤ n ∧ i = .int .i64 j ∧ Hid (wr.ownsRow w.heap.size 3 1 v2 (rows.take j).flatten.length (rows.take j).flatten) ∧ Below w.heap.size w wr) (fun _ _ i _ _ _ _ _ _ _ _ => n - (Lib.intOf i).toNat)
      case atStart => exact ⟨0, Nat.zero_le _, rfl, HO, hb1⟩
      case round =>
        obtain ⟨j, hj, rfl, HW, hB⟩ := hrel
        by_cases hlt2 : j < n
        · obtain ⟨x, hx⟩ : ∃ x, vs[j]? = some x := ⟨_, List.getElem?_eq_getElem (by have := HN.out; omega)⟩
          obtain ⟨r, hr⟩ : ∃ r, rows[j]? = some r := ⟨_, List.getElem?_eq_getElem (by have := HL.out; omega)⟩
          obtain ⟨g, o, rfl, hg, hc⟩ := HC.out (by omega)
          have c1 := (hB.cell (p := ⟨g, _, none⟩) hg).trans (hc j x hx)
          have HS := Lib.hid ((HR.out j x r hx hr).on hB)
          have HF := Lib.hid (flat_take hr)
          have HM := Lib.hid (H1.out r (List.mem_of_getElem? hr))
          have HZ := Lib.hid (flat_le rows (j + 1))
          clear hx hr hc
          go_wp2_with (at_builtin; refine wpList_append_rd rfl (.tmp 31) (.tmp 32) 22 3 (.int .i64 0) 8 rfl Tryz.underlying22 infoC3 rfl w.heap.size _ x (rows.take j).flatten r rfl HW.out rfl HS.out HM.out hB.size (by have := HZ.out; rw [HF.out, List.length_append] at this; have := HT.out; omega) (by decide) ?_; intro v' w2 hown' hb2; have HO' := Lib.hid hown'; clear hown')
          go_roundw
          case rel => exact ⟨j + 1, hlt2, by go_num, by rw [HF.out]; exact HO', hB.trans hb2⟩
          case measure => simp [Lib.intOf]; omega
        · have hjn : ¬ ((j : Int) < (n : Int)) := by omega
          have HE : Hid (rows.take j = rows) := Lib.hid (List.take_of_length_le (by have := HL.out; omega))
          go_wp2_with fail
          go_ret
          exact ⟨_, rfl, by have := HW.out; rw [HE.out] at this; exact this, hB⟩
end Go.Proofs.YtgmplpfbhcdofaaGreat
