/- Proved here: ShaSums of puncheonlaw03 returns true, whatever rows of bytes it is called with. -/
import Derived.Test.YtkenbppoldfecaaDoorRefX
import Derived.Test.YtkenbppoldfecaaDoorBack
import Derived.Test.YtkenbppoldfecaaDoorFew
import Derived.Deep.DeepCutAuto
import Derived.Deep.CutBlock
import Derived.Maps.AppendAt
namespace Go.Proofs.YtkenbppoldfecaaDoor
open Go.RowKit Go.Shelf Go.Joins

set_option maxRecDepth 100000 in
set_option maxHeartbeats 2000000 in
theorem requal_any (l : Bytes) (v1 v2 : Value) (w : World) (h1 : Rd w v1 (bytesV l)) (h2 : Rd w v2 (bytesV l)) : Calls Tryd.prog 14 #[v1, v2] w fun e w' => e = .returned (.bool true) ∧ Below w.heap.size w w' := by
  obtain ⟨a1, cap1, rfl, hlc1, hcm1, _, hc1⟩ := h1
  obtain ⟨a2, cap2, rfl, hlc2, hcm2, _, hc2⟩ := h2
  unfold maxLen at hcm1 hcm2
  rw [bytesV_len] at hlc1 hlc2 hc1 hc2 ⊢
  obtain ⟨n, hn⟩ : ∃ n, n = l.length := ⟨_, rfl⟩
  rw [← hn] at hlc1 hlc2 hc1 hc2
  rw [← hn]
  have HN := Lib.hid hn
  have H1 := Lib.hid hc1
  have H2 := Lib.hid hc2
  clear hn hc1 hc2
  have t0 : ((n : Int) == (n : Int)) = true := by simp
  go_enter Tryd.func14, Tryd.ntmps14
  go_wp2
  go_loopw [5, 13, 14, 15, 16, 17, 18, 19, 20, 21, 22, 23, 24, 25] (fun _ i _ _ _ _ _ _ _ _ _ _ _ _ wr => ∃ k : Nat, k ≤ n ∧ i = .int .i64 k ∧ Below w.heap.size w wr) (fun _ i _ _ _ _ _ _ _ _ _ _ _ _ _ => n - (Lib.intOf i).toNat)
  case atStart => exact ⟨0, Nat.zero_le _, rfl, Below.refl _ _⟩
  case round =>
    obtain ⟨k, hk, rfl, hB⟩ := hrel
    by_cases hlt : k < n
    · obtain ⟨g1, o1, rfl, hg1, hc1⟩ := H1.out (by omega)
      obtain ⟨g2, o2, rfl, hg2, hc2⟩ := H2.out (by omega)
      have r1 := (hB.cell (p := ⟨g1, _, none⟩) hg1).trans (hc1 k _ (rd_get (by have := HN.out; omega)))
      have r2 := (hB.cell (p := ⟨g2, _, none⟩) hg2).trans (hc2 k _ (rd_get (by have := HN.out; omega)))
      obtain ⟨c, hc⟩ : ∃ c, c = l.getD k 0 := ⟨_, rfl⟩
      rw [← hc] at r1 r2
      clear hc hc1 hc2
      go_wp2
      go_region
      go_wp2
      go_roundw
      case rel => exact ⟨k + 1, hlt, by go_num, hB.drew⟩
      case measure => simp [Lib.intOf]; omega
    · go_wp2
      go_ret
      exact ⟨rfl, hB⟩


/-- append of a row of bytes to a row of the call's own: which block it has then. -/
theorem wpList_append_at {w : World} {ops : Array Oper} {rest : List Oper} {o : Oper} {a : Act} {Q : Exit → Act → World → Prop} (hgd : o.guard = none) (s x : Operand) (t e : TypeId) (z : Value) (bytes : Nat)
    (ho : o.op = .call { callee := .builtin .append, args := #[s, x], argTypes := #[t, t] }) (ht : Tryd.prog.underlying t = some (.slice e)) (hi : (Tryd.prog.info? e).map (fun i => (i.zero, i.size, i.bytes)) = some (some z, 1, bytes)) (hz : z.cells.size = 1)
    (base : Nat) (v vx : Value) (l m : List Value) (hs : a.eval s = v) (hown : w.ownsRow base e 1 v l.length l) (hx : a.eval x = vx) (hsrc : Rd w vx m) (h1 : ∀ y ∈ m, y.oneCell' = true)
    (hb : base ≤ w.heap.size) (hl : (l.length + m.length) * bytes ≤ 140737488355328) (hb1 : 1 ≤ bytes)
    (h : ∀ v' w', w'.ownsRow base e 1 v' (l ++ m).length (l ++ m) → w.grownBy w' v.ownBlock → (v'.ownBlock = v.ownBlock ∨ v'.ownBlock = some w.heap.size) → wpList Tryd.prog ops Q rest (a.put o.dst v') w') : wpList Tryd.prog ops Q (o :: rest) a w := by
  obtain ⟨i0, hi, hz0, hz1, hz2⟩ := info_parts hi
  obtain ⟨ad, cap, rfl, hc1, hc2, hn, hc3⟩ := hsrc
  cases ad with
  | none =>
    obtain ⟨rfl, rfl⟩ := hn rfl
    refine wpList_append_own_none hgd s x t ho base e i0 1 ht hi v _ _ hs hown hx (h v w ?_ ⟨rfl, rfl, rfl, Nat.le_refl _, fun _ _ _ => rfl⟩ (.inl rfl))
    rw [List.append_nil]
    exact hown
  | some ad =>
    have hnews : ∀ (j : Nat) (y : Value), m[j]? = some y → w.cell? (ad.add j) = some y := fun j y hy => by
      have hlt := (List.getElem?_eq_some_iff.1 hy).1
      obtain ⟨g, o, e, _, hc⟩ := hc3 (by omega)
      cases e
      rw [addr_add]
      exact hc j y hy
    have hlm : l.length + m.length ≤ 140737488355328 := by
      have : (l.length + m.length) * 1 ≤ (l.length + m.length) * bytes := Nat.mul_le_mul_left _ hb1
      omega
    refine wpList_append_own_at w hgd s x t ho base e i0 z 1 bytes ht hi hz0 hz1 hz2 hz (by decide) v _ _ hs hown ad m.length cap m hx (by omega) hnews h1 (by unfold maxLen; omega) hl hb ?_
    intro v' w' ho' hgr _ hat
    exact h v' w' (by rw [List.length_append]; exact ho') hgr hat

/-- Two blocks of cells of other types are two. -/
theorem own_apart {w : World} {B B' s s' n n' : Nat} {e e' : TypeId} {v v' : Value} {xs xs' : List Value} (h : w.ownsRow B e s v n xs) (h' : w.ownsRow B' e' s' v' n' xs') (he : e ≠ e') : v.ownBlock = none ∨ v.ownBlock ≠ v'.ownBlock := by
  rcases h.2 with ⟨rfl, _⟩ | ⟨g, c, cs, rfl, _, hg, _⟩
  · exact .inl rfl
  · refine .inr fun e => ?_
    rcases h'.2 with ⟨rfl, _⟩ | ⟨g', c', cs', rfl, _, hg', _⟩
    · cases e
    · simp only [Value.ownBlock, Option.some.injEq] at e
      subst e
      rw [hg] at hg'
      cases hg'
      exact he rfl
/-- The rows so far, each a copy of its own, and all bytes behind one another: which stand apart. -/
structure Gone (B : Nat) (w : World) (ls : List Bytes) (fl : Bytes) (v3 v4 : Value) : Prop where
  own : ∃ vs : List Value, w.ownsRow B 24 1 v3 vs.length vs ∧ vs.length = ls.length ∧ ∀ (i : Nat) (x : Value) (t : Bytes), vs[i]? = some x → ls[i]? = some t → w.ownsRow B 5 1 x t.length (bytesV t) ∧ (x.ownBlock = none ∨ x.ownBlock ≠ v4.ownBlock)
  all : w.ownsRow B 5 1 v4 fl.length (bytesV fl)
theorem Gone.nil (B : Nat) (w : World) : Gone B w [] [] (.slice none 0 0) (.slice none 0 0) := ⟨⟨[], World.ownsRow_nil _ _ _ _, rfl, fun i x t h => by cases h⟩, World.ownsRow_nil _ _ _ _⟩
theorem Gone.on {B : Nat} {w w' : World} {ls : List Bytes} {fl : Bytes} {v3 v4 : Value} (h : Gone B w ls fl v3 v4) (hb : Below w.heap.size w w') : Gone B w' ls fl v3 v4 := by
  obtain ⟨⟨vs, h1, h2, h3⟩, h4⟩ := h
  exact ⟨⟨vs, owns_on h1 hb, h2, fun i x t hx ht => ⟨owns_on (h3 i x t hx ht).1 hb, (h3 i x t hx ht).2⟩⟩, owns_on h4 hb⟩
theorem Gone.rd {B : Nat} {w : World} {ls : List Bytes} {fl : Bytes} {v3 v4 : Value} (h : Gone B w ls fl v3 v4) : RdR w v3 (ls.map bytesV) := by
  obtain ⟨⟨vs, h1, h2, h3⟩, h4⟩ := h
  refine ⟨vs, Rd.of_own h1, by rw [h2, List.length_map], fun i x r hx hr => ?_⟩
  rw [List.getElem?_map] at hr
  obtain ⟨t, ht, rfl⟩ := Option.map_eq_some_iff.1 hr
  exact Rd.of_own (h3 i x t hx ht).1
/-- One more copy. -/
theorem Gone.more {B : Nat} {w w' : World} {ls : List Bytes} {fl t : Bytes} {v3 v4 v3' x : Value} {vs : List Value} (hx : w.ownsRow B 5 1 x t.length (bytesV t)) (hx4 : x.ownBlock = none ∨ x.ownBlock ≠ v4.ownBlock)
    (h1 : w.ownsRow B 24 1 v3 vs.length vs) (h2 : vs.length = ls.length) (h3 : ∀ (i : Nat) (x : Value) (t : Bytes), vs[i]? = some x → ls[i]? = some t → w.ownsRow B 5 1 x t.length (bytesV t) ∧ (x.ownBlock = none ∨ x.ownBlock ≠ v4.ownBlock))
    (h4 : w.ownsRow B 5 1 v4 fl.length (bytesV fl)) (h1' : w'.ownsRow B 24 1 v3' (vs ++ [x]).length (vs ++ [x])) (hg : w.grownBy w' v3.ownBlock) : Gone B w' (ls ++ [t]) fl v3' v4 := by
  refine ⟨⟨vs ++ [x], h1', by simp [h2], fun i y r hy hr => ?_⟩, h4.kept hg (own_apart h4 h1 (by decide))⟩
  by_cases hi : i < vs.length
  · rw [List.getElem?_append_left hi] at hy
    rw [List.getElem?_append_left (by omega)] at hr
    obtain ⟨o, d⟩ := h3 i y r hy hr
    exact ⟨o.kept hg (own_apart o h1 (by decide)), d⟩
  · have hl := (List.getElem?_eq_some_iff.1 hy).1
    simp at hl
    obtain rfl : i = vs.length := by omega
    rw [List.getElem?_append_right (Nat.le_refl _), Nat.sub_self] at hy
    rw [List.getElem?_append_right (by omega), show vs.length - ls.length = 0 by omega] at hr
    cases hy
    cases hr
    exact ⟨hx.kept hg (own_apart hx h1 (by decide)), hx4⟩
/-- More bytes behind all. -/
theorem Gone.longer {B : Nat} {w w' : World} {ls : List Bytes} {fl fl' : Bytes} {v3 v4 v4' : Value} (h : Gone B w ls fl v3 v4) (h4' : w'.ownsRow B 5 1 v4' fl'.length (bytesV fl')) (hg : w.grownBy w' v4.ownBlock) (hat : v4'.ownBlock = v4.ownBlock ∨ v4'.ownBlock = some w.heap.size) : Gone B w' ls fl' v3 v4' := by
  obtain ⟨⟨vs, h1, h2, h3⟩, h4⟩ := h
  refine ⟨⟨vs, h1.kept hg (own_apart h1 h4 (by decide)), h2, fun i x t hx ht => ?_⟩, h4'⟩
  obtain ⟨o, d⟩ := h3 i x t hx ht
  refine ⟨o.kept hg d, ?_⟩
  rcases hat with e | e
  · rw [e]
    exact d
  · rw [e]
    rcases d with d | _
    · exact .inl d
    · refine .inr fun e2 => ?_
      have := (o.lt _ e2).2
      omega
/-- What stands in a copy made last is no block of before. -/
theorem new_apart {B n m : Nat} {w0 w : World} {x v : Value} {xs ys : List Value} (h : w.ownsRow w0.heap.size 5 1 x n xs) (h' : w0.ownsRow B 5 1 v m ys) : x.ownBlock = none ∨ x.ownBlock ≠ v.ownBlock := by
  cases hx : x.ownBlock with
  | none => exact .inl rfl
  | some k =>
    refine .inr fun e => ?_
    have h1 := (h.lt k hx).1
    have h2 := (h'.lt k e.symm).2
    omega
def cutRows (rows : List Bytes) (k : Nat) : List Bytes := (rows.take k).map (·.take 2000)
theorem cutRows_more (rows : List Bytes) (k : Nat) (r : Bytes) (h : rows[k]? = some r) : cutRows rows (k + 1) = cutRows rows k ++ [r.take 2000] := by
  unfold cutRows
  rw [List.take_add_one, h, List.map_append]
  rfl
theorem cutRows_len (rows : List Bytes) (k : Nat) (h : k ≤ rows.length) : (cutRows rows k).length = k := by unfold cutRows; rw [List.length_map, List.length_take]; omega
theorem cutRows_flat (rows : List Bytes) (k : Nat) : (cutRows rows k).flatten.length ≤ 2000 * k := by
  induction k with
  | zero => simp [cutRows]
  | succ k ih =>
    cases h : rows[k]? with
    | none =>
      have hl := List.getElem?_eq_none_iff.1 h
      have e : cutRows rows (k + 1) = cutRows rows k := by unfold cutRows; rw [List.take_of_length_le (by omega), List.take_of_length_le (by omega)]
      rw [e]
      omega
    | some r =>
      rw [cutRows_more rows k r h, List.flatten_append, List.length_append, List.flatten_cons, List.flatten_nil, List.append_nil, List.length_take]
      omega
/-- The copy that was made last, where the row of them holds it. -/
theorem Gone.last {B : Nat} {w : World} {ls : List Bytes} {fl t : Bytes} {v3 v4 : Value} (h : Gone B w (ls ++ [t]) fl v3 v4) : ∃ c g o ay cy, v3 = .slice (some ⟨g, o, none⟩) (ls.length + 1) c ∧ ls.length + 1 ≤ c ∧ c ≤ maxLen ∧ w.cell? ⟨g, o + ls.length, none⟩ = some (.slice ay t.length cy) ∧ Rd w (.slice ay t.length cy) (bytesV t) := by
  obtain ⟨⟨us, p1, p2, p3⟩, _⟩ := h
  obtain ⟨a, c, rfl, q1, q2, _, q3⟩ := Rd.of_own p1
  rw [List.length_append] at p2
  simp only [List.length_cons, List.length_nil] at p2
  obtain ⟨g, o, rfl, hg, hc⟩ := q3 (by omega)
  obtain ⟨y, hy⟩ : ∃ y, us[ls.length]? = some y := ⟨_, List.getElem?_eq_getElem (by omega)⟩
  have oy := (p3 _ y t hy (by rw [List.getElem?_append_right (Nat.le_refl _), Nat.sub_self]; rfl)).1
  obtain ⟨ay, cy, rfl⟩ := own_sl3 oy
  exact ⟨c, g, o, ay, cy, by rw [p2], by omega, q2, hc _ _ hy, Rd.of_own oy⟩
theorem own_len {w : World} {B n : Nat} {e : TypeId} {v : Value} {xs : List Value} (h : w.ownsRow B e 1 v n xs) : w.ownsRow B e 1 v xs.length xs := by rw [h.1, Nat.mul_one]; exact h
theorem sumL_len (l : Bytes) : (sumL l).length = 32 := digestL_len _
set_option maxRecDepth 100000 in
theorem neq31 (W : World) : (binOp .neq 31 (.agg constsA) (.agg constsA)).run Tryd.prog W = .ok (.bool false) W := by kernel_rfl
set_option maxRecDepth 100000 in
theorem each_of (W : World) : (Instr.field 35 (.agg tabA) 1).run Tryd.prog W = .ok (.agg constsA) W := by kernel_rfl

set_option maxRecDepth 100000 in
set_option maxHeartbeats 8000000 in
theorem sums_law (rows : List Bytes) (v : Value) (t : TypeId) (fr : Nat × Nat) (w : World) (hP : Prim t fr w) (hv : RdR w v (rows.map bytesV)) : Calls Tryd.prog 3 #[v] w fun e w' => e = .returned (.bool true) ∧ Below w.heap.size w w' := by
  have HV := Lib.hid hv
  obtain ⟨vs, hR, hlen, hrow⟩ := hv
  obtain ⟨a, c, rfl, hlc, hcm, _, hcell⟩ := hR
  unfold maxLen at hcm
  rw [List.length_map] at hlen
  obtain ⟨n, hn⟩ : ∃ n, n = vs.length := ⟨_, rfl⟩
  rw [← hn] at hlc hcell HV hlen ⊢
  have HP := Lib.hid hP
  have HROW := Lib.hid hrow
  have HC := Lib.hid hcell
  have HLEN := Lib.hid hlen
  have HN := Lib.hid hn
  clear hP hrow hcell hlen hn
  go_enter Tryd.func3, Tryd.ntmps3
  go_upto_region 0 with fail
  go_wp2_with fail
  refine (wakes_any t fr w HP.out).mono ?_
  rintro e w1 ⟨rfl, hb1⟩
  have HB1 := Lib.hid hb1
  clear hb1
  go_upto_block 0 with fail
  go_cut [3, 4] (fun v3 v4 wx => ∃ k : Nat, k ≤ n ∧ k ≤ 5 ∧ Hid (Gone w.heap.size wx (cutRows rows k) (cutRows rows k).flatten v3 v4) ∧ Hid (Below w.heap.size w wx))
  case first =>
    go_wp2_with fail
    go_loopw [3, 4, 5, 6, 7, 14, 15, 16, 17, 18, 19, 20, 21, 22, 23, 24, 25, 26, 27, 28, 29, 30, 31, 32, 33, 34, 35, 36, 37, 38, 39, 40, 41] (fun v3 v4 _ _ _ i _ _ _ _ _ _ _ _ _ _ _ _ _ _ _ _ _ _ _ _ _ _ _ _ _ _ _ wr => ∃ (k k3 c3 k4 c4 : Nat) (a3 a4 : Option Addr), k ≤ n ∧ k ≤ 5 ∧ i = .int .i64 (k : Int) ∧ v3 = .slice a3 k3 c3 ∧ v4 = .slice a4 k4 c4 ∧ Hid (Gone w.heap.size wr (cutRows rows k) (cutRows rows k).flatten (.slice a3 k3 c3) (.slice a4 k4 c4)) ∧ Hid (Below w.heap.size w wr)) (fun v3 v4 _ _ _ i _ _ _ _ _ _ _ _ _ _ _ _ _ _ _ _ _ _ _ _ _ _ _ _ _ _ _ _ => n - (Lib.intOf i).toNat)
    case atStart => exact ⟨0, 0, 0, 0, 0, none, none, Nat.zero_le _, Nat.zero_le _, rfl, rfl, rfl, Lib.hid (Gone.nil _ _), HB1⟩
    case round =>
      obtain ⟨k, k3, c3, k4, c4, a3, a4, hkn, hk5, rfl, rfl, rfl, HG, HB⟩ := hrel
      obtain ⟨wq, hwq⟩ : ∃ q, q = wr := ⟨_, rfl⟩
      rw [← hwq] at HG HB ⊢
      clear hwq
      by_cases hlt : k < n
      · have k1 : (k : Int) < (n : Int) := by omega
        obtain ⟨x, hx⟩ : ∃ x, vs[k]? = some x := ⟨_, List.getElem?_eq_getElem (by have := HN.out; omega)⟩
        obtain ⟨r, hr⟩ : ∃ r, rows[k]? = some r := ⟨_, List.getElem?_eq_getElem (by have := HLEN.out; omega)⟩
        obtain ⟨g, o, rfl, hg, hc⟩ := HC.out (by omega)
        have cx := (HB.out.cell (p := ⟨g, _, none⟩) hg).trans (hc k x hx)
        have HX := Lib.hid (HROW.out k x (bytesV r) hx (by rw [List.getElem?_map, hr]; rfl))
        have HM := Lib.hid (cutRows_more rows k r hr)
        by_cases h5 : k < 5
        · have k5 : ¬ ((k : Int) = 5) := by omega
          have k5' : ((k : Int) == 5) = false := by simp; omega
          have HK := Lib.hid hr
          clear hx hr hc
          go_wp2_with fail
          refine (few_any r x _ (HX.out.on HB.out)).mono ?_
          rintro e w2 ⟨x2, rfl, hown2, hb2⟩
          obtain ⟨tt, htt⟩ : ∃ tt, tt = r.take 2000 := ⟨_, rfl⟩
          have htl : tt.length ≤ 2000 := by rw [htt, List.length_take]; omega
          rw [← htt] at hown2 HM
          have HTL := Lib.hid htl
          have HTT := Lib.hid htt
          clear htl htt
          obtain ⟨ax, cx2, rfl⟩ := own_sl3 hown2
          have hap := new_apart hown2 HG.out.all
          have HG2 := HG.out.on (w' := w2.alloc (.cells #[.slice ax tt.length cx2] 24)) ((hb2).alloc hb2.size _)
          have hx2 : (w2.alloc (.cells #[.slice ax tt.length cx2] 24)).ownsRow w.heap.size 5 1 (.slice ax tt.length cx2) tt.length (bytesV tt) := own_mono (owns_on hown2 ((Below.refl _ _).alloc (Nat.le_refl _) _)) HB.out.size
          obtain ⟨⟨us, o1, o2, o3⟩, o4⟩ := HG2
          have HKL : Hid ((cutRows rows k).length = k) := Lib.hid (cutRows_len rows k (by have := HLEN.out; omega))
          have HUL : Hid (us.length ≤ 5) := Lib.hid (by rw [o2, cutRows_len rows k (by have := HLEN.out; omega)]; omega)
          have HB2 : Hid (Below w.heap.size w w2) := Lib.hid (bch HB.out hb2)
          have O1 := Lib.hid o1
          have O2 := Lib.hid o2
          have O3 := Lib.hid o3
          have O4 := Lib.hid o4
          have HX2 := Lib.hid hx2
          have HAP := Lib.hid hap
          clear hown2 hap hx2 o1 o2 o3 o4 hb2
          go_wp2_with (at_builtin; refine wpList_append_at rfl (.tmp 21) (.tmp 24) 22 24 (.slice none 0 0) 24 rfl Tryd.underlying22 info24 rfl w.heap.size _ _ us [.slice ax tt.length cx2] rfl (own_len O1.out) rfl (rd_one _ 24 _) (by simp [Value.oneCell']) (Nat.le_trans HB2.out.size (by simp)) (by have := HUL.out; simp only [List.length_cons, List.length_nil]; omega) (by decide) ?_; intro v5 w5 hown5 hg5 _; have HG5 := Lib.hid (Gone.more HX2.out HAP.out (own_len O1.out) O2.out O3.out O4.out hown5 hg5); have HB5 : Hid (Below w.heap.size w w5) := Lib.hid ((HB2.out.alloc HB2.out.size _).grown hg5 (Nat.le_trans HB2.out.size (by simp)) (fun q e => (O1.out.lt q e).1)); obtain ⟨a5, c5, rfl⟩ := own_sl3 hown5; clear hown5 hg5 O1 O2 O3 O4 HX2 HAP HB2)
          refine (few_any r x _ (HX.out.on HB5.out)).mono ?_
          rintro e w6 ⟨x6, rfl, hown6, hb6⟩
          rw [← HTT.out] at hown6
          obtain ⟨ay, cy6, rfl⟩ := own_sl3 hown6
          have HR6 := Lib.hid (Rd.of_own hown6)
          have HG6 := Lib.hid (HG5.out.on hb6)
          have HB6 := Lib.hid (bch HB5.out hb6)
          have HFL : Hid ((cutRows rows k).flatten.length ≤ 10000) := Lib.hid (by have := cutRows_flat rows k; omega)
          clear hown6 hb6 HG5 HB5
          go_wp2_with (at_builtin; refine wpList_append_at rfl (.tmp 26) (.tmp 28) 24 5 z8 1 rfl Tryd.underlying24 info5 rfl w.heap.size _ _ (bytesV (cutRows rows k).flatten) (bytesV tt) rfl (own_len HG6.out.all) rfl HR6.out (bytesV_one _) HB6.out.size (by rw [bytesV_len, bytesV_len]; have := HFL.out; have := HTL.out; omega) (by decide) ?_; intro v7 w7 hown7 hg7 hat7; have HG7 : Hid (Gone w.heap.size w7 (cutRows rows (k + 1)) (cutRows rows (k + 1)).flatten _ v7) := Lib.hid (by rw [HM.out, List.flatten_append, show [tt].flatten = tt by simp]; exact HG6.out.longer (by rw [bytesV_app] at hown7; rw [bytesV_len] at hown7; exact hown7) hg7 hat7); have HB7 : Hid (Below w.heap.size w w7) := Lib.hid (HB6.out.trans ((Below.refl w.heap.size _).grown hg7 HB6.out.size (fun q e => (HG6.out.all.lt q e).1))); obtain ⟨a7, c7, rfl⟩ := own_sl3 hown7; have hlast := HG7.out; rw [HM.out] at hlast; obtain ⟨c8, g5, o5, ay5, cy5, e8, hcc8, hcm8, hcy, hry⟩ := hlast.last; simp only [Value.slice.injEq] at e8; obtain ⟨rfl, e9, rfl⟩ := e8; rw [HKL.out] at hcy e9; simp only [List.length_append, List.length_cons, List.length_nil] at e9; have HRY := Lib.hid hry; have i1 : k < us.length + 1 := (by omega); have i2 : (k : Int) < (us.length : Int) + 1 := (by omega); have i3 : (k : Int) < ((us.length + 1 : Nat) : Int) := (by omega); have i4 : (0 : Int) ≤ (k : Int) := (by omega); clear e9 hown7 hg7 hat7 HG6 HB6 HR6 hlast hry hcc8 hcm8)
          have hW : Hid (Below w7.heap.size w7 (w7.alloc (.cells #[.slice ay5 tt.length cy5] 24))) := Lib.hid ((Below.refl _ _).alloc (Nat.le_refl _) _)
          have HB8 := Lib.hid (bch HB7.out hW.out)
          have hr8 : RdR (w7.alloc (.cells #[.slice ay5 tt.length cy5] 24)) (.slice (some ⟨w7.heap.size, 0, none⟩) 1 1) ([tt].map bytesV) := by
            refine ⟨[.slice ay5 tt.length cy5], rd_one _ _ _, rfl, fun i x r hx hr => ?_⟩
            have hl := (List.getElem?_eq_some_iff.1 hx).1
            simp at hl
            subst hl
            cases hx
            cases hr
            exact HRY.out.on hW.out
          refine (sum_any [tt] tt (by simp) _ t fr _ (HP.out.on HB8.out) hr8 (by simp) (by have := HTL.out; omega)).mono ?_
          rintro e w9 ⟨rfl, hb9⟩
          have HB9 := Lib.hid (bch HB8.out hb9)
          have HG9 := Lib.hid ((HG7.out.on hW.out).on hb9)
          clear hr8 hW HB8 HB7 HG7 hb9
          obtain ⟨D, hD⟩ : ∃ D, D = sumL tt := ⟨_, rfl⟩
          have hDl : D.length = 32 := by rw [hD]; exact sumL_len _
          have HD := Lib.hid hD
          rw [← hD]
          have HDL := Lib.hid hDl
          clear hD hDl
          have HZ : Hid (Box (w9.alloc (.cells (part z8 [] 32 0) 27)) w9.heap.size 27 (part z8 [] 32 0)) := Lib.hid (box_new _ _ _ rfl)
          obtain ⟨g9, hg9⟩ : ∃ q, q = w9.heap.size := ⟨_, rfl⟩
          obtain ⟨wz, hwz⟩ : ∃ q, q = (w9.alloc (.cells (part z8 [] 32 0) 27)).setRow w9.heap.size (bytesA D) := ⟨_, rfl⟩
          have HDB : Hid (Box wz g9 27 (bytesA D)) := Lib.hid (by rw [hwz, hg9]; exact HZ.out.row _)
          have HBZ : Hid (Below w9.heap.size w9 wz) := Lib.hid (by rw [hwz]; exact below_row ((Below.refl _ _).alloc (Nat.le_refl _) _) (Nat.le_refl _) _)
          have HWZ := Lib.hid hwz
          have HG9' := Lib.hid hg9
          clear hwz hg9
          go_wp2_with (first
            | (with_reducible refine wpList_zero rfl 27 rfl (part z8 [] 32 0) (zero27 _) ?_)
            | (refine wpList_store_row rfl 27 (.tmp 7) (.tmp 35) rfl w9.heap.size (bytesA D) rfl rfl 27 (part z8 [] 32 0) HZ.out (info27b _ HDL.out) (zeros32 _ HDL.out) (bytesA_one _) ?_))
          rw [← HWZ.out, ← HG9'.out]
          have HGZ := Lib.hid (HG9.out.on HBZ.out)
          have HBW := Lib.hid (bch HB9.out HBZ.out)
          clear HWZ HG9' HZ HG9 HB9 HBZ
          (try simp only [Act.put, List.setIfInBounds_toArray, List.set_cons_zero, List.set_cons_succ])
          go_cut [36, 37, 38, 39, 40] (fun _ _ _ _ x_ wx => x_ = .bool false ∧ Hid (Below wz.heap.size wz wx))
          case first =>
            rename_i J3 K3 hJ3 hK3
            have heq : ∀ W, (Op.equalIn 10000 27 (.agg (bytesV D).toArray) (.agg (bytesA D))).run Tryd.prog W = .ok true W := fun W => by
              have h := run_equalIn_bytes (P := Tryd.prog) W 9998 27 5 32 Tryd.underlying27 Tryd.underlying5 Tryd.sizeOf5 D D HDL.out HDL.out
              rw [beq_self_eq_true] at h
              exact h
            have n7 : wz.rangeAt g9 0 (bytesV D) := range_cells (t := 27) HDB.out
            have l7 := HDB.out.lt
            refine wp_region_held_drew (S := fun w' => Below wz.heap.size wz w') (by kernel_rfl) ((Below.refl _ _).drew) (fun hHeld => ?_)
            refine wpAnyH_take (i := 0) (oi := { dst := some 36, op := Op.load 27 (Operand.tmp 7), type := 27, pos := "law.go:38", after := #[], guard := none }) (v := _) rfl (by kernel_rfl) (by kernel_rfl) (by kernel_rfl) (fun _ _ _ h => h) (yieldsIf_load_mid (by rfl) 27 (.tmp 7) rfl g9 0 rfl (bytesV D) (.array 32 5) (fun _ h => rng_on n7 h l7) Tryd.underlying27 rfl (by rw [info27, bytesV_len, HDL.out])) hHeld ?_
            (try simp only [Act.put, List.setIfInBounds_toArray, List.set_cons_zero, List.set_cons_succ])
            refine wpAnyH_take (i := 1) (oi := { dst := some 37, op := Op.move (Operand.tmp 6), type := 24, pos := "law.go:38", after := #[], guard := none }) (v := ?_) rfl (by kernel_rfl) (by kernel_rfl) (by kernel_rfl) (fun _ _ _ h => h) (Or.inl ⟨by rfl, ?_⟩) hHeld ?_
            rotate_left
            · (intro w hSw; go_simp; try with_reducible rfl)
            (try simp only [Act.put, List.setIfInBounds_toArray, List.set_cons_zero, List.set_cons_succ])
            refine wpAnyH_ready (rs := [2]) (by kernel_rfl) (by simp) (AllReadyH.cons (o := { dst := some 38, op := Op.call { callee := Callee.value (Operand.func 9), args := #[Operand.tmp 37], argTypes := #[24] }, type := 24, pos := "law.go:38", after := #[{ on := 1, ground := Ground.data }], guard := none }) rfl (fun K hK => ?_) AllReadyH.nil)
            · go_simp
              refine (few_any r _ _ ((HX.out.on HBW.out).on hHeld)).mono ?_
              rintro e wa ⟨xa, rfl, hown, hba⟩
              rw [← HTT.out] at hown
              have hra := Rd.of_own hown
              refine hK.out _ _ (bch hHeld hba) (fun hHeld => ?_)
              (try simp only [Act.put, List.setIfInBounds_toArray, List.set_cons_zero, List.set_cons_succ])
              refine wpAnyH_ready (rs := [3]) (by kernel_rfl) (by simp) (AllReadyH.cons (o := { dst := some 39, op := Op.call { callee := Callee.value (Operand.func 11), args := #[Operand.tmp 38], argTypes := #[24] }, type := 26, pos := "law.go:38", after := #[{ on := 2, ground := Ground.data }, { on := 2, ground := Ground.chain }], guard := none }) rfl (fun K hK => ?_) AllReadyH.nil)
              · go_simp
                refine (rsum_any tt _ _ hra (by have := HTL.out; omega)).mono ?_
                rintro e wb ⟨rfl, hbb⟩
                rw [← HD.out]
                refine hK.out _ _ (bch hHeld hbb) (fun hHeld => ?_)
                (try simp only [Act.put, List.setIfInBounds_toArray, List.set_cons_zero, List.set_cons_succ])
                refine wpAnyH_take (i := 4) (oi := { dst := some 40, op := Op.binOp BinOp.neq 27 (Operand.tmp 36) (Operand.tmp 39) 27, type := 4, pos := "law.go:38", after := #[{ on := 0, ground := Ground.data }, { on := 3, ground := Ground.data }], guard := none }) (v := ?_) rfl (by kernel_rfl) (by kernel_rfl) (by kernel_rfl) (fun _ _ _ h => h) (Or.inl ⟨by rfl, ?_⟩) hHeld ?_
                rotate_left
                · (intro w hSw; go_simp; try with_reducible rfl)
                (try simp only [Act.put, List.setIfInBounds_toArray, List.set_cons_zero, List.set_cons_succ])
                refine wpAnyH_done (by kernel_rfl) ?_ _
                first | refine hK3 _ _ (Met.intro (hJ3 _ _ ?_)) | refine Met.intro (hJ3 _ _ ?_)
                (repeat apply Exists.intro)
                refine ⟨?_, rfl⟩
                exact ⟨rfl, Lib.hid hHeld⟩
          case rest =>
            obtain ⟨rfl, hcb⟩ := hcut
            have HGC := HGZ.out.on hcb.out
            rw [List.length_append, List.length_append] at HGC
            have HGC := Lib.hid HGC
            have HBC := Lib.hid (bch HBW.out hcb.out)
            go_wp2_with fail
            go_roundw
            case rel => exact ⟨k + 1, _, _, _, _, _, _, by omega, by omega, by go_num, rfl, rfl, HGC, HBC⟩
            case measure => simp [Lib.intOf]; omega
        · obtain rfl : k = 5 := by omega
          clear hx hr hc
          go_wp2_with fail
          go_meet
          exact ⟨5, hkn, hk5, HG, HB⟩
      · have k1 : ¬ ((k : Int) < (n : Int)) := by omega
        go_wp2_with fail
        go_meet
        exact ⟨k, hkn, hk5, HG, HB⟩
  case rest =>
    obtain ⟨k, hkn, hk5, HG, HB⟩ := hcut
    obtain ⟨fl, hfl⟩ : ∃ fl, fl = (cutRows rows k).flatten := ⟨_, rfl⟩
    rw [← hfl] at HG
    have HFE := Lib.hid hfl
    clear hfl
    have hg := HG.out
    obtain ⟨⟨us, o1, o2, o3⟩, o4⟩ := id hg
    obtain ⟨a3, c3, rfl⟩ := own_sl3 o1
    obtain ⟨a4, c4, rfl⟩ := own_sl3 o4
    have HKL : Hid (us.length = k) := Lib.hid (by rw [o2, cutRows_len rows k (by have := HLEN.out; omega)])
    have HFL : Hid (fl.length ≤ 10000) := Lib.hid (by rw [HFE.out]; have := cutRows_flat rows k; omega)
    have HO1 := Lib.hid (Rd.of_own o1)
    have HO3 := Lib.hid o3
    clear hg o1 o2 o3 o4
    go_wp2_with fail
    refine (sum_any (cutRows rows k) fl HFE.out.symm _ t fr _ (HP.out.on HB.out) HG.out.rd (by rw [cutRows_len rows k (by have := HLEN.out; omega)]; omega) (by have := HFL.out; omega)).mono ?_
    rintro e w2 ⟨rfl, hb2⟩
    have HBa := Lib.hid hb2
    clear hb2
    go_wp2_with fail
    have HS := Lib.hid (rsum_any fl (.slice a4 fl.length c4) w2 (Rd.of_own (HG.out.on HBa.out).all) (Nat.le_trans HFL.out (by decide)))
    refine HS.out.mono ?_
    clear HS
    rintro e w3 ⟨rfl, hb3⟩
    have HBb := Lib.hid (bch HBa.out hb3)
    obtain ⟨D, hD⟩ : ∃ D, D = sumL fl := ⟨_, rfl⟩
    rw [← hD]
    have hne := neq27 D (by rw [hD]; exact sumL_len _)
    clear hD hb3 HBa
    go_wp2_with fail
    refine (constants_any t fr _ (HP.out.on (bch HB.out HBb.out))).mono ?_
    rintro e w4 ⟨rfl, hb4⟩
    have HBc := Lib.hid (bch HBb.out hb4)
    clear hb4 HBb hne
    go_wp2_with fail
    refine (made_any w4).mono ?_
    rintro e w5 ⟨rfl, hb5⟩
    have HBd := Lib.hid (bch HBc.out hb5)
    have hea := each_of
    have hn31 := neq31
    clear hb5 HBc
    go_wp2_with fail
    go_loopw [8, 9, 55, 56, 57, 58, 59, 60, 61, 62, 63, 64, 65, 66, 67, 68] (fun _ _ i _ _ _ _ _ _ _ _ _ _ _ _ _ wr => ∃ j : Nat, j ≤ us.length ∧ i = .int .i64 (j : Int) ∧ Hid (Below wc.heap.size wc wr)) (fun _ _ i _ _ _ _ _ _ _ _ _ _ _ _ _ _ => us.length - (Lib.intOf i).toNat)
    case atStart => exact ⟨0, Nat.zero_le _, rfl, HBd⟩
    case round =>
      clear HBd
      obtain ⟨j, hj, rfl, HE⟩ := hrel
      obtain ⟨wq, hwq⟩ : ∃ q, q = wr := ⟨_, rfl⟩
      rw [← hwq] at HE ⊢
      clear hwq
      by_cases hlt : j < us.length
      · have j1 : (j : Int) < (us.length : Int) := by omega
        have hjn : j < n := by have := HKL.out; omega
        have j2 : (j : Int) < (n : Int) := by omega
        have j0 : (0 : Int) ≤ (j : Int) := by omega
        obtain ⟨x, hx⟩ : ∃ x, vs[j]? = some x := ⟨_, List.getElem?_eq_getElem (by have := HN.out; omega)⟩
        obtain ⟨r, hr⟩ : ∃ r, rows[j]? = some r := ⟨_, List.getElem?_eq_getElem (by have := HLEN.out; omega)⟩
        obtain ⟨y, hy⟩ : ∃ y, us[j]? = some y := ⟨_, List.getElem?_eq_getElem hlt⟩
        obtain ⟨g, o, rfl, hg, hc⟩ := HC.out (by omega)
        have hBq := bch HB.out HE.out
        have cx := (hBq.cell (p := ⟨g, _, none⟩) hg).trans (hc j x hx)
        have HX := Lib.hid ((HROW.out j x (bytesV r) hx (by rw [List.getElem?_map, hr]; rfl)).on hBq)
        have hyt : (cutRows rows k)[j]? = some (r.take 2000) := by
          unfold cutRows
          rw [List.getElem?_map, List.getElem?_take, if_pos (by have := HKL.out; omega), hr]
          rfl
        have hyo := (HO3.out j y _ hy hyt).1
        have HY := Lib.hid ((Rd.of_own hyo).on HE.out)
        obtain ⟨a5, c5, e5, q1, q2, _, q3⟩ := HO1.out.on HE.out
        simp only [Value.slice.injEq] at e5
        obtain ⟨rfl, _, rfl⟩ := e5
        obtain ⟨g5, o5, rfl, hg5, hc5⟩ := q3 (by omega)
        have cy := hc5 j y hy
        clear hx hr hc hy hyt hyo q1 q2 q3 hc5 hg5 hBq
        go_wp2_with fail
        refine (few_any r x _ HX.out).mono ?_
        rintro e w6 ⟨x6, rfl, hown6, hb6⟩
        have HR6 := Lib.hid (Rd.of_own hown6)
        have HF := Lib.hid hb6
        clear hown6 hb6
        go_wp2_with fail
        refine (requal_any (r.take 2000) _ _ _ (HY.out.on HF.out) HR6.out).mono ?_
        rintro e w7 ⟨rfl, hb7⟩
        have HG7 := Lib.hid (bch (bch HE.out HF.out) hb7)
        clear hb7 HF
        go_wp2_with fail
        go_roundw
        case rel => exact ⟨j + 1, hlt, by go_num, HG7⟩
        case measure => simp [Lib.intOf]; omega
      · have j1 : ¬ ((j : Int) < (us.length : Int)) := by omega
        go_wp2_with fail
        go_ret
        exact ⟨rfl, bch HB.out HE.out⟩
end Go.Proofs.YtkenbppoldfecaaDoor
