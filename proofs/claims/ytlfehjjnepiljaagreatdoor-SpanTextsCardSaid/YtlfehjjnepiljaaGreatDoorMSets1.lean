/- Proved here: together, limited, Both and Either of package span. | Proved here: Both of package span: the rows that each row comes to with each of the other one. | Proved here: Either of package span: the rows of both, each a clone. | Proved here: what SpanSets of puncheonlaw05 wants of maps made from a literal, of rows beside boxes, of spans of one bound. -/
import Derived.ArgAppend
import Derived.Maps.RangeWalk
import Derived.Great.BuildSlice
import Derived.Test.YtlfehjjnepiljaaGreatDoorM7
namespace Go.Proofs.YtlfehjjnepiljaaGreatDoor
open Go.RowKit Go.Shelf

/-- append of nothing. -/
theorem run_append_empty {P : Program} {w : World} (t ty e : TypeId) (i : TypeInfo) (ht : P.underlying t = some (.slice e)) (hi : P.info? e = some i) (a : Option Addr) (n c : Nat) (hnc : n ≤ c) (a' : Option Addr) (c' : Nat) :
    (Builtin.append_ #[t, t] ty #[.slice a n c, .slice a' 0 c']).run P w = .ok (.slice a n c) w := by
  cases a <;> cases a' <;> simp [Builtin.append_, run_underlying ht, sizeOf, typeInfo, hi, Builtin.lenOf, Builtin.firstCells, hnc, storeCells, loadCells, loadCellsFrom]
/-- 's[:len(s):len(s)]' with another slice behind it, both just readable. -/
theorem wpList_append_rd {P : Program} {w : World} {ops : Array Oper} {rest : List Oper} {o : Oper} {ac : Act} {Q : Exit → Act → World → Prop} (hg : o.guard = none) (s x : Operand) (t : TypeId) (hop : o.op = Op.call { callee := Callee.builtin Builtin.append, args := #[s, x], argTypes := #[t, t] })
    (e : TypeId) (i : TypeInfo) (z : Value) (size bytes : Nat) (h1 : P.underlying t = some (.slice e)) (h2 : P.info? e = some i) (h3 : i.zero = some z) (h4 : i.size = size) (h5 : i.bytes = bytes) (h6 : z.cells.size = size) (h7 : 0 < size)
    (a : Option Addr) (n : Nat) (xs : List Value) (hs : ac.eval s = .slice a n n) (h0 : RdF w (.slice a n n) n xs) (hxl : xs.length = n * size) (y : Value) (m : Nat) (ys : List Value) (hx : ac.eval x = y) (hy : RdF w y m ys) (hyl : ys.length = m * size) (h1c : ∀ u ∈ ys, u.oneCell' = true)
    (b1 : n + m ≤ maxLen) (b2 : (n + m) * bytes ≤ 140737488355328)
    (hK : ∀ v' w', RdF w' v' (n + m) (xs ++ ys) → Below w.heap.size w w' → wpList P ops Q rest (ac.put o.dst v') w') : wpList P ops Q (o :: rest) ac w := by
  obtain ⟨a', c', rfl, hmc, hcm, hcell⟩ := hy
  rcases Nat.eq_zero_or_pos m with h | h
  · subst h
    have e1 : ys = [] := List.eq_nil_of_length_eq_zero (by omega)
    subst e1
    refine wpList_plain hg fun K hK' => ?_
    have hrun := run_append_empty (P := P) (w := w) t o.type e i h1 h2 a n n (Nat.le_refl _) a' c'
    unfold Oper.wp
    simp [execOp, hop, resolve, invoke, builtin, hs, hx, hrun, Result.andThen]
    exact hK' _ _ (hK _ w (by rw [List.append_nil]; exact h0) (Below.refl _ _))
  · obtain ⟨g', o', rfl, hg', hc'⟩ := hcell h
    obtain ⟨a0, c0, e0, _, _, hc0⟩ := h0
    cases e0
    refine wpList_append_grows w hg s x t hop e i z size bytes h1 h2 h3 h4 h5 h6 h7 a n n xs hs (fun hn => ?_) hxl (fun b hb j u hu => ?_) ⟨g', o', none⟩ m c' ys hx hyl (fun j u hu => by rw [add_to]; exact hc' j u hu) h1c (by omega) b1 b2 (fun v' w' ho hgr => hK v' w' (RdF.of_own ho) ((Below.refl _ w).grown hgr (Nat.le_refl _) (fun k e => by cases e)))
    · rcases Nat.eq_zero_or_pos n with h | h
      · exact ⟨h, h⟩
      · obtain ⟨g, o, e, _⟩ := hc0 h
        rw [hn] at e
        cases e
    · have hn : 0 < n := by
        rcases Nat.eq_zero_or_pos n with h | h
        · subst h
          have e1 : xs = [] := List.eq_nil_of_length_eq_zero (by omega)
          subst e1
          simp at hu
        · exact h
      obtain ⟨g, o, e, _, hcc⟩ := hc0 hn
      rw [hb] at e
      cases e
      rw [add_to]
      exact hcc j u hu

set_option maxRecDepth 100000 in
set_option maxHeartbeats 2000000 in
theorem cloneR_any (l : List Value) (h1 : ∀ u ∈ l, u.oneCell' = true) (x : Value) (w : World) (hx : RdF w x l.length l) (hl : l.length ≤ 1000000) :
    Calls Tryz.prog 74 #[x] w fun e w' => ∃ x', e = .returned x' ∧ w'.ownsRow w.heap.size 55 1 x' l.length (l) ∧ Below w.heap.size w w' := by
  obtain ⟨a, cap, rfl, hlc, hcm, hcell⟩ := id hx
  obtain ⟨i0, hi, hz0, hz1, hz2⟩ := info_parts info55z
  have q33 : ∀ (w : World) (a : Option Addr) (n c n' c' : Nat), (binOp .eql 25 (.slice a n c) (.slice none n' c')).run Tryz.prog w = .ok (.bool a.isNone) w := fun w a n c n' c' => Lib.run_eql_slice_nil w _ _ a n c n' c' Tryz.underlying25
  cases a with
  | none =>
    have h0 : l.length = 0 := by
      rcases Nat.eq_zero_or_pos l.length with h | h
      · exact h
      · obtain ⟨g, o, e, _⟩ := hcell h; cases e
    have : l = [] := List.eq_nil_of_length_eq_zero h0
    subst this
    clear hcell hx
    go_enter Tryz.func74, Tryz.ntmps74
    go_wp2
    go_ret
    exact ⟨_, rfl, World.ownsRow_nil _ _ _ _, Below.refl _ _⟩
  | some ad =>
    have hnews : ∀ (j : Nat) (u : Value), (l)[j]? = some u → (w.alloc (.cells #[] 55)).cell? (ad.add j) = some u := fun j u hu => by
      have h0 : 0 < l.length := by
        have := (List.getElem?_eq_some_iff.1 hu).1
        omega
      obtain ⟨g, o, e, hg, hc⟩ := hcell h0
      cases e
      rw [add_to]
      exact Lib.cell?_alloc_some _ (hc j u hu)
    obtain ⟨n, hn⟩ : ∃ n, n = l.length := ⟨_, rfl⟩
    rw [← hn] at hl hlc
    rw [← hn]
    have HFL : Hid (l.length = n * 1) := Lib.hid (by rw [Nat.mul_one]; exact hn.symm)
    have HNW := Lib.hid hnews
    clear hcell hx hn hnews
    go_enter Tryz.func74, Tryz.ntmps74
    go_wp2_with (at_builtin; refine wpList_append_own _ rfl _ _ 25 rfl w.heap.size 55 i0 (.slice none 0 0) 1 24 Tryz.underlying25 hi hz0 hz1 hz2 rfl (by decide) _ _ _ rfl (World.ownsRow_made w #[] 0 (Nat.le_refl _) (Nat.zero_le _) rfl) ad n cap (l) rfl HFL.out HNW.out h1 (by unfold maxLen; omega) (by omega) (by simp) ?_)
    intro v' w1 hown hgrow _
    go_wp2
    go_ret
    refine ⟨v', rfl, by simpa using hown, ?_⟩
    exact ((Below.refl _ w).alloc (Nat.le_refl _) _).grown hgrow (by simp) (by intro k hk; simp [Value.ownBlock] at hk; omega)

theorem rdF_full {w : World} {a : Option Addr} {n c : Nat} {xs : List Value} (h : RdF w (.slice a n c) n xs) : RdF w (.slice a n n) n xs := by
  obtain ⟨a', c', e, h1, h2, h3⟩ := h
  cases e
  exact ⟨a, n, rfl, Nat.le_refl _, by omega, h3⟩

set_option maxRecDepth 100000 in
set_option maxHeartbeats 2000000 in
theorem together_any (l m : List Bd) (x y : Value) (w : World) (hx : RdB w x l) (hy : RdB w y m) (hl : l.length + m.length ≤ 1000000) : Calls Tryz.prog 54 #[x, y] w fun e w' => ∃ x', e = .returned x' ∧ w'.ownsRow w.heap.size 57 8 x' (l ++ m).length (flatB (l ++ m)) ∧ Below w.heap.size w w' := by
  obtain ⟨a, c, rfl, hlc, hcm, _⟩ := id hx
  obtain ⟨i0, hi, hz0, hz1, hz2⟩ := info_parts info57z
  have HX : Hid (RdF w (.slice a l.length l.length) l.length (flatB l)) := Lib.hid (rdF_full hx)
  have HY : Hid (RdF w y m.length (flatB m)) := Lib.hid hy
  obtain ⟨a', c', rfl, _⟩ := id hy
  have HFL := Lib.hid (flatB_len l)
  have HFM := Lib.hid (flatB_len m)
  obtain ⟨n, hn⟩ : ∃ n, n = l.length := ⟨_, rfl⟩
  obtain ⟨k, hk⟩ : ∃ n, n = m.length := ⟨_, rfl⟩
  rw [← hn] at hlc HX HFL hl ⊢
  rw [← hk] at HY HFM hl ⊢
  have HN := Lib.hid hn
  have HK := Lib.hid hk
  unfold maxLen at hcm
  have n1 : (0 : Int) ≤ (n : Int) := by omega
  have n2 : (n : Int) ≤ (c : Int) := by omega
  clear hx hy hn hk
  go_enter Tryz.func54, Tryz.ntmps54
  go_wp2_with (at_builtin; refine wpList_append_rd rfl _ _ 55 rfl 57 i0 (.agg Bd.zero.arr) 8 72 Tryz.underlying55 hi hz0 hz1 hz2 rfl (by decide) a n (flatB l) rfl HX.out HFL.out _ k (flatB m) rfl HY.out HFM.out (flatB_one m) (by unfold maxLen; omega) (by omega) ?_; intro v' w1 hv hb; have HV : Hid (RdB w1 v' (l ++ m)) := Lib.hid (by unfold RdB; rw [flatB_append, List.length_append, ← HN.out, ← HK.out]; exact hv); have HB := Lib.hid hb; obtain ⟨a2, c2, rfl, _⟩ := hv; clear hb)
  refine (cloneB_any (l ++ m) _ w1 HV.out (by rw [List.length_append, ← HN.out, ← HK.out]; exact hl)).mono ?_
  rintro e w2 ⟨x', rfl, hown, hb⟩
  go_wp2_with fail
  go_ret
  exact ⟨x', rfl, own_base hown HB.out.size, bch HB.out hb⟩

/-- Rows of bounds: the outer row is the call's own, the inner ones can just be read. -/
def HalfR (w0 w : World) (B : Nat) (x : Value) (ls : List (List Bd)) : Prop :=
  ∃ vs : List Value, w.ownsRow B 55 1 x vs.length vs ∧ vs.length = ls.length ∧ ∀ (i : Nat) (v : Value) (l : List Bd), vs[i]? = some v → ls[i]? = some l → RdB w0 v l
theorem rd_cells {w : World} {vs : List Value} {ls : List (List Bd)} (h : vs.length = ls.length) (hr : ∀ (i : Nat) (v : Value) (l : List Bd), vs[i]? = some v → ls[i]? = some l → RdB w v l) : ∀ u ∈ vs, u.oneCell' = true := by
  intro u hu
  obtain ⟨i, hi⟩ := List.mem_iff_getElem?.1 hu
  have hlt := (List.getElem?_eq_some_iff.1 hi).1
  obtain ⟨l, hl⟩ : ∃ l, ls[i]? = some l := ⟨_, List.getElem?_eq_getElem (by omega)⟩
  obtain ⟨a, c, rfl, _⟩ := hr i u l hi hl
  rfl

set_option maxRecDepth 100000 in
set_option maxHeartbeats 2000000 in
theorem togetherR_any (l m : List (List Bd)) (x y : Value) (w : World) (hx : RdR w x l) (hy : RdR w y m) (hl : l.length + m.length ≤ 1000000) : Calls Tryz.prog 56 #[x, y] w fun e w' => ∃ x', e = .returned x' ∧ HalfR w w' w.heap.size x' (l ++ m) ∧ Below w.heap.size w w' := by
  obtain ⟨vs, hv1, hv2, hv3⟩ := hx
  obtain ⟨us, hu1, hu2, hu3⟩ := hy
  obtain ⟨a, c, rfl, hlc, hcm, _⟩ := id hv1
  obtain ⟨i0, hi, hz0, hz1, hz2⟩ := info_parts info55z
  have HX : Hid (RdF w (.slice a vs.length vs.length) vs.length vs) := Lib.hid (rdF_full hv1)
  have HY : Hid (RdF w y us.length us) := Lib.hid hu1
  obtain ⟨a', c', rfl, _⟩ := id hu1
  have HV3 := Lib.hid hv3
  have HU3 := Lib.hid hu3
  have HU1 := Lib.hid (rd_cells hu2 hu3)
  have HW1 : Hid (∀ u ∈ vs ++ us, u.oneCell' = true) := Lib.hid (fun u hu => by
    rcases List.mem_append.1 hu with h | h
    · exact rd_cells hv2 hv3 u h
    · exact rd_cells hu2 hu3 u h)
  obtain ⟨n, hn⟩ : ∃ n, n = vs.length := ⟨_, rfl⟩
  obtain ⟨k, hk⟩ : ∃ n, n = us.length := ⟨_, rfl⟩
  rw [← hv2, ← hu2, ← hn, ← hk] at hl
  rw [← hn] at hlc HX ⊢
  rw [← hk] at HY ⊢
  have HN := Lib.hid hn
  have HK := Lib.hid hk
  have HV2 := Lib.hid hv2
  have HU2 := Lib.hid hu2
  unfold maxLen at hcm
  have n1 : (0 : Int) ≤ (n : Int) := by omega
  have n2 : (n : Int) ≤ (c : Int) := by omega
  clear hv1 hv3 hu1 hu3 hn hk hv2 hu2
  go_enter Tryz.func56, Tryz.ntmps56
  go_wp2_with (at_builtin; refine wpList_append_rd rfl _ _ 25 rfl 55 i0 (.slice none 0 0) 1 24 Tryz.underlying25 hi hz0 hz1 hz2 rfl (by decide) a n vs rfl HX.out (by rw [Nat.mul_one]; exact HN.out.symm) _ k us rfl HY.out (by rw [Nat.mul_one]; exact HK.out.symm) HU1.out (by unfold maxLen; omega) (by omega) ?_; intro v' w1 hv hb; have HV : Hid (RdF w1 v' (vs ++ us).length (vs ++ us)) := Lib.hid (by rw [List.length_append, ← HN.out, ← HK.out]; exact hv); have HB := Lib.hid hb; obtain ⟨a2, c2, rfl, _⟩ := hv; clear hb)
  refine (cloneR_any (vs ++ us) HW1.out _ w1 HV.out (by rw [List.length_append, ← HN.out, ← HK.out]; exact hl)).mono ?_
  rintro e w2 ⟨x', rfl, hown, hb⟩
  go_wp2_with fail
  go_ret
  refine ⟨x', rfl, ⟨vs ++ us, own_base hown HB.out.size, by rw [List.length_append, List.length_append, HV2.out, HU2.out], fun i v t hv ht => ?_⟩, bch HB.out hb⟩
  by_cases hi' : i < vs.length
  · rw [List.getElem?_append_left hi'] at hv
    rw [List.getElem?_append_left (by have := HV2.out; omega)] at ht
    exact HV3.out i v t hv ht
  · rw [List.getElem?_append_right (by omega)] at hv
    rw [List.getElem?_append_right (by have := HV2.out; omega), ← HV2.out] at ht
    exact HU3.out _ v t hv ht

set_option maxRecDepth 100000 in
set_option maxHeartbeats 2000000 in
theorem limited_any (ls : List (List Bd)) (x : Value) (w : World) (hx : RdR w x ls) : Calls Tryz.prog 55 #[x] w fun e w' => e = .returned (.tuple #[.agg #[if fitsB ls = true then x else .slice none 0 0], .int .i64 (if fitsB ls = true then 0 else 3)]) ∧ Below w.heap.size w w' := by
  have X0 : Hid (Box (w.alloc (.cells #[.slice none 0 0] 27)) w.heap.size 27 #[.slice none 0 0]) := Lib.hid box_new
  have B0 : Hid (Below w.heap.size w (w.alloc (.cells #[.slice none 0 0] 27))) := Lib.hid (below_new _ _)
  have HF := Lib.hid (fits_any ls x _ (hx.on B0.out))
  obtain ⟨a, c, rfl, _⟩ := hx.open
  obtain ⟨f, hf⟩ : ∃ f, f = fitsB ls := ⟨_, rfl⟩
  rw [← hf] at HF ⊢
  obtain ⟨n, hn⟩ : ∃ n, n = ls.length := ⟨_, rfl⟩
  rw [← hn] at HF ⊢
  clear hx hf hn
  cases f with
  | false =>
    rw [if_neg (by decide), if_neg (by decide)]
    go_enter Tryz.func55, Tryz.ntmps55
    go_wp2_with (first
      | (with_reducible refine wpList_zero rfl 27 rfl #[.slice none 0 0] zero27 ?_)
      | (go_at_call 59; refine HF.out.mono ?_; rintro e w' ⟨rfl, rfl⟩)
      | (refine builds_none27 rfl rfl ?_)
      | (refine wpList_store_row rfl 27 (.tmp 2) (.tmp 7) rfl w.heap.size #[.slice none 0 0] rfl rfl 27 _ X0.out (info27 _) rfl (slice_one _ _ _) ?_))
    refine bodyPost_ret (results_ver rfl _ _ w.heap.size rfl #[.slice none 0 0] (run_loadVar_row _ w.heap.size 27 27 #[.slice none 0 0] (0, 0) _ (X0.out.row _) Tryz.underlying27 rfl (info27 _))) rfl ⟨rfl, below_row B0.out (Nat.le_refl _) _⟩
  | true =>
    rw [if_pos rfl, if_pos rfl]
    go_enter Tryz.func55, Tryz.ntmps55
    go_wp2_with (first
      | (with_reducible refine wpList_zero rfl 27 rfl #[.slice none 0 0] zero27 ?_)
      | (go_at_call 59; refine HF.out.mono ?_; rintro e w' ⟨rfl, rfl⟩)
      | (refine builds27 rfl (.tmp 8) rfl a n c rfl ?_)
      | (refine wpList_store_row rfl 27 (.tmp 2) (.tmp 9) rfl w.heap.size #[.slice a n c] rfl rfl 27 _ X0.out (info27 _) rfl (slice_one _ _ _) ?_))
    refine bodyPost_ret (results_ver rfl _ _ w.heap.size rfl #[.slice a n c] (run_loadVar_row _ w.heap.size 27 27 #[.slice a n c] (0, 0) _ (X0.out.row _) Tryz.underlying27 rfl (info27 _))) rfl ⟨rfl, below_row B0.out (Nat.le_refl _) _⟩
end Go.Proofs.YtlfehjjnepiljaaGreatDoor

namespace Go.Proofs.YtlfehjjnepiljaaGreatDoor
open Go.RowKit Go.Shelf

/-- What Both and Either hand back: rows of the call's own, or an error. -/
def JoinV (ok : Bool) (r : List (List Bd)) (w : World) (e : Ending) (w' : World) : Prop :=
  ∃ (x : Value) (z : Int), e = .returned (.tuple #[.agg #[x], .int .i64 z]) ∧ ((ok = true ∧ fitsB r = true ∧ z = 0 ∧ OwnR w' w.heap.size x r) ∨ (ok = true ∧ fitsB r = false ∧ z = 3 ∧ x = .slice none 0 0) ∨ (ok = false ∧ z = 150 ∧ x = .slice none 0 0)) ∧ Below w.heap.size w w'
theorem own_rows {w : World} {B : Nat} {x : Value} {m : Nat} {ls : List (List Bd)} (h : OwnR w B x ls) (hm : m = ls.length) : ∃ us : List Value, w.ownsRow B 55 1 x m us ∧ us.length = m := by
  obtain ⟨us, h1, h2, _⟩ := h
  exact ⟨us, by rw [hm, ← h2]; exact h1, by rw [hm, h2]⟩
/-- So far of the rows. -/
def bothK (a b : List (List Bd)) (k j : Nat) : List (List Bd) := bothL (a.take k) b ++ (b.take j).map ((a.getD k []) ++ ·)
theorem both_zero (a b : List (List Bd)) (k : Nat) : bothK a b k 0 = bothL (a.take k) b := by
  unfold bothK
  simp
theorem both_next {a b : List (List Bd)} {k j : Nat} {x y : List Bd} (hk : a[k]? = some x) (hj : b[j]? = some y) : bothK a b k (j + 1) = bothK a b k j ++ [x ++ y] := by
  have e : a.getD k [] = x := by rw [List.getD_eq_getElem?_getD, hk]; rfl
  unfold bothK
  rw [e, List.take_add_one, hj, List.map_append, List.append_assoc]
  rfl
theorem both_row {a b : List (List Bd)} {k : Nat} {x : List Bd} (hk : a[k]? = some x) (j : Nat) (hj : b.length ≤ j) : bothK a b k j = bothL (a.take (k + 1)) b := by
  have e : a.getD k [] = x := by rw [List.getD_eq_getElem?_getD, hk]; rfl
  unfold bothK bothL
  rw [e, List.take_add_one, hk, List.flatMap_append, List.take_of_length_le hj]
  simp
theorem both_size (a b : List (List Bd)) (k j : Nat) (ha : a.length ≤ 4) (hb : b.length ≤ 4) : (bothK a b k j).length ≤ 20 := by
  unfold bothK
  rw [List.length_append, both_len, List.length_map, List.length_take, List.length_take]
  have h1 : min k a.length * b.length ≤ 4 * 4 := Nat.mul_le_mul (by omega) hb
  omega

set_option maxRecDepth 100000 in
set_option maxHeartbeats 8000000 in
theorem both_any (a b : List (List Bd)) (x y : Value) (w : World) (hx : RdR w x a) (hy : RdR w y b) : Calls Tryz.prog 26 #[.agg #[x], .agg #[y]] w (JoinV (spanOk a && spanOk b) (bothL a b) w) := by
  obtain ⟨ax, cx, rfl, hlx, hmx, hcx⟩ := id hx.open
  obtain ⟨ay, cy, rfl, hly, hmy, hcy⟩ := id hy.open
  have HX := Lib.hid hx
  have HY := Lib.hid hy
  have HCX := Lib.hid hcx
  have HCY := Lib.hid hcy
  obtain ⟨n, hn⟩ : ∃ n, n = a.length := ⟨_, rfl⟩
  obtain ⟨m, hm⟩ : ∃ n, n = b.length := ⟨_, rfl⟩
  rw [← hn] at hlx HX HCX ⊢
  rw [← hm] at hly HY HCY ⊢
  have HN := Lib.hid hn
  have HM := Lib.hid hm
  unfold maxLen at hmx hmy
  clear hx hy hcx hcy hn hm
  obtain ⟨w1, hw1⟩ : ∃ q, q = ((w.alloc (.cells #[.slice ax n cx] 27)).alloc (.cells #[.slice ay m cy] 27)).alloc (.cells #[.slice none 0 0] 27) := ⟨_, rfl⟩
  have X1 : Hid (Box w1 w.heap.size 27 #[.slice ax n cx]) := Lib.hid (by rw [hw1]; exact (box_new.alloc _).alloc _)
  have X2 : Hid (Box w1 (w.heap.size + 1) 27 #[.slice ay m cy]) := Lib.hid (by rw [hw1]; exact Box.alloc (heap_alloc2_new w _ _) _)
  have X3 : Hid (Box w1 (w.heap.size + 2) 27 #[.slice none 0 0]) := Lib.hid (by
    have := box_new (w := (w.alloc (.cells #[.slice ax n cx] 27)).alloc (.cells #[.slice ay m cy] 27)) (t := 27) (cs := #[.slice none 0 0])
    simp only [World.size_alloc] at this
    rw [hw1]; exact this)
  have B1 : Hid (Below w.heap.size w w1) := Lib.hid (by rw [hw1]; exact (((Below.refl _ w).alloc (Nat.le_refl _) _).alloc (by simp) _).alloc (by simp; omega) _)
  obtain ⟨oa, hoa⟩ : ∃ o, o = spanOk a := ⟨_, rfl⟩
  obtain ⟨ob, hob⟩ : ∃ o, o = spanOk b := ⟨_, rfl⟩
  have HA := Lib.hid (svalids_of hoa (HX.out.on B1.out))
  have HB := Lib.hid (fun W (h : RdR W (.slice ay m cy) b) => svalids_of hob h)
  have HOA := Lib.hid hoa
  have HOB := Lib.hid hob
  rw [← hoa, ← hob]
  clear hoa hob
  go_enter Tryz.func26, Tryz.ntmps26
  go_upto_region 1 with fail
  rw [← hw1]
  clear hw1
  cases oa with
  | false =>
    rw [Bool.false_and]
    have p0 := X1.out.cell (k := 0) rfl
    go_wp2_with fail
    refine HA.out.mono ?_
    rintro e w2 ⟨rfl, hb⟩
    have Y3 := Lib.hid (X3.out.on hb)
    have B2 := Lib.hid (bch B1.out hb)
    clear hb
    go_wp2_with (first
      | (refine builds_none27 rfl rfl ?_)
      | (refine wpList_store_row rfl 27 (.tmp 4) (.tmp 19) rfl (w.heap.size + 2) #[.slice none 0 0] rfl rfl 27 _ Y3.out (info27 _) rfl (slice_one _ _ _) ?_))
    refine bodyPost_ret (results_ver rfl _ _ (w.heap.size + 2) rfl #[.slice none 0 0] (run_loadVar_row _ (w.heap.size + 2) 27 27 #[.slice none 0 0] (0, 0) _ (Y3.out.row _) Tryz.underlying27 rfl (info27 _))) rfl ⟨_, 150, rfl, .inr (.inr ⟨rfl, rfl, rfl⟩), below_row B2.out (by omega) _⟩
  | true =>
    have p0 := X1.out.cell (k := 0) rfl
    go_wp2_with fail
    refine HA.out.mono ?_
    rintro e w2 ⟨rfl, hb⟩
    have Y1 := Lib.hid (X1.out.on hb)
    have Y2 := Lib.hid (X2.out.on hb)
    have Y3 := Lib.hid (X3.out.on hb)
    have B2 := Lib.hid (bch B1.out hb)
    have p1 := Y2.out.cell (k := 0) rfl
    have HBW := Lib.hid (HB.out w2 (HY.out.on B2.out))
    clear hb X1 X2 X3 B1 p0
    go_wp2_with fail
    refine HBW.out.mono ?_
    rintro e w3 ⟨rfl, hb⟩
    have Z1 := Lib.hid (Y1.out.on hb)
    have Z2 := Lib.hid (Y2.out.on hb)
    have Z3 := Lib.hid (Y3.out.on hb)
    have B3 := Lib.hid (bch B2.out hb)
    clear hb Y1 Y2 Y3 B2 p1 HBW HA HB
    cases ob with
    | false =>
      go_wp2_with (first
        | (refine builds_none27 rfl rfl ?_)
        | (refine wpList_store_row rfl 27 (.tmp 4) (.tmp 19) rfl (w.heap.size + 2) #[.slice none 0 0] rfl rfl 27 _ Z3.out (info27 _) rfl (slice_one _ _ _) ?_))
      refine bodyPost_ret (results_ver rfl _ _ (w.heap.size + 2) rfl #[.slice none 0 0] (run_loadVar_row _ (w.heap.size + 2) 27 27 #[.slice none 0 0] (0, 0) _ (Z3.out.row _) Tryz.underlying27 rfl (info27 _))) rfl ⟨_, 150, rfl, .inr (.inr ⟨rfl, rfl, rfl⟩), below_row B3.out (by omega) _⟩
    | true =>
      have hn4 : n ≤ 4 := by rw [HN.out]; exact (span_ok HOA.out.symm).1.2
      have hm4 : m ≤ 4 := by rw [HM.out]; exact (span_ok HOB.out.symm).1.2
      have p0 := Z1.out.cell (k := 0) rfl
      have HSZ : Hid (w.heap.size + 3 ≤ w3.heap.size) := Lib.hid (by have := Z3.out.lt; omega)
      go_wp2_with fail
      go_loopw [6, 8, 10, 23, 24, 25, 26, 27, 28, 29, 30, 31, 32, 33, 34, 35, 36, 37, 38, 39, 40, 41] (fun r _ _ i _ _ _ _ _ _ _ _ _ _ _ _ _ _ _ _ _ _ W => ∃ k : Nat, k ≤ n ∧ i = .int .i64 k ∧ Hid (OwnR W (w.heap.size + 3) r (bothL (a.take k) b)) ∧ Hid (Box W (w.heap.size + 1) 27 #[.slice ay m cy]) ∧ Hid (Box W (w.heap.size + 2) 27 #[.slice none 0 0]) ∧ Hid (Below w.heap.size w W)) (fun _ _ _ i _ _ _ _ _ _ _ _ _ _ _ _ _ _ _ _ _ _ _ => n - (Lib.intOf i).toNat)
      case atStart => exact ⟨0, Nat.zero_le _, rfl, Lib.hid (OwnR.nil _ _), Z2, Z3, B3⟩
      case round =>
        clear p0 Z1 Z2 Z3 B3 HSZ
        obtain ⟨k, hk, rfl, RO, Z2, Z3, HBW⟩ := hrel
        obtain ⟨wq, hwq⟩ : ∃ q, q = wr := ⟨_, rfl⟩
        rw [← hwq] at RO Z2 Z3 HBW ⊢
        clear hwq
        by_cases hlt : k < n
        · obtain ⟨l, hl⟩ : ∃ v, a[k]? = some v := ⟨_, List.getElem?_eq_getElem (by have := HN.out; omega)⟩
          obtain ⟨g, o, rfl, hg, hc⟩ := HCX.out (by omega)
          obtain ⟨v, hv, hr⟩ := hc k l hl
          have r0 := (HBW.out.cell (p := ⟨g, _, none⟩) hg).trans hv
          have HRL := Lib.hid hr
          obtain ⟨a2, c2, rfl, _⟩ := hr.open
          obtain ⟨n2, hn2⟩ : ∃ t, t = l.length := ⟨_, rfl⟩
          rw [← hn2] at r0 HRL
          have p1 := Z2.out.cell (k := 0) rfl
          have HL := Lib.hid hl
          have k1 : (k : Int) < (n : Int) := by omega
          have k2 : (0 : Int) ≤ (k : Int) := by omega
          have k4 : IntKind.i64.wrap ((k : Int) + 1) = (k : Int) + 1 := IntWalk.i64_in _ (by omega)
          clear hl hc hv hr hn2
          go_wp2_with fail
          go_loopw [6, 10, 30, 31, 32, 33, 34, 35, 36, 37, 38, 39, 40] (fun r _ i _ _ _ _ _ _ _ _ _ _ W => ∃ j : Nat, j ≤ m ∧ i = .int .i64 j ∧ Hid (OwnR W (w.heap.size + 3) r (bothK a b k j)) ∧ Hid (Box W (w.heap.size + 1) 27 #[.slice ay m cy]) ∧ Hid (Box W (w.heap.size + 2) 27 #[.slice none 0 0]) ∧ Hid (Below w.heap.size w W)) (fun _ _ i _ _ _ _ _ _ _ _ _ _ _ => m - (Lib.intOf i).toNat)
          case atStart => exact ⟨0, Nat.zero_le _, rfl, by rw [both_zero]; exact RO, Z2, Z3, HBW⟩
          case round =>
            clear RO Z2 Z3 HBW r0 p1
            obtain ⟨j, hj, rfl, RO, Z2, Z3, HBW⟩ := hrel
            obtain ⟨wo, hwo⟩ : ∃ q, q = wr := ⟨_, rfl⟩
            rw [← hwo] at RO Z2 Z3 HBW ⊢
            clear hwo
            by_cases jlt : j < m
            · obtain ⟨t, ht⟩ : ∃ v, b[j]? = some v := ⟨_, List.getElem?_eq_getElem (by have := HM.out; omega)⟩
              obtain ⟨g5, o5, rfl, hg5, hc5⟩ := HCY.out (by omega)
              obtain ⟨v5, hv5, hr5⟩ := hc5 j t ht
              have r0 := (HBW.out.cell (p := ⟨g5, _, none⟩) hg5).trans hv5
              have HRT := Lib.hid hr5
              obtain ⟨a5, c5, rfl, _⟩ := hr5.open
              have j1 : (j : Int) < (m : Int) := by omega
              have j2 : (0 : Int) ≤ (j : Int) := by omega
              have j4 : IntKind.i64.wrap ((j : Int) + 1) = (j : Int) + 1 := IntWalk.i64_in _ (by omega)
              have HNX := Lib.hid (both_next HL.out ht)
              have hsl : l.length ≤ 4 := (row_ok ((span_ok HOA.out.symm).2 l (List.mem_of_getElem? HL.out))).1
              have hst : t.length ≤ 4 := (row_ok ((span_ok HOB.out.symm).2 t (List.mem_of_getElem? ht))).1
              have HTG := Lib.hid (together_any l t _ _ wo (HRL.out.on HBW.out) (HRT.out.on HBW.out) (by omega))
              obtain ⟨r, hr9⟩ : ∃ r, r = bothK a b k j := ⟨_, rfl⟩
              have hr20 : r.length ≤ 20 := by rw [hr9]; exact both_size a b k j (by have := HN.out; omega) (by have := HM.out; omega)
              rw [← hr9] at RO HNX
              obtain ⟨n5, hn5⟩ : ∃ z, z = t.length := ⟨_, rfl⟩
              rw [← hn5] at r0 HTG
              clear ht hc5 hv5 hr5 hr9 hn5 hsl hst
              go_wp2_with fail
              refine HTG.out.mono ?_
              rintro e w4 ⟨x4, rfl, hown, hb⟩
              have RO4 := Lib.hid (RO.out.on hb)
              have Y2 := Lib.hid (Z2.out.on hb)
              have Y3 := Lib.hid (Z3.out.on hb)
              have B4 := Lib.hid (bch HBW.out hb)
              have hsz4 : w.heap.size + 3 ≤ wo.heap.size := by have := Z3.out.lt; omega
              have hsz5 : w.heap.size + 3 ≤ w4.heap.size := Nat.le_trans hsz4 hb.size
              have HO4 : Hid (w4.ownsRow (w.heap.size + 3) 57 8 x4 (l ++ t).length (flatB (l ++ t))) := Lib.hid (own_base hown hsz4)
              obtain ⟨a4, c4, rfl⟩ := ownF_form hown
              obtain ⟨n4, hn4'⟩ : ∃ z, z = (l ++ t).length := ⟨_, rfl⟩
              rw [← hn4'] at HO4 ⊢
              have HN4 := Lib.hid hn4'
              obtain ⟨ar, cr, rfl⟩ := RO4.out.form
              obtain ⟨nr, hnr⟩ : ∃ z, z = r.length := ⟨_, rfl⟩
              obtain ⟨us, hu1, hu2⟩ := own_rows RO4.out hnr
              rw [← hnr] at RO4 hu1 ⊢
              have HNR := Lib.hid hnr
              have HU1 := Lib.hid hu1
              have HU2 := Lib.hid hu2
              have hnr20 : nr ≤ 20 := by omega
              obtain ⟨i0, hi, hz0, hz1, hz2⟩ := info_parts info55z
              clear RO Z2 Z3 HBW HTG hown hb hn4' hnr hu1 hu2 r0
              go_wp2_with (at_builtin; refine wpList_append_own _ rfl _ _ 25 rfl (w.heap.size + 3) 55 i0 (.slice none 0 0) 1 24 Tryz.underlying25 hi hz0 hz1 hz2 rfl (by decide) _ _ _ rfl (HU1.out.alloc _) ⟨w4.heap.size, 0, none⟩ 1 1 [.slice a4 n4 c4] rfl rfl (cell_one_new _ _ _) (by simp [Value.oneCell']) (by unfold maxLen; omega) (by omega) (by simp; omega) ?_; intro v' w5 hown' hgrow _; have HO := Lib.hid hown'; have HG0 := Lib.hid hgrow; clear hown' hgrow)
              have HG : Hid (World.grownBy (w4.alloc (.cells #[.slice a4 n4 c4] 55)) w5 (Value.slice ar nr cr).ownBlock) := HG0
              have lown : ∀ i, (Value.slice ar nr cr).ownBlock = some i → w.heap.size + 3 ≤ i := fun i e => (HU1.out.lt i e).1
              have hb12 : Below w4.heap.size w4 (w4.alloc (.cells #[.slice a4 n4 c4] 55)) := below_new _ _
              have hP : OwnR w5 (w.heap.size + 3) v' (r ++ [l ++ t]) := by
                refine OwnR.push (w := w4.alloc (.cells #[.slice a4 n4 c4] 55)) (x := .slice ar nr cr) (v := .slice a4 n4 c4) (RO4.out.on hb12) (by have h := owns_below HO4.out hb12; rw [← HN4.out]; exact h) HG.out us (fun us2 h1 h2 _ => ?_) (by rw [← HNR.out]; exact HO.out)
                have h1' : (w4.alloc (.cells #[.slice a4 n4 c4] 55)).ownsRow (w.heap.size + 3) 55 1 (.slice ar nr cr) nr us := HU1.out.alloc _
                have e2 : us2.length = nr := by rw [h2, HNR.out]
                rw [e2] at h1
                exact own_same h1' h1
              have HP := Lib.hid hP
              have q2 : Hid (Box w5 (w.heap.size + 1) 27 #[.slice (some ⟨g5, o5, none⟩) m cy]) := Lib.hid ((HG.out.block _ (by have := Y2.out.lt; simp; omega) (fun e => by have := lown _ e.symm; omega)).trans (Y2.out.alloc _))
              have q3 : Hid (Box w5 (w.heap.size + 2) 27 #[.slice none 0 0]) := Lib.hid ((HG.out.block _ (by have := Y3.out.lt; simp; omega) (fun e => by have := lown _ e.symm; omega)).trans (Y3.out.alloc _))
              have q4 : Hid (Below w.heap.size w w5) := Lib.hid ((B4.out.alloc B4.out.size _).grown HG.out (by have := B4.out.size; simp; omega) (fun i e => by have := lown i e; omega))
              clear hP hb12 lown
              go_roundw
              case rel => exact ⟨j + 1, jlt, by go_num, by rw [HNX.out]; exact HP, q2, q3, q4⟩
              case measure => simp [Lib.intOf]; omega
            · have j1 : ¬ ((j : Int) < (m : Int)) := by omega
              have HRW := Lib.hid (both_row HL.out j (b := b) (by have := HM.out; omega))
              rw [HRW.out] at RO
              go_wp2_with fail
              go_roundw
              case rel => exact ⟨k + 1, hlt, by go_num, RO, Z2, Z3, HBW⟩
              case measure => simp [Lib.intOf]; omega
        · have k1 : ¬ ((k : Int) < (n : Int)) := by omega
          have HTF : Hid (a.take k = a) := Lib.hid (List.take_of_length_le (by have := HN.out; omega))
          rw [HTF.out] at RO
          obtain ⟨ar, cr, rfl⟩ := RO.out.form
          obtain ⟨r, hr9⟩ : ∃ r, r = bothL a b := ⟨_, rfl⟩
          rw [← hr9] at RO
          have HR9 := Lib.hid hr9
          obtain ⟨nr, hnr⟩ : ∃ z, z = r.length := ⟨_, rfl⟩
          rw [← hnr] at RO
          rw [← hr9, ← hnr]
          have HLI := Lib.hid (limited_any r _ wq RO.out.rd)
          clear hr9 hnr HTF
          cases hf : fitsB r
          · rw [hf] at HLI
            rw [if_neg (by decide), if_neg (by decide)] at HLI
            have HFF := Lib.hid hf
            clear hf
            go_wp2_with fail
            refine HLI.out.mono ?_
            rintro e w6 ⟨rfl, hb⟩
            have q3 := Lib.hid (Z3.out.on hb)
            have B6 := Lib.hid (bch HBW.out hb)
            have p2 := q3.out.cell (k := 0) rfl
            have f2 := frozen_of_row w6 _ 0 _ _ q3.out
            clear hb Z3 HBW
            go_wp2_with fail
            refine bodyPost_ret (results_ver rfl _ _ (w.heap.size + 2) rfl #[.slice none 0 0] (run_loadVar_row _ (w.heap.size + 2) 27 27 #[.slice none 0 0] (0, 0) _ (q3.out.set (k := 0) _) Tryz.underlying27 rfl (info27 _))) rfl ⟨_, 3, rfl, .inr (.inl ⟨rfl, by rw [← HR9.out]; exact HFF.out, rfl, rfl⟩), B6.out.setCell (p := ⟨w.heap.size + 2, 0, none⟩) (by show w.heap.size ≤ w.heap.size + 2; omega) _⟩
          · rw [hf] at HLI
            rw [if_pos rfl, if_pos rfl] at HLI
            have HFF := Lib.hid hf
            clear hf
            go_wp2_with fail
            refine HLI.out.mono ?_
            rintro e w6 ⟨rfl, hb⟩
            have q3 := Lib.hid (Z3.out.on hb)
            have B6 := Lib.hid (bch HBW.out hb)
            have R6 := Lib.hid (RO.out.on hb)
            have p2 := q3.out.cell (k := 0) rfl
            have f2 := frozen_of_row w6 _ 0 _ _ q3.out
            clear hb Z3 HBW RO
            go_wp2_with fail
            refine bodyPost_ret (results_ver rfl _ _ (w.heap.size + 2) rfl #[.slice ar nr cr] (run_loadVar_row _ (w.heap.size + 2) 27 27 #[.slice ar nr cr] (0, 0) _ (q3.out.set (k := 0) _) Tryz.underlying27 rfl (info27 _))) rfl ⟨_, 0, rfl, .inl ⟨rfl, by rw [← HR9.out]; exact HFF.out, rfl, by rw [← HR9.out]; exact (R6.out.apart (grownBy_setCell' w6 (w.heap.size + 2) _) (fun j e => by cases e; omega)).base (by omega)⟩, B6.out.setCell (p := ⟨w.heap.size + 2, 0, none⟩) (by show w.heap.size ≤ w.heap.size + 2; omega) _⟩
end Go.Proofs.YtlfehjjnepiljaaGreatDoor

namespace Go.Proofs.YtlfehjjnepiljaaGreatDoor
open Go.RowKit Go.Shelf

theorem own_set {w : World} {B e g n c : Nat} {xs : List Value} (h : w.ownsRow B e 1 (.slice (some ⟨g, 0, none⟩) n c) n xs) (k : Nat) (v : Value) : (w.setCell ⟨g, k, none⟩ v).ownsRow B e 1 (.slice (some ⟨g, 0, none⟩) n c) n (xs.set k v) := by
  refine ⟨by rw [List.length_set]; exact h.1, ?_⟩
  rcases h.2 with ⟨h1, _⟩ | ⟨g', c', cur, h1, hB, hh, hn, hm, hs, ht⟩
  · cases h1
  · cases h1
    refine .inr ⟨g, c, cur.setIfInBounds k v, rfl, hB, heap_setCell_same w g k cur e v hh, hn, hm, by rw [Array.size_setIfInBounds]; exact hs, ?_⟩
    rw [Array.toList_setIfInBounds, List.take_set, ht]
theorem own_box {w : World} {B e n : Nat} {x : Value} {xs : List Value} (h : w.ownsRow B e 1 x n xs) (h0 : 0 < n) : ∃ (g c : Nat) (cur : Array Value), x = .slice (some ⟨g, 0, none⟩) n c ∧ B ≤ g ∧ Box w g e cur ∧ n ≤ c ∧ c ≤ maxLen ∧ ∀ (k : Nat) (u : Value), xs[k]? = some u → cur[k]? = some u := by
  rcases h.2 with ⟨_, h1⟩ | ⟨g, c, cur, h1, hB, hh, hn, hm, hs, ht⟩
  · omega
  · refine ⟨g, c, cur, h1, hB, hh, hn, hm, fun k u hu => ?_⟩
    rw [← ht, List.getElem?_take] at hu
    split at hu
    · simpa using hu
    · cases hu
/-- So far of the rows: those before k are clones, the others as they were. -/
def EithK (w0 w : World) (B : Nat) (x : Value) (ls : List (List Bd)) (k : Nat) : Prop :=
  ∃ vs : List Value, w.ownsRow B 55 1 x ls.length vs ∧ vs.length = ls.length ∧ (∀ (i : Nat) (v : Value) (l : List Bd), i < k → vs[i]? = some v → ls[i]? = some l → w.ownsRow B 57 8 v l.length (flatB l)) ∧ ∀ (i : Nat) (v : Value) (l : List Bd), vs[i]? = some v → ls[i]? = some l → RdB w0 v l ∨ i < k
theorem eithK_zero {w0 w : World} {B : Nat} {x : Value} {ls : List (List Bd)} (h : HalfR w0 w B x ls) : EithK w0 w B x ls 0 := by
  obtain ⟨vs, h1, h2, h3⟩ := h
  exact ⟨vs, by rw [← h2]; exact h1, h2, fun i v l h => absurd h (Nat.not_lt_zero _), fun i v l hv hl => .inl (h3 i v l hv hl)⟩
theorem eithK_done {w0 w : World} {B : Nat} {x : Value} {ls : List (List Bd)} {k : Nat} (h : EithK w0 w B x ls k) (hk : ls.length ≤ k) : OwnR w B x ls := by
  obtain ⟨vs, h1, h2, h3, h4⟩ := h
  have h5 : ∀ (i : Nat) (v : Value) (l : List Bd), vs[i]? = some v → ls[i]? = some l → w.ownsRow B 57 8 v l.length (flatB l) := fun i v l hv hl => h3 i v l (by have := (List.getElem?_eq_some_iff.1 hl).1; omega) hv hl
  refine ⟨vs, by rw [h2]; exact h1, h2, fun v hv => ?_, h5⟩
  obtain ⟨i, hi⟩ := List.mem_iff_getElem?.1 hv
  have hlt := (List.getElem?_eq_some_iff.1 hi).1
  obtain ⟨l, hl⟩ : ∃ l, ls[i]? = some l := ⟨_, List.getElem?_eq_getElem (by omega)⟩
  obtain ⟨a, c, rfl⟩ := ownF_form (h5 i v l hi hl)
  rfl
theorem EithK.on {w0 w w' : World} {B : Nat} {x : Value} {ls : List (List Bd)} {k : Nat} (h : EithK w0 w B x ls k) (hb : Below w.heap.size w w') : EithK w0 w' B x ls k := by
  obtain ⟨vs, h1, h2, h3, h4⟩ := h
  exact ⟨vs, owns_below h1 hb, h2, fun i v l hi hv hl => owns_below (h3 i v l hi hv hl) hb, h4⟩
/-- The k-th row is stored. -/
theorem EithK.step {w0 w : World} {B g c : Nat} {ls : List (List Bd)} {k : Nat} {l : List Bd} {v : Value} (h : EithK w0 w B (.slice (some ⟨g, 0, none⟩) ls.length c) ls k) (hl : ls[k]? = some l) (hv : w.ownsRow B 57 8 v l.length (flatB l)) : EithK w0 (w.setCell ⟨g, k, none⟩ v) B (.slice (some ⟨g, 0, none⟩) ls.length c) ls (k + 1) := by
  obtain ⟨vs, h1, h2, h3, h4⟩ := h
  have far : ∀ {u : Value} {m : Nat} {us : List Value}, w.ownsRow B 57 8 u m us → (w.setCell ⟨g, k, none⟩ v).ownsRow B 57 8 u m us := fun {u m us} hu => by
    refine ownsRow_setCell_other hu ?_ v
    rcases own_kinds h1 hu (by decide) with e | e
    · rw [e]; exact fun h => by cases h
    · exact e
  refine ⟨vs.set k v, own_set h1 k v, by rw [List.length_set]; exact h2, fun i u t hi hu ht => ?_, fun i u t hu ht => ?_⟩
  · by_cases e : i = k
    · subst e
      have hlt := (List.getElem?_eq_some_iff.1 ht).1
      rw [List.getElem?_set_self (by omega)] at hu
      cases hu
      rw [hl] at ht
      cases ht
      exact far hv
    · rw [List.getElem?_set_ne (by omega)] at hu
      exact far (h3 i u t (by omega) hu ht)
  · by_cases e : i = k
    · exact .inr (by omega)
    · rw [List.getElem?_set_ne (by omega)] at hu
      rcases h4 i u t hu ht with h | h
      · exact .inl h
      · exact .inr (by omega)
theorem EithK.open {w0 w : World} {B : Nat} {x : Value} {ls : List (List Bd)} {k : Nat} {l : List Bd} (h : EithK w0 w B x ls k) (hl : ls[k]? = some l) : ∃ g c cur v, x = .slice (some ⟨g, 0, none⟩) ls.length c ∧ B ≤ g ∧ ls.length ≤ c ∧ c ≤ maxLen ∧ Box w g 55 cur ∧ cur[k]? = some v ∧ RdB w0 v l := by
  obtain ⟨vs, h1, h2, h3, h4⟩ := h
  have hlt := (List.getElem?_eq_some_iff.1 hl).1
  obtain ⟨g, c, cur, e, hB, hh, hn, hm, hc⟩ := own_box h1 (by omega)
  obtain ⟨v, hv⟩ : ∃ v, vs[k]? = some v := ⟨_, List.getElem?_eq_getElem (by omega)⟩
  rcases h4 k v l hv hl with h | h
  · exact ⟨g, c, cur, v, e, hB, hn, hm, hh, hc k v hv, h⟩
  · omega
theorem EithK.form {w0 w : World} {B : Nat} {x : Value} {ls : List (List Bd)} {k : Nat} (h : EithK w0 w B x ls k) : ∃ a c, x = .slice a ls.length c := by
  obtain ⟨vs, h1, _⟩ := h
  exact ownF_form h1

set_option maxRecDepth 100000 in
set_option maxHeartbeats 8000000 in
theorem either_any (a b : List (List Bd)) (x y : Value) (w : World) (hx : RdR w x a) (hy : RdR w y b) : Calls Tryz.prog 27 #[.agg #[x], .agg #[y]] w (JoinV (spanOk a && spanOk b) (a ++ b) w) := by
  obtain ⟨ax, cx, rfl, hlx, hmx, hcx⟩ := id hx.open
  obtain ⟨ay, cy, rfl, hly, hmy, hcy⟩ := id hy.open
  have HX := Lib.hid hx
  have HY := Lib.hid hy
  have HCX := Lib.hid hcx
  have HCY := Lib.hid hcy
  obtain ⟨n, hn⟩ : ∃ n, n = a.length := ⟨_, rfl⟩
  obtain ⟨m, hm⟩ : ∃ n, n = b.length := ⟨_, rfl⟩
  rw [← hn] at hlx HX HCX ⊢
  rw [← hm] at hly HY HCY ⊢
  have HN := Lib.hid hn
  have HM := Lib.hid hm
  unfold maxLen at hmx hmy
  clear hx hy hcx hcy hn hm
  obtain ⟨w1, hw1⟩ : ∃ q, q = ((w.alloc (.cells #[.slice ax n cx] 27)).alloc (.cells #[.slice ay m cy] 27)).alloc (.cells #[.slice none 0 0] 27) := ⟨_, rfl⟩
  have X1 : Hid (Box w1 w.heap.size 27 #[.slice ax n cx]) := Lib.hid (by rw [hw1]; exact (box_new.alloc _).alloc _)
  have X2 : Hid (Box w1 (w.heap.size + 1) 27 #[.slice ay m cy]) := Lib.hid (by rw [hw1]; exact Box.alloc (heap_alloc2_new w _ _) _)
  have X3 : Hid (Box w1 (w.heap.size + 2) 27 #[.slice none 0 0]) := Lib.hid (by
    have := box_new (w := (w.alloc (.cells #[.slice ax n cx] 27)).alloc (.cells #[.slice ay m cy] 27)) (t := 27) (cs := #[.slice none 0 0])
    simp only [World.size_alloc] at this
    rw [hw1]; exact this)
  have B1 : Hid (Below w.heap.size w w1) := Lib.hid (by rw [hw1]; exact (((Below.refl _ w).alloc (Nat.le_refl _) _).alloc (by simp) _).alloc (by simp; omega) _)
  obtain ⟨oa, hoa⟩ : ∃ o, o = spanOk a := ⟨_, rfl⟩
  obtain ⟨ob, hob⟩ : ∃ o, o = spanOk b := ⟨_, rfl⟩
  have HA := Lib.hid (svalids_of hoa (HX.out.on B1.out))
  have HB := Lib.hid (fun W (h : RdR W (.slice ay m cy) b) => svalids_of hob h)
  have HOA := Lib.hid hoa
  have HOB := Lib.hid hob
  rw [← hoa, ← hob]
  clear hoa hob
  go_enter Tryz.func27, Tryz.ntmps27
  go_upto_region 1 with fail
  rw [← hw1]
  clear hw1
  cases oa with
  | false =>
    rw [Bool.false_and]
    have p0 := X1.out.cell (k := 0) rfl
    go_wp2_with fail
    refine HA.out.mono ?_
    rintro e w2 ⟨rfl, hb⟩
    have Y3 := Lib.hid (X3.out.on hb)
    have B2 := Lib.hid (bch B1.out hb)
    clear hb
    go_wp2_with (first
      | (refine builds_none27 rfl rfl ?_)
      | (refine wpList_store_row rfl 27 (.tmp 4) (.tmp 17) rfl (w.heap.size + 2) #[.slice none 0 0] rfl rfl 27 _ Y3.out (info27 _) rfl (slice_one _ _ _) ?_))
    refine bodyPost_ret (results_ver rfl _ _ (w.heap.size + 2) rfl #[.slice none 0 0] (run_loadVar_row _ (w.heap.size + 2) 27 27 #[.slice none 0 0] (0, 0) _ (Y3.out.row _) Tryz.underlying27 rfl (info27 _))) rfl ⟨_, 150, rfl, .inr (.inr ⟨rfl, rfl, rfl⟩), below_row B2.out (by omega) _⟩
  | true =>
    have p0 := X1.out.cell (k := 0) rfl
    go_wp2_with fail
    refine HA.out.mono ?_
    rintro e w2 ⟨rfl, hb⟩
    have Y1 := Lib.hid (X1.out.on hb)
    have Y2 := Lib.hid (X2.out.on hb)
    have Y3 := Lib.hid (X3.out.on hb)
    have B2 := Lib.hid (bch B1.out hb)
    have p1 := Y2.out.cell (k := 0) rfl
    have HBW := Lib.hid (HB.out w2 (HY.out.on B2.out))
    clear hb X1 X2 X3 B1 p0
    go_wp2_with fail
    refine HBW.out.mono ?_
    rintro e w3 ⟨rfl, hb⟩
    have Z1 := Lib.hid (Y1.out.on hb)
    have Z2 := Lib.hid (Y2.out.on hb)
    have Z3 := Lib.hid (Y3.out.on hb)
    have B3 := Lib.hid (bch B2.out hb)
    clear hb Y1 Y2 Y3 B2 p1 HBW HA HB
    cases ob with
    | false =>
      go_wp2_with (first
        | (refine builds_none27 rfl rfl ?_)
        | (refine wpList_store_row rfl 27 (.tmp 4) (.tmp 17) rfl (w.heap.size + 2) #[.slice none 0 0] rfl rfl 27 _ Z3.out (info27 _) rfl (slice_one _ _ _) ?_))
      refine bodyPost_ret (results_ver rfl _ _ (w.heap.size + 2) rfl #[.slice none 0 0] (run_loadVar_row _ (w.heap.size + 2) 27 27 #[.slice none 0 0] (0, 0) _ (Z3.out.row _) Tryz.underlying27 rfl (info27 _))) rfl ⟨_, 150, rfl, .inr (.inr ⟨rfl, rfl, rfl⟩), below_row B3.out (by omega) _⟩
    | true =>
      have hn4 : n ≤ 4 := by rw [HN.out]; exact (span_ok HOA.out.symm).1.2
      have hm4 : m ≤ 4 := by rw [HM.out]; exact (span_ok HOB.out.symm).1.2
      have p0 := Z1.out.cell (k := 0) rfl
      have p1 := Z2.out.cell (k := 0) rfl
      have HSZ : Hid (w.heap.size + 3 ≤ w3.heap.size) := Lib.hid (by have := Z3.out.lt; omega)
      have HTG := Lib.hid (togetherR_any a b _ _ w3 (HX.out.on B3.out) (HY.out.on B3.out) (by have := HN.out; have := HM.out; omega))
      obtain ⟨r, hr9⟩ : ∃ r, r = a ++ b := ⟨_, rfl⟩
      rw [← hr9] at HTG ⊢
      have hnr8 : r.length ≤ 8 := by rw [hr9, List.length_append, ← HN.out, ← HM.out]; omega
      have hrow : ∀ (i : Nat) (t : List Bd), r[i]? = some t → t.length ≤ 4 := fun i t ht => by
        have hmem := List.mem_of_getElem? ht
        rw [hr9] at hmem
        rcases List.mem_append.1 hmem with h | h
        · exact (row_ok ((span_ok HOA.out.symm).2 t h)).1
        · exact (row_ok ((span_ok HOB.out.symm).2 t h)).1
      have HROW := Lib.hid hrow
      have HR9 := Lib.hid hr9
      clear hrow hr9
      go_wp2_with fail
      refine HTG.out.mono ?_
      rintro e w5 ⟨x5, rfl, hhalf, hb⟩
      have HE0 : Hid (EithK w3 w5 w3.heap.size x5 r 0) := Lib.hid (by
        obtain ⟨vs, h1, h2, h3⟩ := hhalf
        exact eithK_zero ⟨vs, h1, h2, h3⟩)
      have q3 := Lib.hid (Z3.out.on hb)
      have B5 := Lib.hid (bch B3.out hb)
      have HB35 := Lib.hid hb
      obtain ⟨a5, c5, rfl⟩ := HE0.out.form
      obtain ⟨nr, hnr⟩ : ∃ z, z = r.length := ⟨_, rfl⟩
      rw [← hnr] at HE0 hnr8 ⊢
      have HNR := Lib.hid hnr
      clear hhalf hb Z1 Z2 Z3 B3 p0 p1 HTG hnr
      go_wp2_with fail
      go_loopw [7, 8, 25, 26, 27, 28, 29, 30, 31, 32, 33, 34, 35] (fun _ _ i _ _ _ _ _ _ _ _ _ _ W => ∃ k : Nat, k ≤ nr ∧ i = .int .i64 k ∧ Hid (EithK w3 W w3.heap.size (.slice a5 nr c5) r k) ∧ Hid (Box W (w.heap.size + 2) 27 #[.slice none 0 0]) ∧ Hid (Below w.heap.size w W) ∧ Hid (Below w3.heap.size w3 W)) (fun _ _ i _ _ _ _ _ _ _ _ _ _ _ => nr - (Lib.intOf i).toNat)
      case atStart => exact ⟨0, Nat.zero_le _, rfl, HE0, q3, B5, HB35⟩
      case round =>
        clear HE0 q3 B5 HB35
        obtain ⟨k, hk, rfl, HE, Z3, HBW, H3W⟩ := hrel
        obtain ⟨wq, hwq⟩ : ∃ q, q = wr := ⟨_, rfl⟩
        rw [← hwq] at HE Z3 HBW H3W ⊢
        clear hwq
        by_cases hlt : k < nr
        · obtain ⟨l, hl⟩ : ∃ v, r[k]? = some v := ⟨_, List.getElem?_eq_getElem (by have := HNR.out; omega)⟩
          have hop := HE.out.open hl
          rw [← HNR.out] at hop
          obtain ⟨g, c6, cur, v, e6, hBg, hnc, hcm, hbx, hcu, hrd⟩ := hop
          cases e6
          have HBX := Lib.hid hbx
          have HCU := Lib.hid hcu
          have HRD := Lib.hid hrd
          have HL := Lib.hid hl
          have r0 := hbx.cell hcu
          obtain ⟨a2, c2, rfl, _⟩ := id hrd
          unfold maxLen at hcm
          have hl4 := HROW.out k l hl
          have HCL := Lib.hid (cloneB_any l _ wq (HRD.out.on H3W.out) (by omega))
          obtain ⟨n2, hn2⟩ : ∃ t, t = l.length := ⟨_, rfl⟩
          rw [← hn2] at r0 HRD HCU HCL hl4
          have HN2 := Lib.hid hn2
          have k1 : (k : Int) < (nr : Int) := by omega
          have k2 : (0 : Int) ≤ (k : Int) := by omega
          have k4 : IntKind.i64.wrap ((k : Int) + 1) = (k : Int) + 1 := IntWalk.i64_in _ (by omega)
          clear hl hbx hcu hrd hn2
          go_wp2_with fail
          refine HCL.out.mono ?_
          rintro e w6 ⟨x6, rfl, hown, hb⟩
          have Y3 := Lib.hid (Z3.out.on hb)
          have YX := Lib.hid (HBX.out.on hb)
          have B6 := Lib.hid (bch HBW.out hb)
          have B36 := Lib.hid (bch H3W.out hb)
          have HE6 := Lib.hid (HE.out.on hb)
          have hsz4 : w3.heap.size ≤ wq.heap.size := H3W.out.size
          have HO6 : Hid (w6.ownsRow w3.heap.size 57 8 x6 l.length (flatB l)) := Lib.hid (by rw [← HN2.out]; exact own_base hown hsz4)
          have r1 := YX.out.cell HCU.out
          have f1 := frozen_of_row w6 g k _ _ YX.out
          obtain ⟨a6, c7, rfl⟩ := ownF_form hown
          clear hown hb HCL Z3 HBX HBW H3W HE r0
          go_wp2_with fail
          have s1 : Hid (EithK w3 (w6.setCell ⟨g, k, none⟩ (.slice a6 n2 c7)) w3.heap.size (.slice (some ⟨g, 0, none⟩) nr c5) r (k + 1)) := Lib.hid (by
            have h := HE6.out
            rw [HNR.out] at h ⊢
            exact h.step HL.out HO6.out)
          have s2 := Lib.hid (Y3.out.far (p := ⟨g, k, none⟩) (by have := HSZ.out; show w.heap.size + 2 ≠ g; omega) (.slice a6 n2 c7))
          have s3 := Lib.hid (B6.out.setCell (p := ⟨g, k, none⟩) (by have := HSZ.out; show w.heap.size ≤ g; omega) (.slice a6 n2 c7))
          have s4 := Lib.hid (B36.out.setCell (p := ⟨g, k, none⟩) (by show w3.heap.size ≤ g; omega) (.slice a6 n2 c7))
          go_roundw
          case rel => exact ⟨k + 1, hlt, by go_num, s1, s2, s3, s4⟩
          case measure => simp [Lib.intOf]; omega
        · have k1 : ¬ ((k : Int) < (nr : Int)) := by omega
          have RO : Hid (OwnR wq (w.heap.size + 3) (.slice a5 nr c5) r) := Lib.hid (OwnR.base (eithK_done (k := k) (w0 := w3) (by have h := HE.out; rw [HNR.out] at h ⊢; exact h) (by have := HNR.out; omega)) HSZ.out)
          have HLI := Lib.hid (limited_any r _ wq RO.out.rd)
          cases hf : fitsB r
          · rw [hf] at HLI
            rw [if_neg (by decide), if_neg (by decide)] at HLI
            have HFF := Lib.hid hf
            clear hf
            go_wp2_with fail
            refine HLI.out.mono ?_
            rintro e w6 ⟨rfl, hb⟩
            have q3 := Lib.hid (Z3.out.on hb)
            have B6 := Lib.hid (bch HBW.out hb)
            have p2 := q3.out.cell (k := 0) rfl
            have f2 := frozen_of_row w6 _ 0 _ _ q3.out
            clear hb Z3 HBW
            go_wp2_with fail
            refine bodyPost_ret (results_ver rfl _ _ (w.heap.size + 2) rfl #[.slice none 0 0] (run_loadVar_row _ (w.heap.size + 2) 27 27 #[.slice none 0 0] (0, 0) _ (q3.out.set (k := 0) _) Tryz.underlying27 rfl (info27 _))) rfl ⟨_, 3, rfl, .inr (.inl ⟨rfl, by rw [← HR9.out]; exact HFF.out, rfl, rfl⟩), B6.out.setCell (p := ⟨w.heap.size + 2, 0, none⟩) (by show w.heap.size ≤ w.heap.size + 2; omega) _⟩
          · rw [hf] at HLI
            rw [if_pos rfl, if_pos rfl] at HLI
            have HFF := Lib.hid hf
            clear hf
            go_wp2_with fail
            refine HLI.out.mono ?_
            rintro e w6 ⟨rfl, hb⟩
            have q3 := Lib.hid (Z3.out.on hb)
            have B6 := Lib.hid (bch HBW.out hb)
            have R6 := Lib.hid (RO.out.on hb)
            have p2 := q3.out.cell (k := 0) rfl
            have f2 := frozen_of_row w6 _ 0 _ _ q3.out
            clear hb Z3 HBW RO
            go_wp2_with fail
            refine bodyPost_ret (results_ver rfl _ _ (w.heap.size + 2) rfl #[.slice a5 nr c5] (run_loadVar_row _ (w.heap.size + 2) 27 27 #[.slice a5 nr c5] (0, 0) _ (q3.out.set (k := 0) _) Tryz.underlying27 rfl (info27 _))) rfl ⟨_, 0, rfl, .inl ⟨rfl, by rw [← HR9.out]; exact HFF.out, rfl, by rw [← HR9.out]; exact (R6.out.apart (grownBy_setCell' w6 (w.heap.size + 2) _) (fun j e => by cases e; omega)).base (by have := HSZ.out; omega)⟩, B6.out.setCell (p := ⟨w.heap.size + 2, 0, none⟩) (by show w.heap.size ≤ w.heap.size + 2; omega) _⟩
end Go.Proofs.YtlfehjjnepiljaaGreatDoor

namespace Go.Proofs.YtlfehjjnepiljaaGreatDoor
open Go.RowKit Go.Shelf Go.Maps

theorem own_box27 {w : World} {B s n g : Nat} {e : TypeId} {x : Value} {xs : List Value} {cs : Array Value} (h : w.ownsRow B e s x n xs) (hb : Box w g 27 cs) (hne : e ≠ 27) (k : Nat) (v : Value) : (w.setCell ⟨g, k, none⟩ v).ownsRow B e s x n xs := by
  refine ownsRow_setCell_other h ?_ v
  rcases h.2 with ⟨rfl, _⟩ | ⟨g', c, cur, rfl, _, hh, _⟩
  · exact fun e => by cases e
  · intro e2
    have : g' = g := by simpa [Value.ownBlock] using e2
    subst this
    unfold Box at hb
    rw [hh] at hb
    cases hb
    exact hne rfl
theorem OwnR.box {w : World} {B g : Nat} {x : Value} {ls : List (List Bd)} {cs : Array Value} (h : OwnR w B x ls) (hb : Box w g 27 cs) (k : Nat) (v : Value) : OwnR (w.setCell ⟨g, k, none⟩ v) B x ls := by
  obtain ⟨vs, h1, h2, h4, h3⟩ := h
  exact ⟨vs, own_box27 h1 hb (by decide) k v, h2, h4, fun i v' l hv hl => own_box27 (h3 i v' l hv hl) hb (by decide) k v⟩
/-- An entry of a map literal. -/
theorem wpList_insert_own {H : Type} {P : Program} (w : World) {ops : Array Oper} {rest : List Oper} {o : Oper} {a : Act} {Q : Exit → Act → World → Prop}
    (hg : o.guard = none) (m x v : Operand) (t : TypeId) (hop : o.op = Op.insert t m x v)
    (k e : TypeId) (K : Keyed P k) (ht : P.underlying t = some (.map k e)) (R : Value → Option (DataW H × List MemPlace)) (b n : Nat) (D : DataW H)
    (hm : a.eval m = .map (some b)) (hown : w.ownsMap P k R b n D) (hn : n < maxLen) (key val : Value) (kl : Lit) (hx : a.eval x = key) (hv : a.eval v = val) (hkey : keyOf P k key = some kl)
    (d : DataW H) (ps : List MemPlace) (hval : R val = some (d, ps))
    (hK : ∀ w', w'.ownsMap P k R b (n + 1) (D.put kl d) → w.grownBy w' (some b) → wpList P ops Q rest (a.put o.dst undef) w') :
    wpList P ops Q (o :: rest) a w := by
  refine wpList_plain hg fun K' hK' => ?_
  obtain ⟨w', hrun, r1, r2⟩ := hown.update K ht hn hkey hval
  unfold Oper.wp
  simp [execOp, hop, hm, hx, hv, hrun, Result.andThen]
  exact hK' _ _ (hK w' r1 r2)
theorem law3 : Keyed Tryz.prog 3 := int_keyed Tryz.underlying3
/-- The map of the signs and the other signs. -/
def signs : DataW Unit := (((DataW.map []).put (.int .i64 1) (.lit (.int .i64 2))).put (.int .i64 3) (.lit (.int .i64 6))).put (.int .i64 4) (.lit (.int .i64 5))
theorem signs_at {x c : Int} (h : ∀ zd, signs.atKey (.int .i64 x) zd = .lit (.int .i64 c)) : (x = 1 ∧ c = 2) ∨ (x = 3 ∧ c = 6) ∨ (x = 4 ∧ c = 5) := by
  have e : signs = .map [(.int .i64 1, .lit (.int .i64 2)), (.int .i64 3, .lit (.int .i64 6)), (.int .i64 4, .lit (.int .i64 5))] := by rfl
  rw [e] at h
  unfold DataW.atKey at h
  by_cases h1 : 1 = x
  · subst h1
    have := h .nil
    simp [List.find?, Lit.sameKey] at this
    exact .inl ⟨rfl, this.symm⟩
  · by_cases h3 : 3 = x
    · subst h3
      have := h .nil
      simp [List.find?, Lit.sameKey] at this
      exact .inr (.inl ⟨rfl, this.symm⟩)
    · by_cases h4 : 4 = x
      · subst h4
        have := h .nil
        simp [List.find?, Lit.sameKey] at this
        exact .inr (.inr ⟨rfl, this.symm⟩)
      · have := h .nil
        simp [List.find?, Lit.sameKey, h1, h3, h4] at this
/-- A span of one bound. -/
theorem rdR_one {W : World} {g1 g2 : Nat} {b : Bd} (h1 : Box W g1 57 b.arr) (h2 : Box W g2 55 #[.slice (some ⟨g1, 0, none⟩) 1 1]) : RdR W (.slice (some ⟨g2, 0, none⟩) 1 1) [[b]] := by
  refine ⟨[.slice (some ⟨g1, 0, none⟩) 1 1], ⟨_, _, rfl, by simp, by simp [maxLen], fun _ => ⟨g2, 0, rfl, h2.lt, fun j u hj => ?_⟩⟩, rfl, fun i v l hv hl => ?_⟩
  · have : j = 0 := by
      have := (List.getElem?_eq_some_iff.1 hj).1
      simpa using this
    subst this
    simp at hj
    subst hj
    exact h2.cell (k := 0) rfl
  · have : i = 0 := by
      have := (List.getElem?_eq_some_iff.1 hv).1
      simpa using this
    subst this
    simp at hv hl
    subst hv hl
    refine ⟨_, _, rfl, by simp, by simp [maxLen], fun _ => ⟨g1, 0, rfl, h1.lt, fun j u hj => ?_⟩⟩
    have e : flatB [b] = b.arr.toList := by
      simp [flatB, Bd.arr]
      rfl
    rw [e] at hj
    rw [Nat.zero_add]
    exact h1.cell (by rw [← Array.getElem?_toList]; exact hj)
theorem has_other {x c : Int} {u v : Ver} (h : (x = 1 ∧ c = 2) ∨ (x = 3 ∧ c = 6) ∨ (x = 4 ∧ c = 5)) (hu : u.ok = true) (hv : v.ok = true) : hasS [[⟨x, u⟩]] v = !hasS [[⟨c, u⟩]] v := by
  have one : ∀ k : Int, 1 ≤ k ∧ k ≤ 6 → hasS [[⟨k, u⟩]] v = meetsB ⟨k, u⟩ v := fun k hk => by
    unfold hasS hasL meetsL
    rw [one_ok hk hu, hv]
    simp
  obtain ⟨h1, h2, h3⟩ := other_sign v u
  rw [one x (by omega), one c (by omega)]
  rcases h with ⟨rfl, rfl⟩ | ⟨rfl, rfl⟩ | ⟨rfl, rfl⟩
  · cases e : meetsB ⟨1, u⟩ v <;> cases e2 : meetsB ⟨2, u⟩ v <;> simp_all
  · cases e : meetsB ⟨3, u⟩ v <;> cases e2 : meetsB ⟨6, u⟩ v <;> simp_all
  · cases e : meetsB ⟨4, u⟩ v <;> cases e2 : meetsB ⟨5, u⟩ v <;> simp_all
theorem hasS_both {a b : List (List Bd)} (ha : spanOk a = true) (hb : spanOk b = true) (hf : fitsB (bothL a b) = true) (v : Ver) : hasS (bothL a b) v = (hasS a v && hasS b v) := by
  unfold hasS
  rw [both_ok ha hb hf, ha, hb, has_both]
  cases v.ok <;> simp
theorem hasS_either {a b : List (List Bd)} (ha : spanOk a = true) (hb : spanOk b = true) (hf : fitsB (a ++ b) = true) (v : Ver) : hasS (a ++ b) v = (hasS a v || hasS b v) := by
  unfold hasS
  rw [either_ok ha hb hf, ha, hb, has_either]
  cases v.ok <;> simp
/-- What Both and Either handed back, for one who asks where there is no error. -/
theorem joinV_use {ok : Bool} {r : List (List Bd)} {w w' : World} {e : Ending} (h : JoinV ok r w e w') : ∃ (a : Option Addr) (n c : Nat) (z : Int), e = .returned (.tuple #[.agg #[.slice a n c], .int .i64 z]) ∧ (z = 0 → ok = true ∧ fitsB r = true ∧ RdR w' (.slice a n c) r) ∧ Below w.heap.size w w' := by
  obtain ⟨x, z, rfl, hz, hb⟩ := h
  rcases hz with ⟨h1, h2, h3, h4⟩ | ⟨_, _, h3, h4⟩ | ⟨_, h3, h4⟩
  · obtain ⟨a, c, rfl⟩ := h4.form
    exact ⟨a, _, c, z, rfl, fun _ => ⟨h1, h2, h4.rd⟩, hb⟩
  · subst h4
    exact ⟨_, _, _, z, rfl, fun h => absurd h (by omega), hb⟩
  · subst h4
    exact ⟨_, _, _, z, rfl, fun h => absurd h (by omega), hb⟩
end Go.Proofs.YtlfehjjnepiljaaGreatDoor
