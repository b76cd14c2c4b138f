/- Proved here: Sort of puncheonref04 at a row of at most twelve versions: those that may be, in order. -/
import Derived.Test.YtjekibhaabkecaaDoorUniq
import Derived.Test.YtjekibhaabkecaaDoorRefC
import Derived.Maps.AppendAt
import Derived.Laws.OwnMore
namespace Go.Proofs.YtjekibhaabkecaaDoor
open Go.RowKit Go.Shelf

/-- A slice that reads as these versions, where an append takes them from. -/
def Src (w : World) (x : Value) (m : List Ver) : Prop := (x = .slice none 0 0 ∧ m = []) ∨ ∃ g o c, x = .slice (some ⟨g, o, none⟩) m.length c ∧ ∀ (j : Nat) (u : Value), (flatV m)[j]? = some u → w.cell? ⟨g, o + j, none⟩ = some u
theorem wp_append7 {op : Oper} {a : Act} {w : World} {K : Act → World → Prop} {Q : Exit → Act → World → Prop} {ops : Array Oper} (hw : Region.wanted op (yielded ops a.tmps) = true) (s x : Operand)
    (ho : op.op = .call { callee := .builtin .append, args := #[s, x], argTypes := #[33, 33] }) (base : Nat) (v vx : Value) (l m : List Ver) (hs : a.eval s = v) (hown : w.ownsRow base 26 7 v l.length (flatV l)) (hx : a.eval x = vx) (hsrc : Src w vx m)
    (hb : base ≤ w.heap.size) (hl : l.length + m.length ≤ 1000)
    (h : ∀ v' w', w'.ownsRow base 26 7 v' (l ++ m).length (flatV (l ++ m)) → w.grownBy w' v.ownBlock → K (a.put op.dst v') w') : if Region.wanted op (yielded ops a.tmps) = true then op.wp Tryd.prog a w K Q else K (a.put op.dst undef) w := by
  rw [if_pos hw]
  obtain ⟨i0, hi, hz0, hz1, hz2⟩ := info_parts info26z
  rcases hsrc with ⟨rfl, rfl⟩ | ⟨g, o, c, rfl, hc⟩
  · have hr := run_append_owned_none (P := Tryd.prog) w base 33 op.type 26 i0 7 Tryd.underlying33 hi v l.length (flatV l) hown
    unfold Oper.wp execOp
    simp only [ho, resolve, invoke, builtin, Sem.run_bind, Sem.run_pure, Result.andThen_ok, List.map_toArray, List.map_cons, List.map_nil, hs, hx, hr]
    exact h v w (by rw [List.append_nil]; exact hown) ⟨rfl, rfl, rfl, Nat.le_refl _, fun _ _ _ => rfl⟩
  · obtain ⟨v', w', hr, h2, h3, _⟩ := run_append_own_at (P := Tryd.prog) w base 33 op.type 26 i0 (.agg Ver.zero.arr) 7 64 Tryd.underlying33 hi hz0 hz1 hz2 rfl (by decide) v l.length (flatV l) hown ⟨g, o, none⟩ m.length c (flatV m) (flatV_len m) (fun j u hu => by rw [add_to]; exact hc j u hu) (flatV_one m) (by unfold maxLen; omega) (by omega) hb
    unfold Oper.wp execOp
    simp only [ho, resolve, invoke, builtin, Sem.run_bind, Sem.run_pure, Result.andThen_ok, List.map_toArray, List.map_cons, List.map_nil, hs, hx, hr]
    exact h v' w' (by rw [List.length_append, flatV_append]; exact h2) h3
theorem flatV_take (l : List Ver) (k : Nat) : flatV (l.take k) = (flatV l).take (k * 7) := by
  induction l generalizing k with
  | nil => simp [flatV]
  | cons v l ih =>
    cases k with
    | zero => simp [flatV]
    | succ k =>
      rw [List.take_succ_cons, flatV_cons, flatV_cons, ih, show (k + 1) * 7 = v.cells.length + k * 7 by rw [cells_len]; omega, List.take_append, Nat.add_sub_cancel_left, List.take_of_length_le (l := v.cells) (by omega)]
theorem flatV_drop (l : List Ver) (k : Nat) : flatV (l.drop k) = (flatV l).drop (k * 7) := by
  induction l generalizing k with
  | nil => simp [flatV]
  | cons v l ih =>
    cases k with
    | zero => simp [flatV]
    | succ k =>
      rw [List.drop_succ_cons, flatV_cons, ih, show (k + 1) * 7 = v.cells.length + k * 7 by rw [cells_len]; omega, List.drop_append, Nat.add_sub_cancel_left, List.drop_of_length_le (l := v.cells) (by omega), List.nil_append]
theorem own_take7 {w : World} {B c n : Nat} {a : Option Addr} {r : List Ver} (hn : n = r.length) (h : w.ownsRow B 26 7 (.slice a n c) n (flatV r)) (k : Nat) (hk : k ≤ n) : w.ownsRow B 26 7 (.slice a k c) (r.take k).length (flatV (r.take k)) := by
  have e : (r.take k).length = k := by rw [List.length_take]; omega
  rw [e]
  refine ⟨by rw [flatV_len, e], ?_⟩
  rcases h.2 with ⟨h0, h1⟩ | ⟨g, cap, cur, hv, hg, hh, hn', hcap, hsz, htake⟩
  · cases h0
    exact .inl ⟨by rw [show k = 0 by omega], by omega⟩
  · cases hv
    exact .inr ⟨g, c, cur, rfl, hg, hh, by omega, hcap, hsz, by rw [flatV_take, ← htake, List.take_take, Nat.min_eq_left (Nat.mul_le_mul_right 7 hk)]⟩
theorem own_caps {w : World} {B n c : Nat} {a : Option Addr} {xs : List Value} (h : w.ownsRow B 26 7 (.slice a n c) n xs) : n ≤ c ∧ c ≤ 9223372036854775807 := by
  rcases h.2 with ⟨h0, h1⟩ | ⟨g, cap, cur, hv, hg, hh, hn, hcap, hsz, htake⟩
  · cases h0
    exact ⟨Nat.le_refl _, by omega⟩
  · cases hv
    exact ⟨hn, by unfold maxLen at hcap; omega⟩
theorem own_src {w : World} {B c n : Nat} {a : Option Addr} {r : List Ver} (hn : n = r.length) (h : w.ownsRow B 26 7 (.slice a n c) n (flatV r)) (k : Nat) (hk : k ≤ n) : Src w (.slice (if c = k then a else a.map (·.add (k * 7))) (n - k) (c - k)) (r.drop k) := by
  rcases id h.2 with ⟨h0, h1⟩ | ⟨g, cap, cur, hv, hg, hh, hn', hcap, hsz, htake⟩
  · cases h0
    have e1 : r = [] := List.eq_nil_of_length_eq_zero hn.symm
    subst e1
    obtain rfl : k = 0 := by omega
    exact .inl ⟨rfl, rfl⟩
  · cases hv
    by_cases hc : c = k
    · rw [if_pos hc]
      have e : r.drop k = [] := List.drop_of_length_le (by omega)
      rw [e]
      refine .inr ⟨g, 0, c - k, by rw [show n - k = 0 by omega]; rfl, fun j u hu => by simp [flatV] at hu⟩
    · rw [if_neg hc]
      refine .inr ⟨g, k * 7, c - k, by rw [Option.map_some, add_to, Nat.zero_add, List.length_drop, hn], fun j u hu => ?_⟩
      rw [flatV_drop, List.getElem?_drop] at hu
      have := h.cells (g := g) rfl (k * 7 + j) u hu
      rwa [add_to, Nat.zero_add] at this
theorem own_src0 {w : World} {B : Nat} {x : Value} {r : List Ver} (h : w.ownsRow B 26 7 x r.length (flatV r)) : Src w x r := by
  rcases id h.2 with ⟨h0, h1⟩ | ⟨g, cap, cur, hv, hg, hh, hn', hcap, hsz, htake⟩
  · exact .inl ⟨h0, List.eq_nil_of_length_eq_zero h1⟩
  · subst hv
    refine .inr ⟨g, 0, cap, rfl, fun j u hu => ?_⟩
    have := h.cells (g := g) rfl j u hu
    rwa [add_to] at this
theorem src_alloc {w : World} {a : Option Addr} {c t n : Nat} {m : List Ver} (h : Src w (.slice (if c = t then a else a.map (·.add (t * 7))) (n - t) (c - t)) m) (o : Obj) : Src (w.alloc o) (.slice (if c = t then a else a.map (·.add (t * 7))) (n - t) (c - t)) m := by
  rcases h with h | ⟨g, o', c', he, hc⟩
  · exact .inl h
  · refine .inr ⟨g, o', c', he, fun j u hu => Lib.cell?_alloc_some _ (hc j u hu)⟩
theorem own_any (a : Option Addr) (n k c : Nat) : (Value.slice a n c).ownBlock = (Value.slice a k c).ownBlock := by cases a <;> rfl
theorem own_other {a : Option Addr} {n c gv B k : Nat} (h : ∀ j, (Value.slice a n c).ownBlock = some j → j < gv ∧ B ≤ j) (hk : gv ≤ k) : (Value.slice a n c).ownBlock = none ∨ (Value.slice a n c).ownBlock ≠ some k := by
  cases e : (Value.slice a n c).ownBlock with
  | none => exact .inl rfl
  | some j =>
    refine .inr (fun e2 => ?_)
    cases e2
    have := (h k e).1
    omega
theorem rcmp_at (x a : Ver) (c : Int) (hc : cmpW x a = c) (w : World) : Calls Tryd.prog 19 #[.agg #[.int .i64 x.n0, .int .i64 x.n1, .int .i64 x.n2, .int .i64 x.n3, .int .i64 x.many, .string x.tag, .int .i64 x.step], .agg #[.int .i64 a.n0, .int .i64 a.n1, .int .i64 a.n2, .int .i64 a.n3, .int .i64 a.many, .string a.tag, .int .i64 a.step]] w fun e w' => e = .returned (.int .i64 c) ∧ Below w.heap.size w w' := by
  rw [← hc]; exact rcompare_any x a w
theorem own_cell7 {w : World} {B g c n : Nat} {r : List Ver} (h : w.ownsRow B 26 7 (.slice (some ⟨g, 0, none⟩) n c) n (flatV r)) (j : Nat) (v : Ver) (hj : r[j]? = some v) :
    w.cell? ⟨g, j * 7, none⟩ = some (.int .i64 v.n0) ∧ w.cell? ⟨g, j * 7 + 1, none⟩ = some (.int .i64 v.n1) ∧ w.cell? ⟨g, j * 7 + 2, none⟩ = some (.int .i64 v.n2) ∧ w.cell? ⟨g, j * 7 + 3, none⟩ = some (.int .i64 v.n3) ∧ w.cell? ⟨g, j * 7 + 4, none⟩ = some (.int .i64 v.many) ∧ w.cell? ⟨g, j * 7 + 5, none⟩ = some (.string v.tag) ∧ w.cell? ⟨g, j * 7 + 6, none⟩ = some (.int .i64 v.step) := by
  have key : ∀ r' u, r' < 7 → v.cells[r']? = some u → w.cell? ⟨g, j * 7 + r', none⟩ = some u := fun r' u hr hu => by
    have := flat7 r j r' hr
    rw [hj] at this
    have h2 := h.cells (g := g) rfl (j * 7 + r') u (this.trans hu)
    rw [add_to, Nat.zero_add] at h2
    exact h2
  exact ⟨key 0 _ (by omega) rfl, key 1 _ (by omega) rfl, key 2 _ (by omega) rfl, key 3 _ (by omega) rfl, key 4 _ (by omega) rfl, key 5 _ (by omega) rfl, key 6 _ (by omega) rfl⟩
/-- What holds while a version is put in. -/
structure Puts1 (gv : Nat) (v : Ver) (w W : World) : Prop where
  box : Box W gv 26 v.arr
  low : Below w.heap.size w W
theorem Puts1.drew {gv : Nat} {v : Ver} {w W : World} (h : Puts1 gv v w W) : Puts1 gv v w W.drew := ⟨h.box, h.low.drew⟩
theorem Puts1.alloc {gv : Nat} {v : Ver} {w W : World} (h : Puts1 gv v w W) (o : Obj) : Puts1 gv v w (W.alloc o) := ⟨h.box.alloc o, h.low.alloc h.low.size o⟩
theorem Puts1.grown {gv : Nat} {v : Ver} {w W W' : World} (h : Puts1 gv v w W) {row : Option Nat} (hg : W.grownBy W' row) (hne : some gv ≠ row) (hr : ∀ j, row = some j → w.heap.size ≤ j) : Puts1 gv v w W' := ⟨(hg.block gv h.box.lt hne).trans h.box, h.low.grown hg h.low.size hr⟩
theorem own_lit7 (W : World) (B : Nat) (v : Ver) (h : B ≤ W.heap.size) : (W.alloc (.cells #[.int .i64 v.n0, .int .i64 v.n1, .int .i64 v.n2, .int .i64 v.n3, .int .i64 v.many, .string v.tag, .int .i64 v.step] 26)).ownsRow B 26 7 (.slice (some ⟨W.heap.size, 0, none⟩) 1 1) [v].length (flatV [v]) := by
  have := World.ownsRow_lit (base := B) (e := 26) (size := 7) W #[.int .i64 v.n0, .int .i64 v.n1, .int .i64 v.n2, .int .i64 v.n3, .int .i64 v.many, .string v.tag, .int .i64 v.step] 1 h (by unfold maxLen; omega) rfl
  exact this
/-- Sorted so far, of those that may be. -/
def SoFar (r L : List Ver) : Prop := r.Perm (okV L) ∧ SortedP r
theorem sofar_ok {r L : List Ver} (h : SoFar r L) {j : Nat} {u : Ver} (hj : r[j]? = some u) : u.ok = true := by
  have h1 : u ∈ r := List.mem_of_getElem? hj
  have h2 := h.1.mem_iff.1 h1
  unfold okV at h2
  exact (List.mem_filter.1 h2).2

set_option maxRecDepth 100000 in
set_option maxHeartbeats 8000000 in
theorem rsort_any (l : List Ver) (x : Value) (w : World) (hx : RdV w x l) (hl : l.length ≤ 12) : Calls Tryd.prog 22 #[x] w (SortR l w) := by
  obtain ⟨a, c, rfl, hlc, hcm, hcell⟩ := hx
  have HC := Lib.hid hcell
  obtain ⟨n, hn⟩ : ∃ n, n = l.length := ⟨_, rfl⟩
  rw [← hn] at hlc HC hl ⊢
  have HN := Lib.hid hn
  unfold maxLen at hcm
  clear hn hcell
  go_enter Tryd.func22, Tryd.ntmps22
  go_wp2_with fail
  go_loopw [3, 5, 6, 9, 10, 11, 12, 13, 14, 15, 16, 17, 18, 19, 20, 21, 22, 23, 24, 25, 26, 27, 28, 29, 30, 31, 32, 33, 34, 35, 36, 37, 38, 39, 40, 41] (fun r _ _ i _ _ _ _ _ _ _ _ _ _ _ _ _ _ _ _ _ _ _ _ _ _ _ _ _ _ _ _ _ _ _ _ W => ∃ (k : Nat) (r0 : List Ver), k ≤ n ∧ r0.length ≤ k ∧ i = .int .i64 k ∧ Hid (W.ownsRow w.heap.size 26 7 r r0.length (flatV r0)) ∧ Hid (SoFar r0 (l.take k)) ∧ Hid (Below w.heap.size w W)) (fun _ _ _ i _ _ _ _ _ _ _ _ _ _ _ _ _ _ _ _ _ _ _ _ _ _ _ _ _ _ _ _ _ _ _ _ _ => n - (Lib.intOf i).toNat)
  case atStart => exact ⟨0, [], Nat.zero_le _, Nat.zero_le _, rfl, Lib.hid (World.ownsRow_nil _ _ _ _), Lib.hid ⟨List.Perm.refl _, List.Pairwise.nil⟩, Lib.hid (Below.refl _ _)⟩
  case round =>
    obtain ⟨k, r, hk, hrk, rfl, HR, HSO, HB⟩ := hrel
    obtain ⟨wq, hwq⟩ : ∃ q, q = wr := ⟨_, rfl⟩
    rw [← hwq] at HR HB ⊢
    clear hwq
    by_cases hlt : k < n
    · obtain ⟨v, hv⟩ : ∃ v, l[k]? = some v := ⟨_, List.getElem?_eq_getElem (by have := HN.out; omega)⟩
      obtain ⟨g, o, rfl, hg, hc⟩ := HC.out (by omega)
      obtain ⟨q0, q1, q2, q3, q4, q5, q6⟩ := hc k v hv
      have r0 := (HB.out.cell (p := ⟨g, _, none⟩) hg).trans q0
      have r1 := (HB.out.cell (p := ⟨g, _, none⟩) hg).trans q1
      have r2 := (HB.out.cell (p := ⟨g, _, none⟩) hg).trans q2
      have r3 := (HB.out.cell (p := ⟨g, _, none⟩) hg).trans q3
      have r4 := (HB.out.cell (p := ⟨g, _, none⟩) hg).trans q4
      have r5 := (HB.out.cell (p := ⟨g, _, none⟩) hg).trans q5
      have r6 := (HB.out.cell (p := ⟨g, _, none⟩) hg).trans q6
      have k1 : (k : Int) < (n : Int) := by omega
      have k2 : (0 : Int) ≤ (k : Int) := by omega
      have k4 : IntKind.i64.wrap ((k : Int) + 1) = (k : Int) + 1 := IntWalk.i64_in _ (by omega)
      have HS := Lib.hid (okV_snoc hv)
      clear q0 q1 q2 q3 q4 q5 q6 hc hv
      have X0 : Hid (Box (wq.alloc (.cells Ver.zero.arr 26)) wq.heap.size 26 Ver.zero.arr) := Lib.hid box_new
      obtain ⟨w2, hw2⟩ : ∃ q, q = (wq.alloc (.cells Ver.zero.arr 26)).setRow wq.heap.size v.arr := ⟨_, rfl⟩
      have X2 : Hid (Box w2 wq.heap.size 26 v.arr) := Lib.hid (by rw [hw2]; exact X0.out.row _)
      have b2 : Below wq.heap.size wq w2 := by rw [hw2]; exact below_row ((Below.refl _ _).alloc (Nat.le_refl _) _) (Nat.le_refl _) _
      have B2 : Hid (Below w.heap.size w w2) := Lib.hid (bch HB.out b2)
      have R2 := Lib.hid (owns_below HR.out b2)
      obtain ⟨ok, hok⟩ : ∃ ok, ok = v.ok := ⟨_, rfl⟩
      have HT := Lib.hid (rights_of hok)
      have HOK := Lib.hid hok
      have hgq := HB.out.size
      clear b2 hok
      go_upto_region 5 with (first
        | (with_reducible refine wpList_zero rfl 26 rfl Ver.zero.arr zero26 ?_)
        | (refine wpList_store_row rfl 26 (.tmp 5) (.tmp 12) rfl wq.heap.size v.arr rfl rfl 26 _ X0.out (info26 _) rfl (arr_one _) ?_))
      rw [← hw2]
      have HOL := Lib.hid HR.out.lt
      clear hw2 X0 r0 r1 r2 r3 r4 r5 r6 HR HB
      go_wp2_with (refine wpList_load_row rfl 26 (.tmp 5) rfl wq.heap.size rfl 26 v.arr (0, 0) _ X2.out Tryd.underlying26 rfl (info26 _) ?_)
      refine (HT.out _).mono ?_
      rintro e w3 ⟨rfl, hb⟩
      have X3 := Lib.hid (X2.out.on hb)
      have B3 := Lib.hid (bch B2.out hb)
      have R3 := Lib.hid (owns_below R2.out hb)
      clear X2 B2 R2 HT hb
      cases ok with
      | false =>
        have HS2 : Hid (okV (l.take (k + 1)) = okV (l.take k)) := Lib.hid (by rw [HS.out, ← HOK.out]; simp)
        clear HS HOK X3
        go_wp2_with fail
        go_roundw
        case rel => exact ⟨k + 1, r, hlt, by omega, by go_num, R3, Lib.hid ⟨by rw [HS2.out]; exact HSO.out.1, HSO.out.2⟩, B3⟩
        case measure => simp [Lib.intOf]; omega
      | true =>
        have HS2 : Hid (okV (l.take (k + 1)) = okV (l.take k) ++ [v]) := Lib.hid (by rw [HS.out, ← HOK.out]; simp)
        obtain ⟨ao, cp, rfl⟩ := own_form R3.out
        obtain ⟨gv, hgv⟩ : ∃ q, q = wq.heap.size := ⟨_, rfl⟩
        have HOB : Hid (∀ j, (Value.slice ao r.length cp).ownBlock = some j → j < gv ∧ w.heap.size ≤ j) := Lib.hid (fun j e => by have := HOL.out j e; omega)
        rw [← hgv] at X3 hgq ⊢
        obtain ⟨m, hm⟩ : ∃ q, q = r.length := ⟨_, rfl⟩
        have HM := Lib.hid hm
        have hm12 : m ≤ 12 := by omega
        obtain ⟨hmc, hcp⟩ := own_caps R3.out
        rw [← hm] at R3 hmc HOB ⊢
        have hkk : m ≤ k := by omega
        clear HS hgv hm hrk
        go_wp2_with fail
        go_loopw [6, 16, 17, 18, 19, 20, 21, 22, 23, 24, 25, 26, 27, 28, 29, 30] (fun q _ _ _ _ _ _ _ _ _ _ _ _ _ _ _ W => ∃ t : Nat, t ≤ m ∧ q = .int .i64 t ∧ Hid (∀ j u, j < t → r[j]? = some u → cmpV u v ≤ 0) ∧ Hid (Box W gv 26 v.arr) ∧ Hid (W.ownsRow w.heap.size 26 7 (.slice ao m cp) m (flatV r)) ∧ Hid (Below w.heap.size w W)) (fun q _ _ _ _ _ _ _ _ _ _ _ _ _ _ _ _ => m - (Lib.intOf q).toNat)
        case atStart => exact ⟨0, Nat.zero_le _, rfl, Lib.hid (fun j u h => absurd h (Nat.not_lt_zero _)), X3, R3, B3⟩
        case round =>
          clear X3 R3 B3
          obtain ⟨t, ht, rfl, HLE, X3, R3, B3⟩ := hrel
          obtain ⟨wo, hwo⟩ : ∃ q, q = wr := ⟨_, rfl⟩
          rw [← hwo] at X3 R3 B3 ⊢
          clear hwo
          have t2 : (0 : Int) ≤ (t : Int) := by omega
          by_cases htm : t < m
          · have t1 : decide ((t : Int) < (m : Int)) = true := decide_eq_true (by omega)
            have t3 : (t : Int) < (m : Int) := by omega
            have t4 : IntKind.i64.wrap ((t : Int) + 1) = (t : Int) + 1 := IntWalk.i64_in _ (by omega)
            obtain ⟨u, hu⟩ : ∃ u, r[t]? = some u := ⟨_, List.getElem?_eq_getElem (by have := HM.out; omega)⟩
            obtain ⟨go, rfl⟩ : ∃ go, ao = some ⟨go, 0, none⟩ := by
              rcases R3.out.2 with ⟨h0, h1⟩ | ⟨g1, cap, cur, hv, _⟩
              · omega
              · cases hv; exact ⟨g1, rfl⟩
            obtain ⟨c0, c1, c2, c3, c4, c5, c6⟩ := own_cell7 R3.out t u hu
            obtain ⟨e0, e1, e2, e3, e4, e5, e6⟩ := X3.out.ver
            obtain ⟨z, hz⟩ : ∃ z, z = cmpV u v := ⟨_, rfl⟩
            have HCA := Lib.hid (fun W => rcmp_at u v z (by rw [hz]; unfold cmpW; rw [sofar_ok HSO.out hu, ← HOK.out]; simp) W)
            have HZ := Lib.hid hz
            have HU := Lib.hid hu
            clear hz hu
            by_cases hz0 : z ≤ 0
            · have hd : decide (z ≤ 0) = true := decide_eq_true hz0
              go_wp2_with fail
              go_still_tail 10, (by kernel_rfl)
              go_wp2_with (go_at_call 19; refine (HCA.out _).mono ?_; rintro e w4 ⟨rfl, hb⟩)
              have X4 := Lib.hid (Box.on (w := wo.drew) X3.out hb)
              have R4 := Lib.hid (owns_below (w := wo.drew) R3.out hb)
              have B4 := Lib.hid (bch (B3.out.drew) hb)
              go_roundw
              case rel =>
                refine ⟨t + 1, htm, by go_num, Lib.hid (fun j y hj hy => ?_), X4, R4, B4⟩
                by_cases hjt : j < t
                · exact HLE.out j y hjt hy
                · obtain rfl : j = t := by omega
                  have e := HU.out.symm.trans hy
                  obtain rfl := Option.some.inj e
                  rw [← HZ.out]; exact hz0
              case measure => simp [Lib.intOf]; omega
            · have hd : decide (z ≤ 0) = false := decide_eq_false hz0
              go_wp2_with fail
              go_still_tail 10, (by kernel_rfl)
              go_wp2_with (go_at_call 19; refine (HCA.out _).mono ?_; rintro e w4 ⟨rfl, hb⟩)
              have XT := Lib.hid (Box.on (w := wo.drew) X3.out hb)
              have RT := Lib.hid (owns_below (w := wo.drew) R3.out hb)
              have BT := Lib.hid (bch (B3.out.drew) hb)
              have HSTOP : Hid (∀ y, r[t]? = some y → ¬ cmpV y v ≤ 0) := Lib.hid (fun y hy => by
                obtain rfl := Option.some.inj (HU.out.symm.trans hy)
                rw [← HZ.out]; omega)
              obtain ⟨ao, hao⟩ : ∃ q, q = some (⟨go, 0, none⟩ : Addr) := ⟨_, rfl⟩
              rw [← hao] at RT HOB ⊢
              obtain ⟨WT, hWT⟩ : ∃ q, q = w4 := ⟨_, rfl⟩
              rw [← hWT] at XT RT BT ⊢
              clear hWT hao hb X3 R3 B3 HCA HZ HU c0 c1 c2 c3 c4 c5 c6 e0 e1 e2 e3 e4 e5 e6 hd hz0
              have t5 : (t : Int) ≤ (m : Int) := by omega
              have t6 : (t : Int) ≤ (cp : Int) := by omega
              have t7 : (m : Int) ≤ (cp : Int) := by omega
              have k0 : Hid (Puts1 gv v w WT) := Lib.hid ⟨XT.out, BT.out⟩
              obtain ⟨WD, hWD⟩ : ∃ q, q = World.drew WT := ⟨_, rfl⟩
              have RD : Hid (WD.ownsRow w.heap.size 26 7 (.slice ao m cp) m (flatV r)) := Lib.hid (by rw [hWD]; exact RT.out)
              refine wp_region_held_drew (S := fun w' => Puts1 gv v w w') (by kernel_rfl) k0.out.drew (fun hHeld => ?_)
              rw [← hWD] at hHeld ⊢
              clear hWD k0
              refine wpAnyH_take (i := 0) (oi := { dst := some 31, op := Op.move (Operand.tmp 3), type := 33, pos := "ref.go:168", after := #[], guard := none }) (v := ?_) rfl (by kernel_rfl) (by kernel_rfl) (by kernel_rfl) (fun _ _ _ h => h) (Or.inl ⟨by rfl, ?_⟩) hHeld ?_
              rotate_left
              · (intro w hSw; go_simp; try with_reducible rfl)
              (try simp only [Act.put, List.setIfInBounds_toArray, List.set_cons_zero, List.set_cons_succ])
              refine wpAnyH_take (i := 1) (oi := { dst := some 32, op := Op.move (Operand.tmp 6), type := 3, pos := "ref.go:168", after := #[], guard := none }) (v := ?_) rfl (by kernel_rfl) (by kernel_rfl) (by kernel_rfl) (fun _ _ _ h => h) (Or.inl ⟨by rfl, ?_⟩) hHeld ?_
              rotate_left
              · (intro w hSw; go_simp; try with_reducible rfl)
              (try simp only [Act.put, List.setIfInBounds_toArray, List.set_cons_zero, List.set_cons_succ])
              refine wpAnyH_take (i := 2) (oi := { dst := some 33, op := Op.slice 33 (Operand.tmp 31) none (some (Operand.tmp 32)) none, type := 33, pos := "ref.go:168", after := #[{ on := 0, ground := Ground.data }, { on := 1, ground := Ground.data }], guard := none }) (v := ?_) rfl (by kernel_rfl) (by kernel_rfl) (by kernel_rfl) (fun _ _ _ h => h) (Or.inl ⟨by rfl, ?_⟩) hHeld ?_
              rotate_left
              · (intro w hSw; go_simp; try with_reducible rfl)
              (try simp only [Act.put, List.setIfInBounds_toArray, List.set_cons_zero, List.set_cons_succ])
              refine wpAnyH_take (i := 3) (oi := { dst := some 34, op := Op.load 26 (Operand.tmp 5), type := 26, pos := "ref.go:168", after := #[], guard := none }) (v := ?_) rfl (by kernel_rfl) (by kernel_rfl) (by kernel_rfl) (fun _ _ _ h => h) (Or.inl ⟨by rfl, ?_⟩) hHeld ?_
              rotate_left
              · (intro w hSw; obtain ⟨p0, p1, p2, p3, p4, p5, p6⟩ := hSw.box.ver; go_simp; try with_reducible rfl)
              (try simp only [Act.put, List.setIfInBounds_toArray, List.set_cons_zero, List.set_cons_succ])
              refine wpAnyH_take (i := 5) (oi := { dst := some 36, op := Op.move (Operand.tmp 3), type := 33, pos := "ref.go:168", after := #[], guard := none }) (v := ?_) rfl (by kernel_rfl) (by kernel_rfl) (by kernel_rfl) (fun _ _ _ h => h) (Or.inl ⟨by rfl, ?_⟩) hHeld ?_
              rotate_left
              · (intro w hSw; go_simp; try with_reducible rfl)
              (try simp only [Act.put, List.setIfInBounds_toArray, List.set_cons_zero, List.set_cons_succ])
              refine wpAnyH_take (i := 6) (oi := { dst := some 37, op := Op.move (Operand.tmp 6), type := 3, pos := "ref.go:168", after := #[], guard := none }) (v := ?_) rfl (by kernel_rfl) (by kernel_rfl) (by kernel_rfl) (fun _ _ _ h => h) (Or.inl ⟨by rfl, ?_⟩) hHeld ?_
              rotate_left
              · (intro w hSw; go_simp; try with_reducible rfl)
              (try simp only [Act.put, List.setIfInBounds_toArray, List.set_cons_zero, List.set_cons_succ])
              refine wpAnyH_take (i := 7) (oi := { dst := some 38, op := Op.slice 33 (Operand.tmp 36) (some (Operand.tmp 37)) none none, type := 33, pos := "ref.go:168", after := #[{ on := 5, ground := Ground.data }, { on := 6, ground := Ground.data }], guard := none }) (v := ?_) rfl (by kernel_rfl) (by kernel_rfl) (by kernel_rfl) (fun _ _ _ h => h) (Or.inl ⟨by rfl, ?_⟩) hHeld ?_
              rotate_left
              · (intro w hSw; go_simp; try with_reducible rfl)
              (try simp only [Act.put, List.setIfInBounds_toArray, List.set_cons_zero, List.set_cons_succ])
              refine wpAnyH_ready (rs := [4]) (by kernel_rfl) (by simp) (AllReadyH.cons (o := { dst := some 35, op := Op.buildSlice 33 1 #[(0, Operand.tmp 34)], type := 33, pos := "ref.go:168", after := #[{ on := 3, ground := Ground.data }], guard := none }) rfl (fun K hK => ?_) AllReadyH.nil)
              · go_simp
                have KD := hHeld
                refine hK.out _ _ (hHeld.alloc _) (fun hHeld => ?_)
                (try simp only [Act.put, List.setIfInBounds_toArray, List.set_cons_zero, List.set_cons_succ])
                refine wpAnyH_ready (rs := [8]) (by kernel_rfl) (by simp) (AllReadyH.cons (o := { dst := some 39, op := Op.call { callee := Callee.builtin Builtin.append, args := #[Operand.tmp 35, Operand.tmp 38], argTypes := #[33, 33] }, type := 33, pos := "ref.go:168", after := #[{ on := 4, ground := Ground.data }, { on := 7, ground := Ground.data }], guard := none }) rfl (fun K hK => ?_) AllReadyH.nil)
                · refine wp_append7 (by rfl) (.tmp 35) (.tmp 38) rfl w.heap.size _ _ [v] (r.drop t) rfl (own_lit7 WD w.heap.size v KD.low.size) rfl (src_alloc (own_src HM.out RD.out t ht) _) (by have := KD.low.size; simp; omega) (by have := HM.out; simp; omega) ?_
                  intro v8 w8 own8 grow8
                  have gs := KD.low.size
                  have gl := KD.box.lt
                  have RE := Lib.hid ((RD.out.alloc (.cells #[.int .i64 v.n0, .int .i64 v.n1, .int .i64 v.n2, .int .i64 v.n3, .int .i64 v.many, .string v.tag, .int .i64 v.step] 26)).kept grow8 (own_other HOB.out (show gv ≤ WD.heap.size by omega)))
                  have O8 := Lib.hid own8
                  refine hK.out _ _ (hHeld.grown grow8 (fun e => by have e' : gv = WD.heap.size := Option.some.inj e; omega) (fun j e => by have e' : WD.heap.size = j := Option.some.inj e; omega)) (fun hHeld => ?_)
                  clear own8 grow8 gs gl
                  (try simp only [Act.put, List.setIfInBounds_toArray, List.set_cons_zero, List.set_cons_succ])
                  refine wpAnyH_ready (rs := [9]) (by kernel_rfl) (by simp) (AllReadyH.cons (o := { dst := some 40, op := Op.call { callee := Callee.builtin Builtin.append, args := #[Operand.tmp 33, Operand.tmp 39], argTypes := #[33, 33] }, type := 33, pos := "ref.go:168", after := #[{ on := 2, ground := Ground.data }, { on := 8, ground := Ground.data }, { on := 8, ground := Ground.chain }], guard := none }) rfl (fun K hK => ?_) AllReadyH.nil)
                  · refine wp_append7 (by rfl) (.tmp 33) (.tmp 39) rfl w.heap.size _ _ (r.take t) ([v] ++ r.drop t) rfl (own_take7 HM.out RE.out t ht) rfl (own_src0 O8.out) hHeld.low.size (by have := HM.out; simp; omega) ?_
                    intro v9 w9 own9 grow9
                    have O9 := Lib.hid own9
                    refine hK.out _ _ (hHeld.grown grow9 (fun e => by have := HOB.out gv ((own_any ao m t cp).trans e.symm); omega) (fun j e => (HOB.out j ((own_any ao m t cp).trans e)).2)) (fun hHeld => ?_)
                    clear own9 grow9
                    (try simp only [Act.put, List.setIfInBounds_toArray, List.set_cons_zero, List.set_cons_succ])
                    refine wpAnyH_take (i := 10) (oi := { dst := some 3, op := Op.assign (Operand.tmp 40), type := 33, pos := "ref.go:168", after := #[{ on := 9, ground := Ground.data }, { on := 9, ground := Ground.chain }, { on := 0, ground := Ground.phase }, { on := 1, ground := Ground.phase }, { on := 2, ground := Ground.phase }, { on := 3, ground := Ground.phase }, { on := 4, ground := Ground.phase }, { on := 5, ground := Ground.phase }, { on := 6, ground := Ground.phase }, { on := 7, ground := Ground.phase }, { on := 8, ground := Ground.phase }, { on := 9, ground := Ground.phase }], guard := none }) (v := ?_) rfl (by kernel_rfl) (by kernel_rfl) (by kernel_rfl) (fun _ _ _ h => h) (Or.inl ⟨by rfl, ?_⟩) hHeld ?_
                    rotate_left
                    · (intro w hSw; go_simp; try with_reducible rfl)
                    (try simp only [Act.put, List.setIfInBounds_toArray, List.set_cons_zero, List.set_cons_succ])
                    refine wpAnyH_done (by kernel_rfl) ?_ _
                    have HD := Lib.hid hHeld
                    clear hHeld
                    go_wp2_with fail
                    go_roundw
                    case rel => exact ⟨k + 1, r.take t ++ ([v] ++ r.drop t), hlt, by have := HM.out; simp; omega, by go_num, O9, Lib.hid ⟨by rw [HS2.out]; exact put_perm r v t HSO.out.1, put_in r v t HSO.out.2 (by have := HM.out; omega) HLE.out HSTOP.out⟩, Lib.hid HD.out.low⟩
                    case measure => simp [Lib.intOf]; omega
          · have t1 : decide ((t : Int) < (m : Int)) = false := decide_eq_false (by omega)
            go_wp2_with fail
            go_quiet (fail)
            go_wp2_with fail
            have HSTOP : Hid (∀ y, r[t]? = some y → ¬ cmpV y v ≤ 0) := Lib.hid (fun y hy => by
              have := (List.getElem?_eq_some_iff.1 hy).1
              have := HM.out
              omega)
            have XT : Hid (Box (wo.drewN nq) gv 26 v.arr) := X3
            have RT : Hid ((wo.drewN nq).ownsRow w.heap.size 26 7 (.slice ao m cp) m (flatV r)) := R3
            have BT : Hid (Below w.heap.size w (wo.drewN nq)) := Lib.hid (below_drewN B3.out _)
            obtain ⟨WT, hWT⟩ : ∃ q, q = wo.drewN nq := ⟨_, rfl⟩
            rw [← hWT] at XT RT BT ⊢
            clear hWT X3 R3 B3 t1
            have t5 : (t : Int) ≤ (m : Int) := by omega
            have t6 : (t : Int) ≤ (cp : Int) := by omega
            have t7 : (m : Int) ≤ (cp : Int) := by omega
            have k0 : Hid (Puts1 gv v w WT) := Lib.hid ⟨XT.out, BT.out⟩
            obtain ⟨WD, hWD⟩ : ∃ q, q = World.drew WT := ⟨_, rfl⟩
            have RD : Hid (WD.ownsRow w.heap.size 26 7 (.slice ao m cp) m (flatV r)) := Lib.hid (by rw [hWD]; exact RT.out)
            refine wp_region_held_drew (S := fun w' => Puts1 gv v w w') (by kernel_rfl) k0.out.drew (fun hHeld => ?_)
            rw [← hWD] at hHeld ⊢
            clear hWD k0
            refine wpAnyH_take (i := 0) (oi := { dst := some 31, op := Op.move (Operand.tmp 3), type := 33, pos := "ref.go:168", after := #[], guard := none }) (v := ?_) rfl (by kernel_rfl) (by kernel_rfl) (by kernel_rfl) (fun _ _ _ h => h) (Or.inl ⟨by rfl, ?_⟩) hHeld ?_
            rotate_left
            · (intro w hSw; go_simp; try with_reducible rfl)
            (try simp only [Act.put, List.setIfInBounds_toArray, List.set_cons_zero, List.set_cons_succ])
            refine wpAnyH_take (i := 1) (oi := { dst := some 32, op := Op.move (Operand.tmp 6), type := 3, pos := "ref.go:168", after := #[], guard := none }) (v := ?_) rfl (by kernel_rfl) (by kernel_rfl) (by kernel_rfl) (fun _ _ _ h => h) (Or.inl ⟨by rfl, ?_⟩) hHeld ?_
            rotate_left
            · (intro w hSw; go_simp; try with_reducible rfl)
            (try simp only [Act.put, List.setIfInBounds_toArray, List.set_cons_zero, List.set_cons_succ])
            refine wpAnyH_take (i := 2) (oi := { dst := some 33, op := Op.slice 33 (Operand.tmp 31) none (some (Operand.tmp 32)) none, type := 33, pos := "ref.go:168", after := #[{ on := 0, ground := Ground.data }, { on := 1, ground := Ground.data }], guard := none }) (v := ?_) rfl (by kernel_rfl) (by kernel_rfl) (by kernel_rfl) (fun _ _ _ h => h) (Or.inl ⟨by rfl, ?_⟩) hHeld ?_
            rotate_left
            · (intro w hSw; go_simp; try with_reducible rfl)
            (try simp only [Act.put, List.setIfInBounds_toArray, List.set_cons_zero, List.set_cons_succ])
            refine wpAnyH_take (i := 3) (oi := { dst := some 34, op := Op.load 26 (Operand.tmp 5), type := 26, pos := "ref.go:168", after := #[], guard := none }) (v := ?_) rfl (by kernel_rfl) (by kernel_rfl) (by kernel_rfl) (fun _ _ _ h => h) (Or.inl ⟨by rfl, ?_⟩) hHeld ?_
            rotate_left
            · (intro w hSw; obtain ⟨p0, p1, p2, p3, p4, p5, p6⟩ := hSw.box.ver; go_simp; try with_reducible rfl)
            (try simp only [Act.put, List.setIfInBounds_toArray, List.set_cons_zero, List.set_cons_succ])
            refine wpAnyH_take (i := 5) (oi := { dst := some 36, op := Op.move (Operand.tmp 3), type := 33, pos := "ref.go:168", after := #[], guard := none }) (v := ?_) rfl (by kernel_rfl) (by kernel_rfl) (by kernel_rfl) (fun _ _ _ h => h) (Or.inl ⟨by rfl, ?_⟩) hHeld ?_
            rotate_left
            · (intro w hSw; go_simp; try with_reducible rfl)
            (try simp only [Act.put, List.setIfInBounds_toArray, List.set_cons_zero, List.set_cons_succ])
            refine wpAnyH_take (i := 6) (oi := { dst := some 37, op := Op.move (Operand.tmp 6), type := 3, pos := "ref.go:168", after := #[], guard := none }) (v := ?_) rfl (by kernel_rfl) (by kernel_rfl) (by kernel_rfl) (fun _ _ _ h => h) (Or.inl ⟨by rfl, ?_⟩) hHeld ?_
            rotate_left
            · (intro w hSw; go_simp; try with_reducible rfl)
            (try simp only [Act.put, List.setIfInBounds_toArray, List.set_cons_zero, List.set_cons_succ])
            refine wpAnyH_take (i := 7) (oi := { dst := some 38, op := Op.slice 33 (Operand.tmp 36) (some (Operand.tmp 37)) none none, type := 33, pos := "ref.go:168", after := #[{ on := 5, ground := Ground.data }, { on := 6, ground := Ground.data }], guard := none }) (v := ?_) rfl (by kernel_rfl) (by kernel_rfl) (by kernel_rfl) (fun _ _ _ h => h) (Or.inl ⟨by rfl, ?_⟩) hHeld ?_
            rotate_left
            · (intro w hSw; go_simp; try with_reducible rfl)
            (try simp only [Act.put, List.setIfInBounds_toArray, List.set_cons_zero, List.set_cons_succ])
            refine wpAnyH_ready (rs := [4]) (by kernel_rfl) (by simp) (AllReadyH.cons (o := { dst := some 35, op := Op.buildSlice 33 1 #[(0, Operand.tmp 34)], type := 33, pos := "ref.go:168", after := #[{ on := 3, ground := Ground.data }], guard := none }) rfl (fun K hK => ?_) AllReadyH.nil)
            · go_simp
              have KD := hHeld
              refine hK.out _ _ (hHeld.alloc _) (fun hHeld => ?_)
              (try simp only [Act.put, List.setIfInBounds_toArray, List.set_cons_zero, List.set_cons_succ])
              refine wpAnyH_ready (rs := [8]) (by kernel_rfl) (by simp) (AllReadyH.cons (o := { dst := some 39, op := Op.call { callee := Callee.builtin Builtin.append, args := #[Operand.tmp 35, Operand.tmp 38], argTypes := #[33, 33] }, type := 33, pos := "ref.go:168", after := #[{ on := 4, ground := Ground.data }, { on := 7, ground := Ground.data }], guard := none }) rfl (fun K hK => ?_) AllReadyH.nil)
              · refine wp_append7 (by rfl) (.tmp 35) (.tmp 38) rfl w.heap.size _ _ [v] (r.drop t) rfl (own_lit7 WD w.heap.size v KD.low.size) rfl (src_alloc (own_src HM.out RD.out t ht) _) (by have := KD.low.size; simp; omega) (by have := HM.out; simp; omega) ?_
                intro v8 w8 own8 grow8
                have gs := KD.low.size
                have gl := KD.box.lt
                have RE := Lib.hid ((RD.out.alloc (.cells #[.int .i64 v.n0, .int .i64 v.n1, .int .i64 v.n2, .int .i64 v.n3, .int .i64 v.many, .string v.tag, .int .i64 v.step] 26)).kept grow8 (own_other HOB.out (show gv ≤ WD.heap.size by omega)))
                have O8 := Lib.hid own8
                refine hK.out _ _ (hHeld.grown grow8 (fun e => by have e' : gv = WD.heap.size := Option.some.inj e; omega) (fun j e => by have e' : WD.heap.size = j := Option.some.inj e; omega)) (fun hHeld => ?_)
                clear own8 grow8 gs gl
                (try simp only [Act.put, List.setIfInBounds_toArray, List.set_cons_zero, List.set_cons_succ])
                refine wpAnyH_ready (rs := [9]) (by kernel_rfl) (by simp) (AllReadyH.cons (o := { dst := some 40, op := Op.call { callee := Callee.builtin Builtin.append, args := #[Operand.tmp 33, Operand.tmp 39], argTypes := #[33, 33] }, type := 33, pos := "ref.go:168", after := #[{ on := 2, ground := Ground.data }, { on := 8, ground := Ground.data }, { on := 8, ground := Ground.chain }], guard := none }) rfl (fun K hK => ?_) AllReadyH.nil)
                · refine wp_append7 (by rfl) (.tmp 33) (.tmp 39) rfl w.heap.size _ _ (r.take t) ([v] ++ r.drop t) rfl (own_take7 HM.out RE.out t ht) rfl (own_src0 O8.out) hHeld.low.size (by have := HM.out; simp; omega) ?_
                  intro v9 w9 own9 grow9
                  have O9 := Lib.hid own9
                  refine hK.out _ _ (hHeld.grown grow9 (fun e => by have := HOB.out gv ((own_any ao m t cp).trans e.symm); omega) (fun j e => (HOB.out j ((own_any ao m t cp).trans e)).2)) (fun hHeld => ?_)
                  clear own9 grow9
                  (try simp only [Act.put, List.setIfInBounds_toArray, List.set_cons_zero, List.set_cons_succ])
                  refine wpAnyH_take (i := 10) (oi := { dst := some 3, op := Op.assign (Operand.tmp 40), type := 33, pos := "ref.go:168", after := #[{ on := 9, ground := Ground.data }, { on := 9, ground := Ground.chain }, { on := 0, ground := Ground.phase }, { on := 1, ground := Ground.phase }, { on := 2, ground := Ground.phase }, { on := 3, ground := Ground.phase }, { on := 4, ground := Ground.phase }, { on := 5, ground := Ground.phase }, { on := 6, ground := Ground.phase }, { on := 7, ground := Ground.phase }, { on := 8, ground := Ground.phase }, { on := 9, ground := Ground.phase }], guard := none }) (v := ?_) rfl (by kernel_rfl) (by kernel_rfl) (by kernel_rfl) (fun _ _ _ h => h) (Or.inl ⟨by rfl, ?_⟩) hHeld ?_
                  rotate_left
                  · (intro w hSw; go_simp; try with_reducible rfl)
                  (try simp only [Act.put, List.setIfInBounds_toArray, List.set_cons_zero, List.set_cons_succ])
                  refine wpAnyH_done (by kernel_rfl) ?_ _
                  have HD := Lib.hid hHeld
                  clear hHeld
                  go_wp2_with fail
                  go_roundw
                  case rel => exact ⟨k + 1, r.take t ++ ([v] ++ r.drop t), hlt, by have := HM.out; simp; omega, by go_num, O9, Lib.hid ⟨by rw [HS2.out]; exact put_perm r v t HSO.out.1, put_in r v t HSO.out.2 (by have := HM.out; omega) HLE.out HSTOP.out⟩, Lib.hid HD.out.low⟩
                  case measure => simp [Lib.intOf]; omega
    · have hke : k = n := by omega
      have HF : Hid (l.take k = l) := Lib.hid (List.take_of_length_le (by have := HN.out; omega))
      have k1 : ¬ ((k : Int) < (n : Int)) := by omega
      rw [HF.out] at HSO
      go_wp2_with fail
      go_ret
      exact ⟨_, r, rfl, HSO.out.1, HSO.out.2, HR.out, HB.out⟩
end Go.Proofs.YtjekibhaabkecaaDoor
