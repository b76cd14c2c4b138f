/- Proved here: Ends of puncheonref03: the sum of some words and of the bytes behind whole blocks. -/
import Derived.Test.YtkenbppoldfecaaDoorRefW
import Derived.Test.YtkenbppoldfecaaDoorRefH
import Derived.OrdersHeld
import Derived.Deep.RegionHeld
import Derived.Deep.MidRow
import Derived.Deep.DeepCutAuto
import Derived.Maps.AppendAt
import Derived.Test.YtkenbppoldfecaaDoorSum
namespace Go.Proofs.YtkenbppoldfecaaDoor
open Go.RowKit Go.Shelf

theorem zero86 (l : List Value) : (Tryd.prog.info? 86).map (·.zero) = some (some (.agg (part z8 l 8 0))) := by
  rw [part_zero]
  kernel_rfl
theorem zero26 (l : List Value) : (Tryd.prog.info? 26).map (·.zero) = some (some (.agg (part z8 l 32 0))) := by
  rw [part_zero]
  kernel_rfl
theorem info26 : (Tryd.prog.info? 26).map (·.size) = some 32 := by kernel_rfl
/-- The last k bytes of a count, and noughts ahead of them. -/
def longL (m k : Nat) : Bytes := List.replicate (8 - k) 0 ++ (be8 m).drop (8 - k)
def longA (m k : Nat) : Array Value := (bytesV (longL m k)).toArray
theorem longL_all (m : Nat) : longL m 8 = be8 m := rfl
theorem longL_zero (m : Nat) : longA m 0 = part z8 [] 8 0 := by
  unfold longA longL part bytesV be8
  rfl
theorem longA_at (m k i : Nat) (hi : i + k = 7) : (longA m k)[i]? = some z8 := by
  unfold longA longL bytesV
  rw [List.getElem?_toArray, List.getElem?_map, List.getElem?_append_left (by simp; omega), List.getElem?_replicate, if_pos (by omega)]
  rfl
theorem longA_set (m k i : Nat) (hi : i + k = 7) : (longA m k).setIfInBounds i (b8 (UInt8.ofNat (m / 2 ^ (8 * k)))) = longA m (k + 1) := by
  unfold longA longL bytesV
  rw [List.setIfInBounds_toArray]
  congr 1
  rw [← List.map_set]
  congr 1
  rw [show 8 - k = i + 1 by omega, show 8 - (k + 1) = i by omega, List.replicate_succ', List.append_assoc, List.set_append_right _ _ (by simp), List.length_replicate, Nat.sub_self]
  congr 1
  have hl : i < (be8 m).length := by simp [be8]; omega
  rw [List.drop_eq_getElem_cons hl]
  have h := be8_at m (k := i) (by omega)
  rw [List.getElem?_eq_getElem hl, Option.some.injEq] at h
  rw [h, show 56 - 8 * i = 8 * k by omega]
  rfl

/-- append of a row of bytes to a row of bytes of the call's own, at a step of a region that draws. -/
theorem wp_append_bytes {op : Oper} {a : Act} {w : World} {K : Act → World → Prop} {Q : Exit → Act → World → Prop} {ops : Array Oper} (hw : Region.wanted op (yielded ops a.tmps) = true) (s x : Operand)
    (ho : op.op = .call { callee := .builtin .append, args := #[s, x], argTypes := #[24, 24] }) (base : Nat) (v : Value) (vs : List Value) (hs : a.eval s = v) (hown : w.ownsRow base 5 1 v vs.length vs) (g n c : Nat) (ys : List Value) (hn : n = ys.length) (hx : a.eval x = .slice (some ⟨g, 0, none⟩) n c)
    (hy : ∀ (j : Nat) (u : Value), ys[j]? = some u → w.cell? ⟨g, j, none⟩ = some u) (h1 : ∀ y ∈ ys, y.oneCell' = true) (hb : base ≤ w.heap.size) (hl : vs.length + ys.length ≤ 2000000000)
    (h : ∀ v' w', w'.ownsRow base 5 1 v' (vs ++ ys).length (vs ++ ys) → w.grownBy w' v.ownBlock → K (a.put op.dst v') w') : if Region.wanted op (yielded ops a.tmps) = true then op.wp Tryd.prog a w K Q else K (a.put op.dst undef) w := by
  rw [if_pos hw]
  subst hn
  obtain ⟨i0, hi, hz0, hz1, hz2⟩ := info_parts info5
  obtain ⟨v', w', hr, h2, h3, _⟩ := run_append_own_at (P := Tryd.prog) w base 24 op.type 5 i0 z8 1 1 Tryd.underlying24 hi hz0 hz1 hz2 rfl (by decide) v vs.length vs hown ⟨g, 0, none⟩ ys.length c ys (Nat.mul_one _).symm (fun j u hu => by
    rw [addr_add, Nat.zero_add]
    exact hy j u hu) h1 (by unfold maxLen; omega) (by omega) hb
  unfold Oper.wp execOp
  simp only [ho, resolve, invoke, builtin, Sem.run_bind, Sem.run_pure, Result.andThen_ok, List.map_toArray, List.map_cons, List.map_nil, hs, hx, hr]
  exact h v' w' (by rw [List.length_append]; exact h2) h3
theorem Box.grown' {w w' : World} {k t : Nat} {cs : Array Value} {row : Option Nat} (h : Box w k t cs) (hg : w.grownBy w' row) (hne : row ≠ some k) : Box w' k t cs := (hg.block k h.lt (fun e => hne e.symm)).trans h
theorem range_cells {w : World} {g t : Nat} {cs : List Value} (h : Box w g t cs.toArray) : w.rangeAt g 0 cs := fun j v hv => by
  rw [Nat.zero_add]
  exact h.cell (by rw [List.getElem?_toArray]; exact hv)
theorem rng_on {w w' : World} {B g o : Nat} {cs : List Value} (h : w.rangeAt g o cs) (hb : Below B w w') (hg : g < B) : w'.rangeAt g o cs := fun j v hv => (hb.cell (p := ⟨g, _, none⟩) hg).trans (h j v hv)
theorem wp_loadE {P : Program} {op : Oper} {a : Act} {w : World} {K : Act → World → Prop} {Q : Exit → Act → World → Prop} {ops : Array Oper} (hw : Region.wanted op (yielded ops a.tmps) = true) (ty : TypeId) (x : Operand) (ho : op.op = .load ty x)
    (g t : Nat) (cs : Array Value) (hx : a.eval x = .pointer (some ⟨g, 0, none⟩)) (hg : Box w g t cs) (d : TypeDesc) (hu : P.underlying ty = some d) (hd : (match d with | .struct _ | .array _ _ => true | _ => false) = true) (hi : (P.info? ty).map (·.size) = some cs.size)
    (h : K (a.put op.dst (.agg cs)) w) : if Region.wanted op (yielded ops a.tmps) = true then op.wp P a w K Q else K (a.put op.dst undef) w := by
  rw [if_pos hw]
  exact wp_load_row ty x ho g hx t cs (0, 0) d hg hu hd hi h
theorem wp_storeE {P : Program} {op : Oper} {a : Act} {w : World} {K : Act → World → Prop} {Q : Exit → Act → World → Prop} {ops : Array Oper} (hw : Region.wanted op (yielded ops a.tmps) = true) (ty : TypeId) (x y : Operand) (ho : op.op = .store ty x y)
    (g t : Nat) (old cells : Array Value) (hx : a.eval x = .pointer (some ⟨g, 0, none⟩)) (hy : a.eval y = .agg cells) (hg : Box w g t old) (hi : (P.info? ty).map (·.size) = some cells.size) (hsz : old.size = cells.size) (h1 : cells.all (·.oneCell') = true)
    (h : K (a.put op.dst undef) (w.setRow g cells)) : if Region.wanted op (yielded ops a.tmps) = true then op.wp P a w K Q else K (a.put op.dst undef) w := by
  rw [if_pos hw]
  exact Go.wp_store_row ty x y ho g cells hx hy t old hg hi hsz h1 h
def tabV : List Value := wordsV first ++ constsV
theorem tabV_eq : tabV.toArray = tabA := by
  unfold tabV tabA stA constsA
  rw [List.append_toArray]
theorem tabV_len : (Tryd.prog.info? 35).map (·.size) = some tabV.length := by rw [info35]; rfl
theorem bytesV_app (a b : Bytes) : bytesV a ++ bytesV b = bytesV (a ++ b) := by unfold bytesV; rw [List.map_append]
theorem pad_exit (n r z j : Nat) (hr : r = n % 64) (hz : z = noughts n) (hj : j ≤ z) : ((r + 1 + j) % 64 = 56 ↔ j = z) := by
  have : z = (120 - (n + 1) % 64) % 64 := hz
  omega
theorem div_next (m k : Nat) : m / 2 ^ (8 * k) / 256 = m / 2 ^ (8 * (k + 1)) := by
  rw [Nat.div_div_eq_div_mul, show 8 * (k + 1) = 8 * k + 8 by omega, Nat.pow_add]

set_option maxRecDepth 100000 in
set_option maxHeartbeats 16000000 in
theorem ends_any (S : St) (rest : Bytes) (n : Nat) (v : Value) (w : World) (hv : Rd w v (bytesV rest)) (hk : rest.length = n % 64) (hnb : n ≤ 1000000000) : Calls Tryd.prog 29 #[.agg tabA, .agg (stA S), v, .int .u64 (n : Int)] w fun e w' => e = .returned (.agg (bytesA (digestL (wordsOf S (rest ++ padL n))))) ∧ Below w.heap.size w w' := by
  obtain ⟨r, hr⟩ : ∃ r, r = rest.length := ⟨_, rfl⟩
  have hr64 : r < 64 := by rw [hr, hk]; exact Nat.mod_lt _ (by decide)
  obtain ⟨z, hz⟩ : ∃ z, z = noughts n := ⟨_, rfl⟩
  have hz64 : z < 64 := by rw [hz]; exact noughts_lt n
  obtain ⟨w2, hw2⟩ : ∃ q, q = ((w.alloc (.cells tabA 35)).alloc (.cells (stA S) 33)).alloc (.cells (part z8 [] 32 0) 26) := ⟨_, rfl⟩
  have X0 : Hid (Box w2 w.heap.size 35 tabA) := Lib.hid (by rw [hw2]; exact ((show Box _ _ _ _ from heap_alloc_new w _).alloc _).alloc _)
  have X1 : Hid (Box w2 (w.heap.size + 1) 33 (stA S)) := Lib.hid (by rw [hw2]; exact (show Box _ _ _ _ from heap_alloc2_new w _ _).alloc _)
  have X2 : Hid (Box w2 (w.heap.size + 1 + 1) 26 (part z8 [] 32 0)) := Lib.hid (by rw [hw2]; exact box_new _ _ _ (by simp))
  have B2 : Hid (Below w.heap.size w w2) := Lib.hid (by rw [hw2]; exact (((Below.refl _ _).alloc (Nat.le_refl _) _).alloc (by simp) _).alloc (by simp; omega) _)
  have HEX : Hid (∀ j, j ≤ z → ((r + 1 + j) % 64 = 56 ↔ j = z)) := Lib.hid (fun j hj => pad_exit n r z j (by rw [hr, hk]) hz hj)
  have HV := Lib.hid hv
  have HR := Lib.hid hr
  have HZ := Lib.hid hz
  have HK := Lib.hid hk
  clear hv hr hz hk
  go_enter Tryd.func29, Tryd.ntmps29
  go_wp2_with (with_reducible refine wpList_zero rfl 26 rfl (part z8 [] 32 0) (zero26 _) ?_)
  rw [← hw2]
  clear hw2
  refine (both_any rest [] v _ w2 (HV.out.on B2.out) (Rd.nil _) (by rw [← HR.out]; simp; omega)).mono ?_
  rintro e w3 ⟨v3, rfl, hown3, hb3⟩
  rw [List.append_nil, ← HR.out] at hown3
  obtain ⟨a3, c3, rfl⟩ := own_sl3 hown3
  have HO3 := Lib.hid hown3
  have HB3 := Lib.hid hb3
  clear hown3 hb3
  go_wp2_with (at_builtin; refine wpList_append_rd rfl (.tmp 17) (.tmp 18) 24 5 z8 1 rfl Tryd.underlying24 info5 rfl w2.heap.size _ _ (bytesV rest) [.int .u8 128] rfl (by rw [bytesV_len, ← HR.out]; exact HO3.out.alloc _) rfl (rd_one _ 5 _) (by simp [Value.oneCell']) (Nat.le_trans HB3.out.size (by simp)) (by rw [bytesV_len, ← HR.out]; simp; omega) (by decide) ?_; intro v4 w4 hown4 hb4; have HB4 := Lib.hid ((HB3.out.alloc HB3.out.size _).trans hb4); have HO4 : Hid (w4.ownsRow w2.heap.size 5 1 v4 (r + 1 + 0) (bytesV (rest ++ 128 :: List.replicate 0 0))) := Lib.hid (by rw [List.length_append, bytesV_len, ← HR.out] at hown4; rw [← bytesV_app]; exact hown4); clear hown4 hb4; obtain ⟨a4, c4, rfl⟩ := own_sl3 HO4.out)
  clear HO3 HB3 HV
  go_loopw [9, 20, 21, 22, 23, 24, 25, 26] (fun b_ _ _ _ _ _ _ _ wr => ∃ (a : Option Addr) (k c : Nat), k ≤ z ∧ b_ = .slice a (r + 1 + k) c ∧ Hid (wr.ownsRow w2.heap.size 5 1 (.slice a (r + 1 + k) c) (r + 1 + k) (bytesV (rest ++ 128 :: List.replicate k 0))) ∧ Hid (Below w2.heap.size w2 wr)) (fun b_ _ _ _ _ _ _ _ _ => match b_ with | .slice _ n _ => r + 1 + z - n | _ => 0)
  case atStart => exact ⟨a4, 0, c4, Nat.zero_le _, rfl, HO4, HB4⟩
  case round =>
    clear HO4 HB4
    obtain ⟨a, k, c, hkz, rfl, HO, HB⟩ := hrel
    obtain ⟨wq, hwq⟩ : ∃ q, q = wr := ⟨_, rfl⟩
    rw [← hwq] at HO HB ⊢
    clear hwq
    obtain ⟨y, hy⟩ : ∃ y, y = r + 1 + k := ⟨_, rfl⟩
    have hex := HEX.out k hkz
    rw [← hy] at HO hex ⊢
    have HY := Lib.hid hy
    by_cases hlt : k < z
    · have k1 : ¬ ((y : Int) % 64 = 56) := by
        intro h
        have : y % 64 = 56 := by omega
        have := hex.1 this
        omega
      clear hex hy
      have ho : wq.ownsRow w2.heap.size 5 1 (.slice a y c) (bytesV (rest ++ 128 :: List.replicate k 0)).length (bytesV (rest ++ 128 :: List.replicate k 0)) := by
        have h1 := HO.out
        have h2 : (bytesV (rest ++ 128 :: List.replicate k 0)).length = y := by
          rw [bytesV_len, List.length_append, List.length_cons, List.length_replicate, ← HR.out, HY.out]
          omega
        rw [h2]
        exact h1
      have hlen : (bytesV (rest ++ 128 :: List.replicate k 0)).length ≤ 200 := by
        rw [bytesV_len, List.length_append, List.length_cons, List.length_replicate, ← HR.out]
        omega
      have HOO := Lib.hid ho
      have HLEN := Lib.hid hlen
      clear ho hlen
      go_wp2_with (at_builtin; refine wpList_append_rd rfl (.tmp 24) (.tmp 25) 24 5 z8 1 rfl Tryd.underlying24 info5 rfl w2.heap.size _ _ (bytesV (rest ++ 128 :: List.replicate k 0)) [.int .u8 0] rfl (HOO.out.alloc _) rfl (rd_one _ 5 _) (by simp [Value.oneCell']) (Nat.le_trans HB.out.size (by simp)) (by have := HLEN.out; simp only [List.length_cons, List.length_nil]; omega) (by decide) ?_; intro v5 w5 hown5 hb5; have HB5 := Lib.hid ((HB.out.alloc HB.out.size _).trans hb5); have HO5 : Hid (w5.ownsRow w2.heap.size 5 1 v5 (r + 1 + (k + 1)) (bytesV (rest ++ 128 :: List.replicate (k + 1) 0))) := Lib.hid (by
          have h1 : bytesV (rest ++ 128 :: List.replicate k 0) ++ [Value.int .u8 0] = bytesV (rest ++ 128 :: List.replicate (k + 1) 0) := by
            rw [List.replicate_succ', show ([Value.int .u8 0] : List Value) = bytesV [0] from rfl, bytesV_app, List.append_assoc]
            rfl
          rw [h1] at hown5
          have h2 : (bytesV (rest ++ 128 :: List.replicate (k + 1) 0)).length = r + 1 + (k + 1) := by
            rw [bytesV_len, List.length_append, List.length_cons, List.length_replicate, ← HR.out]
            omega
          rw [h2] at hown5
          exact hown5); clear hown5 hb5; obtain ⟨a5, c5, rfl⟩ := own_sl3 HO5.out)
      have hl5 := HO5.out.2
      go_roundw
      case rel =>
        have hs : ∃ a' c', (Value.slice a5 (r + 1 + (k + 1)) c5) = .slice a' (r + 1 + (k + 1)) c' := ⟨_, _, rfl⟩
        exact ⟨a5, k + 1, c5, hlt, by trivial, HO5, HB5⟩
      case measure => simp; have := HY.out; omega
    · obtain rfl : k = z := by omega
      have k1 : (y : Int) % 64 = 56 := by
        have := hex.2 rfl
        omega
      clear hex hy
      obtain ⟨m, hm⟩ : ∃ m, m = n * 8 := ⟨_, rfl⟩
      have v8 : IntKind.u64.wrap ((n : Int) * 8) = (m : Int) := by rw [wrap_u64]; omega
      have hm8 : m ≤ 8000000000 := by omega
      have HM := Lib.hid hm
      clear hm
      obtain ⟨gl, hgl⟩ : ∃ q, q = wq.heap.size := ⟨_, rfl⟩
      obtain ⟨wl, hwl⟩ : ∃ q, q = wq.alloc (.cells (part z8 [] 8 0) 86) := ⟨_, rfl⟩
      have L0 : Hid (Box wl gl 86 (longA m 0)) := Lib.hid (by rw [hwl, longL_zero]; exact box_new _ _ _ hgl)
      have LB : Hid (Below gl wq wl) := Lib.hid (by rw [hwl, hgl]; exact (Below.refl _ _).alloc (Nat.le_refl _) _)
      have HGL := Lib.hid hgl
      clear hgl
      go_wp2_with (with_reducible refine wpList_zero rfl 86 rfl (part z8 [] 8 0) (zero86 _) ?_)
      rw [← hwl, ← HGL.out]
      clear hwl
      go_loopw [10, 12, 29, 30, 31, 32, 33, 34, 35, 36, 37, 38, 39] (fun n_ i _ _ _ _ _ _ _ _ _ _ _ wr => ∃ j : Nat, j ≤ 8 ∧ n_ = .int .u64 ((m / 2 ^ (8 * j) : Nat) : Int) ∧ i = .int .i64 (7 - (j : Int)) ∧ Hid (Box wr gl 86 (longA m j)) ∧ Hid (Below gl wq wr)) (fun n_ i _ _ _ _ _ _ _ _ _ _ _ _ => (Lib.intOf i + 1).toNat)
      case atStart => exact ⟨0, Nat.zero_le _, by rw [Nat.mul_zero, Nat.pow_zero, Nat.div_one], rfl, L0, LB⟩
      case round =>
        clear L0 LB
        obtain ⟨j, hj, rfl, rfl, L0, LB⟩ := hrel
        obtain ⟨wp, hwp⟩ : ∃ q, q = wr := ⟨_, rfl⟩
        rw [← hwp] at L0 LB ⊢
        clear hwp
        by_cases hj8 : j < 8
        · obtain ⟨i, hi⟩ : ∃ i, i + j = 7 := ⟨7 - j, by omega⟩
          have e1 : (7 : Int) - (j : Int) = (i : Int) := by omega
          obtain ⟨q, hq⟩ : ∃ q, q = m / 2 ^ (8 * j) := ⟨_, rfl⟩
          have hqm : q ≤ 8000000000 := by rw [hq]; exact Nat.le_trans (Nat.div_le_self _ _) hm8
          rw [← hq, e1]
          have c1 := L0.out.cell (longA_at m j i hi)
          have f1 := L0.out.frozen i
          have i0 : (0 : Int) ≤ (i : Int) := by omega
          have i1 : (i : Int) < 8 := by omega
          have i2 : i < 8 := by omega
          have i3 : IntKind.i64.wrap ((i : Int) - 1) = (i : Int) - 1 := IntWalk.i64_in _ (by omega)
          have HQ : Hid (q / 256 = m / 2 ^ (8 * (j + 1))) := Lib.hid (by rw [hq, div_next])
          have HS : Hid ((longA m j).setIfInBounds i (b8 (UInt8.ofNat q)) = longA m (j + 1)) := Lib.hid (by rw [hq]; exact longA_set m j i hi)
          have HI := Lib.hid hi
          clear hq e1 hi
          go_wp2_with fail
          go_roundw
          case rel =>
            refine ⟨j + 1, hj8, ?_, ?_, Lib.hid ?_, Lib.hid (LB.out.setCell (by dsimp only; omega) _)⟩
            · rw [← HQ.out]
              congr 1
            · have := HI.out
              congr 1
              push_cast
              omega
            · have := L0.out.set (k := i) (b8 (UInt8.ofNat q))
              rw [HS.out, show b8 (UInt8.ofNat q) = .int .u8 ((q : Int) % 256) by show Value.int .u8 _ = _; rw [byte_of]] at this
              exact this
          case measure => simp [Lib.intOf]
        · obtain rfl : j = 8 := by omega
          have hb8 : longA m 8 = (bytesV (be8 m)).toArray := rfl
          rw [hb8] at L0
          clear hb8
          have HB5 : Hid (Below w2.heap.size w2 wp) := Lib.hid (HB.out.trans (LB.out.mono (by have := HB.out.size; have := HGL.out; omega)))
          have hO5 := owns_on HO.out (by have := LB.out; rw [HGL.out] at this; exact this)
          have HO5 := Lib.hid hO5
          clear hO5
          obtain ⟨S2, hS2⟩ : ∃ S2, S2 = wordsOf S (rest ++ padL n) := ⟨_, rfl⟩
          have HS2 := Lib.hid hS2
          clear hS2
          have hb26 : w.heap.size + 1 + 1 < w2.heap.size := X2.out.lt
          have P0 : Hid (Box wp w.heap.size 35 tabA) := Lib.hid (X0.out.below HB5.out X0.out.lt)
          have P1 : Hid (Box wp (w.heap.size + 1) 33 (stA S)) := Lib.hid (X1.out.below HB5.out X1.out.lt)
          have P2 : Hid (Box wp (w.heap.size + 1 + 1) 26 (part z8 [] 32 0)) := Lib.hid (X2.out.below HB5.out X2.out.lt)
          have PB : Hid (Below w.heap.size w wp) := Lib.hid (B2.out.trans (HB5.out.mono (by omega)))
          have HLB : Hid (rest ++ 128 :: List.replicate k 0 ++ be8 m = rest ++ padL n) := Lib.hid (by
            unfold padL
            rw [← HZ.out, ← HM.out, Nat.mod_eq_of_lt (show m < 18446744073709551616 by omega)]
            simp)
          have HLN : Hid ((rest ++ padL n).length ≤ 1000) := Lib.hid (by
            rw [← HLB.out, List.length_append, List.length_append, List.length_cons, List.length_replicate, ← HR.out]
            simp [be8]
            omega)
          have HOL : Hid ((bytesV (rest ++ 128 :: List.replicate k 0)).length = y) := Lib.hid (by
            rw [bytesV_len, List.length_append, List.length_cons, List.length_replicate, ← HR.out, HY.out]
            omega)
          have HYB : Hid (y ≤ 200) := Lib.hid (by have := HY.out; omega)
          have HW2 : Hid (w2.heap.size ≤ wp.heap.size) := Lib.hid HB5.out.size
          clear X0 X1 X2 B2 HB HB5 HO LB HEX HGL HM
          go_wp2_with fail
          go_cut [40, 41, 42, 43, 44, 45] (fun _ _ _ _ _ _ wx => Hid (Box wx (w.heap.size + 1) 33 (stA S2)) ∧ Hid (Box wx (w.heap.size + 1 + 1) 26 (part z8 [] 32 0)) ∧ Hid (Below w.heap.size w wx))
          case first =>
            rename_i J3 K3 hJ3 hK3
            have hu := Tryd.underlying35
            have hi := tabV_len
            refine wp_region_held_drew (S := fun w' => Box w' w.heap.size 35 tabA ∧ Below w.heap.size w w') (by kernel_rfl) ⟨P0.out.drew, PB.out.drew⟩ (fun hHeld => ?_)
            have P1 := P1.out.drew
            have P2 := P2.out.drew
            have PO : wp.drew.ownsRow w2.heap.size 5 1 (.slice a y c) y (bytesV (rest ++ 128 :: List.replicate k 0)) := HO5.out
            have PL : Box wp.drew gl 86 (bytesV (be8 m)).toArray := L0.out.drew
            have PW : w2.heap.size ≤ wp.drew.heap.size := HW2.out
            generalize wp.drew = W at P1 P2 PO PL PW hHeld ⊢
            refine wpAnyH_take (i := 0) (oi := { dst := some 40, op := Op.load 35 (Operand.tmp 4), type := 35, pos := "ref.go:155", after := #[], guard := none }) (v := _) rfl (by kernel_rfl) (by kernel_rfl) (by kernel_rfl) (fun _ _ _ h => h) (yieldsIf_load_mid (by rfl) 35 (.tmp 4) rfl w.heap.size 0 rfl tabV _ (fun _ h => range_cells (t := 35) (by rw [tabV_eq]; exact h.1)) hu rfl hi) hHeld ?_
            rw [tabV_eq]
            (try simp only [Act.put, List.setIfInBounds_toArray, List.set_cons_zero, List.set_cons_succ])
            refine wpAnyH_take (i := 2) (oi := { dst := some 42, op := Op.move (Operand.tmp 9), type := 24, pos := "ref.go:155", after := #[], guard := none }) (v := ?_) rfl (by kernel_rfl) (by kernel_rfl) (by kernel_rfl) (fun _ _ _ h => h) (Or.inl ⟨by rfl, ?_⟩) hHeld ?_
            rotate_left
            · (intro w hSw; go_simp; try with_reducible rfl)
            (try simp only [Act.put, List.setIfInBounds_toArray, List.set_cons_zero, List.set_cons_succ])
            refine wpAnyH_take (i := 3) (oi := { dst := some 43, op := Op.slice 86 (Operand.tmp 11) none none none, type := 24, pos := "ref.go:155", after := #[], guard := none }) (v := ?_) rfl (by kernel_rfl) (by kernel_rfl) (by kernel_rfl) (fun _ _ _ h => h) (Or.inl ⟨by rfl, ?_⟩) hHeld ?_
            rotate_left
            · (intro w hSw; go_simp; try with_reducible rfl)
            (try simp only [Act.put, List.setIfInBounds_toArray, List.set_cons_zero, List.set_cons_succ])
            refine wpAnyH_ready (rs := [1, 4]) (by kernel_rfl) (by simp) (AllReadyH.cons (o := { dst := some 41, op := Op.load 33 (Operand.tmp 5), type := 33, pos := "ref.go:155", after := #[], guard := none }) rfl (fun K hK => ?_) (AllReadyH.cons (o := { dst := some 44, op := Op.call { callee := Callee.builtin Builtin.append, args := #[Operand.tmp 42, Operand.tmp 43], argTypes := #[24, 24] }, type := 24, pos := "ref.go:155", after := #[{ on := 2, ground := Ground.data }, { on := 3, ground := Ground.data }], guard := none }) rfl (fun K hK => ?_) AllReadyH.nil))
            · refine wp_loadE (by rfl) 33 (.tmp 5) rfl (w.heap.size + 1) 33 (stA S) rfl P1 (.array 8 30) Tryd.underlying33 rfl (info33s _) ?_
              refine hK.out _ _ hHeld (fun hHeld => ?_)
              (try simp only [Act.put, List.setIfInBounds_toArray, List.set_cons_zero, List.set_cons_succ])
              refine wpAnyH_ready (rs := [4]) (by kernel_rfl) (by simp) (AllReadyH.cons (o := { dst := some 44, op := Op.call { callee := Callee.builtin Builtin.append, args := #[Operand.tmp 42, Operand.tmp 43], argTypes := #[24, 24] }, type := 24, pos := "ref.go:155", after := #[{ on := 2, ground := Ground.data }, { on := 3, ground := Ground.data }], guard := none }) rfl (fun K hK => ?_) AllReadyH.nil)
              · refine wp_append_bytes (by rfl) (.tmp 42) (.tmp 43) rfl w2.heap.size _ (bytesV (rest ++ 128 :: List.replicate k 0)) rfl (by rw [HOL.out]; exact PO) gl 8 8 (bytesV (be8 m)) rfl rfl (fun j u hu => PL.cell (by rw [List.getElem?_toArray]; exact hu)) (bytesV_one _) PW (by rw [HOL.out, bytesV_len]; have := HYB.out; simp [be8]; omega) ?_
                intro v9 w9 hown9 hgr9
                have hb9 := (Below.refl w2.heap.size _).grown hgr9 PW (fun k hk => (PO.lt k hk).1)
                have P1 := P1.below hb9 (by omega)
                have P2 := P2.below hb9 hb26
                have hb9' := hHeld.2.trans (hb9.mono (by omega))
                have P0 := hHeld.1.below hb9 (by omega)
                rw [bytesV_app, HLB.out] at hown9
                have PO := Rd.of_own hown9
                refine hK.out _ _ ⟨P0, hb9'⟩ (fun hHeld => ?_)
                (try simp only [Act.put, List.setIfInBounds_toArray, List.set_cons_zero, List.set_cons_succ])
                refine wpAnyH_ready (rs := [5]) (by kernel_rfl) (by simp) (AllReadyH.cons (o := { dst := some 45, op := Op.call { callee := Callee.value (Operand.func 30), args := #[Operand.tmp 40, Operand.tmp 41, Operand.tmp 44], argTypes := #[35, 33, 24] }, type := 33, pos := "ref.go:155", after := #[{ on := 0, ground := Ground.data }, { on := 1, ground := Ground.data }, { on := 4, ground := Ground.data }, { on := 4, ground := Ground.chain }], guard := none }) rfl (fun K hK => ?_) AllReadyH.nil)
                · go_simp
                  refine (words_any S (rest ++ padL n) v9 _ PO (by have := HLN.out; omega)).mono ?_
                  rintro e wa ⟨rfl, hba⟩
                  rw [← HS2.out]
                  have P1 := P1.below hba P1.lt
                  have P2 := P2.below hba P2.lt
                  have P0 := hHeld.1.below hba hHeld.1.lt
                  refine hK.out _ _ ⟨P0, bch hHeld.2 hba⟩ (fun hHeld => ?_)
                  (try simp only [Act.put, List.setIfInBounds_toArray, List.set_cons_zero, List.set_cons_succ])
                  refine wpAnyH_ready (rs := [6]) (by kernel_rfl) (by simp) (AllReadyH.cons (o := { dst := none, op := Op.store 33 (Operand.tmp 5) (Operand.tmp 45), type := 0, pos := "ref.go:155", after := #[{ on := 5, ground := Ground.data }, { on := 5, ground := Ground.chain }, { on := 0, ground := Ground.phase }, { on := 1, ground := Ground.phase }, { on := 2, ground := Ground.phase }, { on := 3, ground := Ground.phase }, { on := 4, ground := Ground.phase }, { on := 5, ground := Ground.phase }], guard := none }) rfl (fun K hK => ?_) AllReadyH.nil)
                  · refine wp_storeE (by rfl) 33 (.tmp 5) (.tmp 45) rfl (w.heap.size + 1) 33 (stA S) (stA S2) rfl rfl P1 info33 rfl (stA_one S2) ?_
                    have P1 := P1.row (stA S2)
                    have P2 := P2.far_row (k := w.heap.size + 1 + 1) (g := w.heap.size + 1) (by omega) (stA S2)
                    have P0 := hHeld.1.far_row (g := w.heap.size + 1) (by omega) (stA S2)
                    refine hK.out _ _ ⟨P0, below_row hHeld.2 (by omega) _⟩ (fun hHeld => ?_)
                    (try simp only [Act.put])
                    refine wpAnyH_done (by kernel_rfl) ?_ _
                    first | refine hK3 _ _ (Met.intro (hJ3 _ _ ?_)) | refine Met.intro (hJ3 _ _ ?_)
                    (repeat apply Exists.intro)
                    refine ⟨?_, rfl⟩
                    exact ⟨Lib.hid P1, Lib.hid P2, Lib.hid hHeld.2⟩
            · refine wp_append_bytes (by rfl) (.tmp 42) (.tmp 43) rfl w2.heap.size _ (bytesV (rest ++ 128 :: List.replicate k 0)) rfl (by rw [HOL.out]; exact PO) gl 8 8 (bytesV (be8 m)) rfl rfl (fun j u hu => PL.cell (by rw [List.getElem?_toArray]; exact hu)) (bytesV_one _) PW (by rw [HOL.out, bytesV_len]; have := HYB.out; simp [be8]; omega) ?_
              intro v9 w9 hown9 hgr9
              have hb9 := (Below.refl w2.heap.size _).grown hgr9 PW (fun k hk => (PO.lt k hk).1)
              have P1 := P1.below hb9 (by omega)
              have P2 := P2.below hb9 hb26
              have hb9' := hHeld.2.trans (hb9.mono (by omega))
              have P0 := hHeld.1.below hb9 (by omega)
              rw [bytesV_app, HLB.out] at hown9
              have PO := Rd.of_own hown9
              refine hK.out _ _ ⟨P0, hb9'⟩ (fun hHeld => ?_)
              (try simp only [Act.put, List.setIfInBounds_toArray, List.set_cons_zero, List.set_cons_succ])
              refine wpAnyH_ready (rs := [1]) (by kernel_rfl) (by simp) (AllReadyH.cons (o := { dst := some 41, op := Op.load 33 (Operand.tmp 5), type := 33, pos := "ref.go:155", after := #[], guard := none }) rfl (fun K hK => ?_) AllReadyH.nil)
              · refine wp_loadE (by rfl) 33 (.tmp 5) rfl (w.heap.size + 1) 33 (stA S) rfl P1 (.array 8 30) Tryd.underlying33 rfl (info33s _) ?_
                refine hK.out _ _ hHeld (fun hHeld => ?_)
                (try simp only [Act.put, List.setIfInBounds_toArray, List.set_cons_zero, List.set_cons_succ])
                refine wpAnyH_ready (rs := [5]) (by kernel_rfl) (by simp) (AllReadyH.cons (o := { dst := some 45, op := Op.call { callee := Callee.value (Operand.func 30), args := #[Operand.tmp 40, Operand.tmp 41, Operand.tmp 44], argTypes := #[35, 33, 24] }, type := 33, pos := "ref.go:155", after := #[{ on := 0, ground := Ground.data }, { on := 1, ground := Ground.data }, { on := 4, ground := Ground.data }, { on := 4, ground := Ground.chain }], guard := none }) rfl (fun K hK => ?_) AllReadyH.nil)
                · go_simp
                  refine (words_any S (rest ++ padL n) v9 _ PO (by have := HLN.out; omega)).mono ?_
                  rintro e wa ⟨rfl, hba⟩
                  rw [← HS2.out]
                  have P1 := P1.below hba P1.lt
                  have P2 := P2.below hba P2.lt
                  have P0 := hHeld.1.below hba hHeld.1.lt
                  refine hK.out _ _ ⟨P0, bch hHeld.2 hba⟩ (fun hHeld => ?_)
                  (try simp only [Act.put, List.setIfInBounds_toArray, List.set_cons_zero, List.set_cons_succ])
                  refine wpAnyH_ready (rs := [6]) (by kernel_rfl) (by simp) (AllReadyH.cons (o := { dst := none, op := Op.store 33 (Operand.tmp 5) (Operand.tmp 45), type := 0, pos := "ref.go:155", after := #[{ on := 5, ground := Ground.data }, { on := 5, ground := Ground.chain }, { on := 0, ground := Ground.phase }, { on := 1, ground := Ground.phase }, { on := 2, ground := Ground.phase }, { on := 3, ground := Ground.phase }, { on := 4, ground := Ground.phase }, { on := 5, ground := Ground.phase }], guard := none }) rfl (fun K hK => ?_) AllReadyH.nil)
                  · refine wp_storeE (by rfl) 33 (.tmp 5) (.tmp 45) rfl (w.heap.size + 1) 33 (stA S) (stA S2) rfl rfl P1 info33 rfl (stA_one S2) ?_
                    have P1 := P1.row (stA S2)
                    have P2 := P2.far_row (k := w.heap.size + 1 + 1) (g := w.heap.size + 1) (by omega) (stA S2)
                    have P0 := hHeld.1.far_row (g := w.heap.size + 1) (by omega) (stA S2)
                    refine hK.out _ _ ⟨P0, below_row hHeld.2 (by omega) _⟩ (fun hHeld => ?_)
                    (try simp only [Act.put])
                    refine wpAnyH_done (by kernel_rfl) ?_ _
                    first | refine hK3 _ _ (Met.intro (hJ3 _ _ ?_)) | refine Met.intro (hJ3 _ _ ?_)
                    (repeat apply Exists.intro)
                    refine ⟨?_, rfl⟩
                    exact ⟨Lib.hid P1, Lib.hid P2, Lib.hid hHeld.2⟩
          case rest =>
            clear P0 P1 P2 PB HO5 L0
            obtain ⟨Q1, Q2, QB⟩ := hcut
            obtain ⟨gd, hgd⟩ : ∃ q, q = wc.heap.size := ⟨_, rfl⟩
            have hg2 : w.heap.size + 1 + 1 < gd := by rw [hgd]; exact Q2.out.lt
            obtain ⟨w8, hw8⟩ : ∃ q, q = wc.alloc (.cells (part z8 (bytesV (digestL S2)) 32 0) 26) := ⟨_, rfl⟩
            have E1 : Hid (Box w8 (w.heap.size + 1) 33 (stA S2)) := Lib.hid (by rw [hw8]; exact Q1.out.alloc _)
            have E2 : Hid (Box w8 (w.heap.size + 1 + 1) 26 (part z8 [] 32 0)) := Lib.hid (by rw [hw8]; exact Q2.out.alloc _)
            have E3 : Hid (Box w8 gd 26 (part z8 (bytesV (digestL S2)) 32 0)) := Lib.hid (by rw [hw8]; exact box_new _ _ _ hgd)
            have EB : Hid (Below w.heap.size w w8) := Lib.hid (by rw [hw8]; exact QB.out.alloc QB.out.size _)
            have HGD := Lib.hid hgd
            clear hgd Q1 Q2 QB
            go_wp2_with (with_reducible refine wpList_zero rfl 26 rfl (part z8 (bytesV (digestL S2)) 32 0) (zero26 _) ?_)
            rw [← hw8, ← HGD.out]
            clear hw8 HGD
            go_loopw [14, 15, 46, 47, 48, 49, 50, 51, 52, 53, 54, 55, 56, 57, 58, 59, 60, 61, 62, 63, 64, 65, 66] (fun _ _ i _ _ _ _ _ _ _ _ _ _ _ _ _ _ _ _ _ _ _ _ wr => ∃ t : Nat, t ≤ 32 ∧ i = .int .i64 (t : Int) ∧ Hid (Box wr (w.heap.size + 1) 33 (stA S2)) ∧ Hid (Box wr (w.heap.size + 1 + 1) 26 (part z8 [] 32 0)) ∧ Hid (Box wr gd 26 (part z8 (bytesV (digestL S2)) 32 t)) ∧ Hid (Below w.heap.size w wr)) (fun _ _ i _ _ _ _ _ _ _ _ _ _ _ _ _ _ _ _ _ _ _ _ _ => 32 - (Lib.intOf i).toNat)
            case atStart => exact ⟨0, Nat.zero_le _, rfl, E1, E2, E3, EB⟩
            case round =>
              clear E1 E2 E3 EB
              obtain ⟨t, ht, rfl, E1, E2, E3, EB⟩ := hrel
              obtain ⟨w9, hw9⟩ : ∃ q, q = wr := ⟨_, rfl⟩
              rw [← hw9] at E1 E2 E3 EB ⊢
              clear hw9
              by_cases h32 : t < 32
              · have t1 : (t : Int) < 32 := by omega
                have t0 : (0 : Int) ≤ (t : Int) := by omega
                obtain ⟨x, hx, hc⟩ := word_of (s := S2) (q := t / 4) (by omega)
                obtain ⟨q, hq⟩ : ∃ q, q = t / 4 := ⟨_, rfl⟩
                obtain ⟨u_, hu_⟩ : ∃ u_, u_ = 3 - t % 4 := ⟨_, rfl⟩
                rw [← hq] at hx hc
                have e1 : (t : Int) / 4 = (q : Int) := by omega
                have e2 : (3 : Int) - (t : Int) % 4 = (u_ : Int) := by omega
                have q1 : q < 8 := by omega
                have q2 : (q : Int) < 8 := by omega
                have q0 : (0 : Int) ≤ (q : Int) := by omega
                have u1 : u_ < 4 := by omega
                have cx := E1.out.cell hc
                have HBY : Hid (b8 (byteAt S2 t) = .int .u8 ((x.toNat : Int) / 2 ^ (8 * u_) % 256)) := Lib.hid (byte_at hx hq (by omega))
                clear hx hc hq hu_
                go_wp2_with fail
                go_loop [15, 56, 57, 58, 59, 60] (fun x_ i _ _ _ _ => ∃ k : Nat, k ≤ u_ ∧ i = .int .i64 (k : Int) ∧ x_ = .int .u32 ((x.toNat / 2 ^ (8 * k) : Nat) : Int)) (fun _ i _ _ _ _ => u_ - (Lib.intOf i).toNat)
                case atStart => exact ⟨0, Nat.zero_le _, rfl, by rw [Nat.mul_zero, Nat.pow_zero, Nat.div_one]⟩
                case round =>
                  obtain ⟨k, hk, rfl, rfl⟩ := hrel
                  obtain ⟨d, hd⟩ : ∃ d, d = x.toNat / 2 ^ (8 * k) := ⟨_, rfl⟩
                  have hdl : d < 4294967296 := by rw [hd]; exact Nat.lt_of_le_of_lt (Nat.div_le_self _ _) x.isLt
                  rw [← hd]
                  by_cases hku : k < u_
                  · have k1 : (k : Int) < (u_ : Int) := by omega
                    have k4 : IntKind.i64.wrap ((k : Int) + 1) = (k : Int) + 1 := IntWalk.i64_in _ (by omega)
                    have d4 : IntKind.u32.wrap ((d : Int) / 256) = (d : Int) / 256 := by rw [wrap_u32]; omega
                    have HD : Hid (d / 256 = x.toNat / 2 ^ (8 * (k + 1))) := Lib.hid (by rw [hd, div_next])
                    clear hd
                    go_wp2_with fail
                    go_round
                    case rel => exact ⟨k + 1, hku, by go_num, by rw [← HD.out]; rfl⟩
                    case measure => simp [Lib.intOf]; omega
                  · have k1 : ¬ ((k : Int) < (u_ : Int)) := by omega
                    obtain rfl : k = u_ := by omega
                    have HD : Hid ((d : Int) = (x.toNat : Int) / 2 ^ (8 * k)) := Lib.hid (by rw [hd, Int.natCast_ediv, Int.natCast_pow]; rfl)
                    have c1 := E3.out.cell (part_next (z := z8) (l := bytesV (digestL S2)) (n := 32) h32 (by rw [bytesV_len, digestL_len]; omega))
                    have f1 := E3.out.frozen t
                    have HC := Lib.hid (digest_at (s := S2) h32)
                    clear hd
                    go_wp2_with fail
                    go_roundw
                    case rel =>
                      refine ⟨t + 1, h32, by go_num, Lib.hid (E1.out.far (by dsimp only; omega) _), Lib.hid (E2.out.far (by dsimp only; omega) _), Lib.hid ?_, Lib.hid (EB.out.setCell (by dsimp only; omega) _)⟩
                      have := E3.out.set (k := t) (b8 (byteAt S2 t))
                      rw [part_set h32 HC.out, HBY.out, ← HD.out] at this
                      exact this
                    case measure => simp [Lib.intOf]; omega
              · have t1 : ¬ ((t : Int) < 32) := by omega
                obtain rfl : t = 32 := by omega
                have E4 : Hid (Box w9 gd 26 (bytesA (digestL S2))) := Lib.hid (by have := E3.out; rw [part_full (by rw [bytesV_len, digestL_len])] at this; exact this)
                have hi26 : (Tryd.prog.info? 26).map (·.size) = some (bytesA (digestL S2)).size := by rw [info26]; simp [bytesA, bytesV_len, digestL_len]
                clear E3
                go_wp2_with (first
                  | (refine wpList_load_row rfl 26 (.tmp 13) rfl gd rfl 26 (bytesA (digestL S2)) (0, 0) (.array 32 5) E4.out Tryd.underlying26 rfl hi26 ?_)
                  | (refine wpList_store_row rfl 26 (.tmp 8) (.tmp 67) rfl (w.heap.size + 1 + 1) (bytesA (digestL S2)) rfl rfl 26 (part z8 [] 32 0) E2.out hi26 (zeros32 _ (digestL_len _)) (bytesA_one _) ?_))
                rw [← HS2.out]
                exact bodyPost_ret (results_cell_row rfl _ _ (w.heap.size + 1 + 1) 26 (bytesA (digestL S2)) (0, 0) (.array 32 5) rfl (setRow_heap _ _ _ _ _ _ E2.out) Tryd.underlying26 rfl hi26) rfl ⟨rfl, below_row EB.out (by omega) _⟩
end Go.Proofs.YtkenbppoldfecaaDoor
