/- Proved here: slices.Equal, Same, few, own, Below and Kids of package tree, and wakes of puncheonlaw06, which returns true. -/
import Derived.Test.YtemhdjplhafmiaaDoorWEq
import Derived.Test.YtemhdjplhafmiaaDoorOGrow
import Derived.Laws.StructEq
import Derived.Test.YtemhdjplhafmiaaDoorOMov0
import Derived.Test.YtemhdjplhafmiaaDoorOBusy
import Derived.Test.YtemhdjplhafmiaaDoorParts
import Derived.Test.YtemhdjplhafmiaaDoorORun
namespace Go.Proofs.YtemhdjplhafmiaaDoor
open Go.RowKit Go.Shelf

theorem neq35 (x y : It) (b : Bool) (hb : b = !decide (x = y)) (w : World) : (binOp .neq 35 (.agg #[.string ⟨x.path.toArray⟩, .int .i64 x.kind, .string ⟨x.data.toArray⟩]) (.agg #[.string ⟨y.path.toArray⟩, .int .i64 y.kind, .string ⟨y.data.toArray⟩])).run Tryd.prog w = .ok (.bool b) w := by
  rw [run_neq_struct, eq35, hb]
  rfl
theorem guard35 : Tryd.prog.eqGuardType Tryd.prog.depth 35 = false := by kernel_rfl
theorem list_ne {α : Type} {l m : List α} {k : Nat} {x y : α} (hx : l[k]? = some x) (hy : m[k]? = some y) (h : x ≠ y) : l ≠ m := fun e => by
  subst e
  exact h (Option.some.inj (hx.symm.trans hy))
def EqR (b : Bool) (w : World) (e : Ending) (w' : World) : Prop := e = .returned (.bool b) ∧ Below w.heap.size w w'

set_option maxRecDepth 100000 in
set_option maxHeartbeats 2000000 in
theorem equal_any (l m : List It) (v1 v2 : Value) (w : World) (h1 : RdI w v1 l) (h2 : RdI w v2 m) : Calls Tryd.prog 33 #[v1, v2] w (EqR (decide (l = m)) w) := by
  obtain ⟨a1, cap1, rfl, hlc1, hcm1, hc1⟩ := h1.open
  obtain ⟨a2, cap2, rfl, hlc2, hcm2, hc2⟩ := h2.open
  unfold maxLen at hcm1 hcm2
  by_cases hlen : l.length = m.length
  · rw [← hlen] at hlc2 hc2 ⊢
    obtain ⟨n, hn⟩ : ∃ n, n = l.length := ⟨_, rfl⟩
    rw [← hn] at hlc1 hlc2 hc1 hc2
    rw [← hn]
    have HN := Lib.hid hn
    have HNM : Hid (n = m.length) := Lib.hid (hn.trans hlen)
    have H1 := Lib.hid hc1
    have H2 := Lib.hid hc2
    clear hn hc1 hc2 hlen h1 h2
    have t0 : ((n : Int) == (n : Int)) = true := by simp
    go_enter Tryd.func33, Tryd.ntmps33
    go_wp2
    go_loopw [5, 13, 14, 15, 16, 17, 18, 19, 20, 21, 22, 23, 24, 25] (fun _ i _ _ _ _ _ _ _ _ _ _ _ _ wr => ∃ k : Nat, k ≤ n ∧ i = .int .i64 k ∧ Hid (∀ j, j < k → l[j]? = m[j]?) ∧ Below w.heap.size w wr) (fun _ i _ _ _ _ _ _ _ _ _ _ _ _ _ => n - (Lib.intOf i).toNat)
    case atStart => exact ⟨0, Nat.zero_le _, rfl, Lib.hid (fun j h => by omega), Below.refl _ _⟩
    case round =>
      obtain ⟨k, hk, rfl, HE, hB⟩ := hrel
      by_cases hlt : k < n
      · obtain ⟨p, hp⟩ : ∃ p, l[k]? = some p := ⟨_, List.getElem?_eq_getElem (by have := HN.out; omega)⟩
        obtain ⟨q, hq⟩ : ∃ q, m[k]? = some q := ⟨_, List.getElem?_eq_getElem (by have := HNM.out; omega)⟩
        obtain ⟨g1, o1, rfl, hg1, hc1⟩ := H1.out (by omega)
        obtain ⟨g2, o2, rfl, hg2, hc2⟩ := H2.out (by omega)
        obtain ⟨q0, q1, q2⟩ := hc1 k p hp
        obtain ⟨s0, s1, s2⟩ := hc2 k q hq
        have r0 := (hB.cell (p := ⟨g1, _, none⟩) hg1).trans q0
        have r1 := (hB.cell (p := ⟨g1, _, none⟩) hg1).trans q1
        have r2 := (hB.cell (p := ⟨g1, _, none⟩) hg1).trans q2
        have x0 := (hB.cell (p := ⟨g2, _, none⟩) hg2).trans s0
        have x1 := (hB.cell (p := ⟨g2, _, none⟩) hg2).trans s1
        have x2 := (hB.cell (p := ⟨g2, _, none⟩) hg2).trans s2
        have hgd := guard35
        have HP := Lib.hid hp
        have HQ := Lib.hid hq
        clear q0 q1 q2 s0 s1 s2 hc1 hc2 hp hq
        by_cases hpq : p = q
        · have hne := neq35 p q false (by simp [hpq])
          have HE' : Hid (∀ j, j < k + 1 → l[j]? = m[j]?) := Lib.hid (fun j hj => by
            by_cases e : j = k
            · subst e; rw [HP.out, HQ.out, hpq]
            · exact HE.out j (by omega))
          clear hpq
          go_wp2
          go_region
          go_wp2
          go_roundw
          case rel => exact ⟨k + 1, hlt, by go_num, HE', hB.drew⟩
          case measure => simp [Lib.intOf]; omega
        · have hne := neq35 p q true (by simp [hpq])
          have HD : Hid (decide (l = m) = false) := Lib.hid (decide_eq_false (list_ne HP.out HQ.out hpq))
          clear hpq
          go_wp2
          go_region
          go_wp2
          go_ret
          exact ⟨by rw [HD.out]; rfl, hB.drew⟩
      · have HD : Hid (decide (l = m) = true) := Lib.hid (decide_eq_true (List.ext_getElem? fun j => by
          by_cases h : j < k
          · exact HE.out j h
          · rw [List.getElem?_eq_none (by have := HN.out; omega), List.getElem?_eq_none (by have := HNM.out; omega)]))
        go_wp2
        go_ret
        exact ⟨by rw [HD.out]; rfl, hB⟩
  · have t0 : ((l.length : Int) == (m.length : Int)) = false := by simpa using fun h => hlen (by omega)
    have HD : decide (l = m) = false := decide_eq_false fun e => hlen (by rw [e])
    obtain ⟨n1, hn1⟩ : ∃ n, n = l.length := ⟨_, rfl⟩
    obtain ⟨n2, hn2⟩ : ∃ n, n = m.length := ⟨_, rfl⟩
    rw [← hn1, ← hn2] at t0 ⊢
    rw [HD]
    clear hc1 hc2 h1 h2 hlen HD hlc1 hlc2 hn1 hn2
    have t1 : ¬ (n1 : Int) = (n2 : Int) := by simpa using t0
    go_enter Tryd.func33, Tryd.ntmps33
    go_wp2
    go_ret
    exact ⟨rfl, Below.refl _ _⟩

set_option maxRecDepth 100000 in
set_option maxHeartbeats 1000000 in
theorem same_any (l m : List It) (v1 v2 : Value) (w : World) (h1 : RdI w v1 l) (h2 : RdI w v2 m) : Calls Tryd.prog 14 #[.agg #[v1], .agg #[v2]] w (EqR (decide (l = m)) w) := by
  obtain ⟨w1, hw1⟩ : ∃ z, z = (w.alloc (.cells #[v1] 24)).alloc (.cells #[v2] 24) := ⟨_, rfl⟩
  have X : Box w1 w.heap.size 24 #[v1] := by rw [hw1]; exact box_new.alloc _
  have Y : Box w1 (w.heap.size + 1) 24 #[v2] := by rw [hw1, show w.heap.size + 1 = (w.alloc (.cells #[v1] 24)).heap.size from by simp]; exact box_new
  have HB : Hid (Below w.heap.size w w1) := Lib.hid (by rw [hw1]; exact bch (below_new _ _) (below_new _ _))
  have HE := Lib.hid (equal_any l m v1 v2 w1 (h1.on HB.out) (h2.on HB.out))
  obtain ⟨z, hz⟩ : ∃ z, z = decide (l = m) := ⟨_, rfl⟩
  rw [← hz] at HE ⊢
  obtain ⟨a1, c1, rfl, _⟩ := h1.open
  obtain ⟨a2, c2, rfl, _⟩ := h2.open
  have c0 := X.cell (k := 0) rfl
  have d0 := Y.cell (k := 0) rfl
  clear hz h1 h2
  go_enter Tryd.func14, Tryd.ntmps14
  go_upto_region 1 with fail
  rw [← hw1]
  clear hw1 X Y
  go_wp2_with fail
  refine HE.out.mono ?_
  rintro e w2 ⟨rfl, hb⟩
  go_wp2_with fail
  go_ret
  exact ⟨rfl, bch HB.out hb⟩

/-- The items that few keeps. -/
def fewL (l : List It) : List It := if 2000 < l.length then l.take 2001 else l.take 120
def FewR (l : List It) (w : World) (e : Ending) (w' : World) : Prop := ∃ x, e = .returned x ∧ OwnI w' w.heap.size x (fewL l) ∧ Below w.heap.size w w'
set_option maxRecDepth 100000 in
set_option maxHeartbeats 2000000 in
theorem few_any (l : List It) (v : Value) (w : World) (hv : RdI w v l) : Calls Tryd.prog 29 #[v] w (FewR l w) := by
  obtain ⟨a, c, rfl, hlc, hcm, _⟩ := hv.open
  obtain ⟨n, hn⟩ : ∃ n, n = l.length := ⟨_, rfl⟩
  have hv1 := hv
  rw [← hn] at hlc hv1 ⊢
  unfold maxLen at hcm
  by_cases hbig : 2000 < n
  · have hf : fewL l = l.take 2001 := if_pos (by omega)
    have HTK : RdI w (.slice a 2001 c) (l.take 2001) := RdI.take hn hv1 2001 (by omega)
    have HCL := Lib.hid (clone_any (l.take 2001) _ w HTK (by rw [List.length_take]; omega))
    have k1 : (2001 : Int) ≤ (c : Int) := by omega
    have k3 : (2000 : Int) < (n : Int) := by omega
    have hcI : (c : Int) ≤ 9223372036854775807 := by omega
    rw [show (2001 : Nat) = (l.take 2001).length by rw [List.length_take]; omega] at HTK
    obtain ⟨q, hq⟩ : ∃ q, q = (l.take 2001).length := ⟨_, rfl⟩
    have HQ := Lib.hid hq
    have HF := Lib.hid hf
    clear hv hv1 HTK hn hf hq
    go_enter Tryd.func29, Tryd.ntmps29
    go_wp2_with fail
    refine HCL.out.mono ?_
    rintro e w2 ⟨x', rfl, hown, hb2⟩
    go_wp2_with fail
    go_ret
    exact ⟨x', rfl, by rw [HF.out]; exact hown, hb2⟩
  · have hf : fewL l = l.take 120 := if_neg (by omega)
    obtain ⟨m, hm⟩ : ∃ m, m = min n 120 := ⟨_, rfl⟩
    have hmn : m ≤ n := by omega
    have HTK : RdI w (.slice a m c) (l.take 120) := by
      have := RdI.take hn hv1 m hmn
      rwa [show l.take m = l.take 120 by rw [List.take_eq_take_iff]; omega] at this
    have HCL := Lib.hid (clone_any (l.take 120) _ w HTK (by rw [List.length_take]; omega))
    have k1 : (m : Int) ≤ (c : Int) := by omega
    have k0 : (0 : Int) ≤ (m : Int) := by omega
    have k3 : ¬ (2000 : Int) < (n : Int) := by omega
    have hmm : min (n : Int) 120 = (m : Int) := by omega
    have hmx : m = n ∨ m = 120 := by omega
    have hcI : (c : Int) ≤ 9223372036854775807 := by omega
    have HF := Lib.hid hf
    clear hv hv1 HTK hn hf hm
    go_enter Tryd.func29, Tryd.ntmps29
    go_wp2_with fail
    refine HCL.out.mono ?_
    rintro e w2 ⟨x', rfl, hown, hb2⟩
    go_wp2_with fail
    go_ret
    exact ⟨x', rfl, by rw [HF.out]; exact hown, hb2⟩

def OwnR (l : List It) (w : World) (e : Ending) (w' : World) : Prop := ∃ x, e = .returned (.agg #[x]) ∧ OwnI w' w.heap.size x (fewL l) ∧ Below w.heap.size w w'
set_option maxRecDepth 100000 in
set_option maxHeartbeats 2000000 in
theorem own6_any (l : List It) (v : Value) (w : World) (hv : RdI w v l) : Calls Tryd.prog 9 #[.agg #[v]] w (OwnR l w) := by
  obtain ⟨w1, hw1⟩ : ∃ z, z = (w.alloc (.cells #[v] 24)).alloc (.cells #[.slice none 0 0] 24) := ⟨_, rfl⟩
  have X : Box w1 w.heap.size 24 #[v] := by rw [hw1]; exact box_new.alloc _
  have X1 : Hid (Box w1 (w.heap.size + 1) 24 #[.slice none 0 0]) := Lib.hid (by rw [hw1, show w.heap.size + 1 = (w.alloc (.cells #[v] 24)).heap.size from by simp]; exact box_new)
  have HB1 : Hid (Below w.heap.size w w1) := Lib.hid (by rw [hw1]; exact bch (below_new _ _) (below_new _ _))
  obtain ⟨b2, hb2⟩ : ∃ z, z = w.heap.size + 1 := ⟨_, rfl⟩
  rw [← hb2] at X1
  have HB2 : Hid (w.heap.size ≤ b2) := Lib.hid (by rw [hb2]; exact Nat.le_succ _)
  have c0 := X.cell (k := 0) rfl
  have HF := Lib.hid (few_any l v w1 (hv.on HB1.out))
  obtain ⟨a, c, rfl, _⟩ := hv.open
  clear hv X
  go_enter Tryd.func9, Tryd.ntmps9
  go_upto_region 1 with fail
  rw [← hw1, ← hb2]
  clear hw1 hb2
  go_wp2_with fail
  refine HF.out.mono ?_
  rintro e w2 ⟨x', rfl, hown, hb2⟩
  have HO := Lib.hid hown
  obtain ⟨a', n', c', rfl⟩ := own_any hown
  have X2 := Lib.hid (X1.out.on hb2)
  have HB3 := Lib.hid (bch HB1.out hb2)
  clear hown hb2 c0 HF
  go_wp2_with (refine wpList_store_row rfl 24 (.tmp 2) (.tmp 6) rfl b2 #[.slice a' n' c'] rfl rfl 24 _ X2.out (info24 _) rfl (slice_one _ _ _) ?_)
  exact bodyPost_ret (results_cell_row rfl _ _ b2 24 #[.slice a' n' c'] (0, 0) _ rfl (X2.out.row _) Tryd.underlying24 rfl (info24 _)) rfl
    ⟨_, rfl, own_base (own_grown HO.out (grown_row w2 b2 _) X1.out.lt) HB1.out.size, below_row HB3.out HB2.out _⟩
end Go.Proofs.YtemhdjplhafmiaaDoor

namespace Go.Proofs.YtemhdjplhafmiaaDoor
open Go.RowKit Go.Shelf
attribute [local go_sem] Oper.semAt_some

theorem ownR_far {w w' : World} {B e s n : Nat} {v : Value} {xs : List Value} (h : w.ownsRow B e s v n xs) (hb : ∀ k, v.ownBlock = some k → w'.heap[k]? = w.heap[k]?) : w'.ownsRow B e s v n xs := by
  obtain ⟨h1, hc⟩ := h
  rcases hc with h0 | ⟨g, c, cur, rfl, hB, hg, hr⟩
  · exact ⟨h1, .inl h0⟩
  · exact ⟨h1, .inr ⟨g, c, cur, rfl, hB, (hb g rfl).trans hg, hr⟩⟩
theorem ownR_form {w : World} {B e s n : Nat} {v : Value} {xs : List Value} (h : w.ownsRow B e s v n xs) : v.ownBlock = none ∨ ∃ b cs, v.ownBlock = some b ∧ B ≤ b ∧ w.heap[b]? = some (.cells cs e (0, 0)) := by
  rcases h.2 with ⟨rfl, _⟩ | ⟨g, c, cur, rfl, hB, hg, _⟩
  · exact .inl rfl
  · exact .inr ⟨g, cur, rfl, hB, hg⟩
theorem ownR_blk {w : World} {B e s n : Nat} {v : Value} {xs : List Value} (h : w.ownsRow B e s v n xs) {k : Nat} (hk : v.ownBlock = some k) : B ≤ k ∧ ∃ cs, w.heap[k]? = some (.cells cs e (0, 0)) := by
  rcases ownR_form h with q | ⟨b, cs, q, h1, h2⟩
  · rw [q] at hk; cases hk
  · rw [q] at hk; cases hk; exact ⟨h1, cs, h2⟩
theorem ownR_below {w w' : World} {B e s n : Nat} {v : Value} {xs : List Value} (h : w.ownsRow B e s v n xs) (hb : Below w.heap.size w w') : w'.ownsRow B e s v n xs :=
  ownR_far h fun k hk => by
    obtain ⟨_, cs, hc⟩ := ownR_blk h hk
    exact hb.block k (Array.getElem?_eq_some_iff.1 hc).1
theorem ownR_any {w : World} {B e s n : Nat} {v : Value} {xs : List Value} (h : w.ownsRow B e s v n xs) : ∃ a c, v = .slice a n c := by
  rcases h.2 with ⟨rfl, rfl⟩ | ⟨g, c, cur, rfl, _⟩
  · exact ⟨_, _, rfl⟩
  · exact ⟨_, _, rfl⟩

/-- What a gathering loop keeps: the box b (of type t) holds a row of its own. -/
def gI (V : World) (b t e s : Nat) {α : Type} (N : List α → Nat) (F : List α → List Value) (pre : List α) (W : World) : Prop :=
  ∃ v10, Box W b t #[v10] ∧ W.ownsRow V.heap.size e s v10 (N pre) (F pre) ∧ Nxt b (.slice none 0 0) v10 V W
theorem gI_own (V : World) (b t e s : Nat) {α : Type} (N : List α → Nat) (F : List α → List Value) : OwnFrom V.heap.size (gI V b t e s N F) := by
  rintro pre W W' row ⟨v10, hX, hO, hN⟩ hg hr
  have hne : ∀ r, row = some r → ∃ o : Obj, W.heap[r]? = some o ∧ o.isCells = false := fun r e => (hr r e).2
  refine ⟨v10, (hg.block _ hX.lt (cells_ne hX hne)).trans hX, ownR_far hO fun k hk => ?_, ⟨hg.os.trans hN.os, hg.tape.trans hN.tape, hg.output.trans hN.output, Nat.le_trans hN.size hg.size, fun k hk h2 h3 => ?_, hN.row⟩⟩
  · obtain ⟨_, cs, hc⟩ := ownR_blk hO hk
    exact hg.block _ (Array.getElem?_eq_some_iff.1 hc).1 (cells_ne hc hne)
  · refine (hg.block k (Nat.lt_of_lt_of_le hk hN.size) fun e => ?_).trans (hN.block k hk h2 h3)
    have := (hr k e.symm).1
    omega
theorem gI_on {V W W' : World} {b t e s : Nat} {α : Type} {N : List α → Nat} {F : List α → List Value} {pre : List α} (h : gI V b t e s N F pre W) (hb : Below W.heap.size W W') : gI V b t e s N F pre W' := by
  obtain ⟨v10, hX, hO, hN⟩ := h
  exact ⟨v10, hX.on hb, ownR_below hO hb, hN.trans (Nxt.below hb _ _)⟩
theorem gI_start {V : World} {b t e s : Nat} {α : Type} {N : List α → Nat} {F : List α → List Value} (hX : Box V b t #[.slice none 0 0]) (h0 : N [] = 0) (h1 : F [] = []) : gI V b t e s N F [] V :=
  ⟨_, hX, by rw [h0, h1]; exact World.ownsRow_nil _ _ _ _, ⟨rfl, rfl, rfl, Nat.le_refl _, fun _ _ _ _ => rfl, .inl rfl⟩⟩
/-- What a round that gathers comes to. -/
theorem gI_step {V W W5 w' : World} {b t e s : Nat} {α : Type} {N : List α → Nat} {F : List α → List Value} {pre : List α} {y : α} {v10 v' : Value} (hX : Box W b t #[v10]) (hO : W.ownsRow V.heap.size e s v10 (N pre) (F pre)) (hN : Nxt b (.slice none 0 0) v10 V W) (hbV : b < V.heap.size)
    (hb : Below W.heap.size W W5) (hown : w'.ownsRow V.heap.size e s v' (N (pre ++ [y])) (F (pre ++ [y]))) (hg : W5.grownBy w' v10.ownBlock) (S : Nat → Prop) (hS : ∀ k, S k → k < V.heap.size ∧ k ≠ b) :
    KeepsFrom V.heap.size W (w'.setCell ⟨b, 0, none⟩ v') ∧ LowK S W (w'.setCell ⟨b, 0, none⟩ v') ∧ gI V b t e s N F (pre ++ [y]) (w'.setCell ⟨b, 0, none⟩ v') := by
  have hVW := hN.size
  have hgW := hX.lt
  have hlow : ∀ k, v10.ownBlock = some k → V.heap.size ≤ k := fun k hk => (ownR_blk hO hk).1
  have keep : ∀ k, k < W.heap.size → k ≠ b → v10.ownBlock ≠ some k → (w'.setCell ⟨b, 0, none⟩ v').heap[k]? = W.heap[k]? := fun k h1 h3 h4 =>
    (heap_setCell_other _ _ _ _ h3).trans ((hg.block k (Nat.lt_of_lt_of_le h1 hb.size) (fun e => h4 e.symm)).trans (hb.block k h1))
  have hXw : Box w' b t #[v10] := (hg.block _ (Nat.lt_of_lt_of_le hgW hb.size) (fun e => by have := hlow b e.symm; omega)).trans ((hb.block _ hgW).trans hX)
  have hrow' : v'.ownBlock ≠ some b := fun e => by have := (ownR_blk hown e).1; omega
  have hsz : (w'.setCell ⟨b, 0, none⟩ v').heap.size = w'.heap.size := by simp
  have hsz2 := hg.size
  have hsz3 := hb.size
  refine ⟨⟨by omega, fun k ob hk hob hoc => ?_⟩, fun k hk => ?_, v', hXw.set (k := 0) v', ?_, ⟨?_, ?_, ?_, by omega, fun k h1 h2 h3 => ?_, .inr fun k hk => (ownR_blk hown hk).1⟩⟩
  · have hlt : k < W.heap.size := (Array.getElem?_eq_some_iff.1 hob).1
    rw [← hob]
    refine keep k hlt (fun e => by omega) (fun e => ?_)
    obtain ⟨_, cs, hc⟩ := ownR_blk hO e
    rw [hc] at hob; cases hob; cases hoc
  · obtain ⟨h1, h2⟩ := hS k hk
    exact keep k (by omega) h2 (fun e => by have := hlow k e; omega)
  · exact ownR_far hown fun k hk => heap_setCell_other _ _ _ _ (fun h => hrow' (by rw [hk, show k = b from h]))
  · exact hg.os.trans (hb.os.trans hN.os)
  · exact hg.tape.trans (hb.tape.trans hN.tape)
  · exact hg.output.trans (hb.output.trans hN.output)
  · exact (keep k (by omega) h2 (fun e => by have := hlow k e; omega)).trans (hN.block k h1 h2 h3)

def BelR (l : List It) (p : Str) (w : World) (e : Ending) (w' : World) : Prop := ∃ x, e = .returned x ∧ OwnI w' w.heap.size x (belowL l p) ∧ Below w.heap.size w w'
def itN {l : List It} {p : Str} (pre : List (Ben l p)) : Nat := (pre.map (·.1)).length
def itF {l : List It} {p : Str} (pre : List (Ben l p)) : List Value := flatI (pre.map (·.1))
theorem it_step {l : List It} {p : Str} (pre : List (Ben l p)) (y : Ben l p) : itN (pre ++ [y]) = itN pre + 1 ∧ itF (pre ++ [y]) = itF pre ++ flatI [y.1] := by
  unfold itN itF
  rw [List.map_append, flatI_append, List.length_append]
  exact ⟨rfl, rfl⟩

set_option maxRecDepth 100000 in
set_option maxHeartbeats 4000000 in
theorem below_any (B : Nat) (l : List It) (v : Value) (p : Str) (w : World) (ho : OwnI w B v l) (h : TreeOk l) (hp : p.length ≤ 140737488355328) (hT : Tabs w) :
    Calls Tryd.prog 28 #[.agg #[v], .string ⟨p.toArray⟩] w (BelR l p w) := by
  have hv : RdI w v l := RdF.of_own ho
  have hog : ∀ k, v.ownBlock = some k → k < w.heap.size := fun k e => by
    obtain ⟨_, cs, hc⟩ := ownR_blk ho e
    exact (Array.getElem?_eq_some_iff.1 hc).1
  have HOG := Lib.hid hog
  clear hog ho
  refine (callsIn_wide (n := 5)).1 ?_
  obtain ⟨w1, hw1⟩ : ∃ z, z = w.alloc (.cells #[v] 24) := ⟨_, rfl⟩
  obtain ⟨b2, hb2⟩ : ∃ z, z = w.heap.size := ⟨_, rfl⟩
  have HB1 : Hid (Below w.heap.size w w1) := Lib.hid (by rw [hw1]; exact below_new _ _)
  have X1 : Hid (Box w1 b2 24 #[v]) := Lib.hid (by rw [hw1, hb2]; exact box_new)
  have HVA := Lib.hid (tvalid_is l true ((valid_tree l).2 h).symm v w1 (hv.on HB1.out) (tree_sz h) (hT.on HB1.out))
  obtain ⟨a, c, rfl, _⟩ := hv.open
  obtain ⟨n, hn⟩ : ∃ n, n = l.length := ⟨_, rfl⟩
  rw [← hn] at hw1 X1 HVA HOG ⊢
  have HV : Hid (RdI w (.slice a n c) l) := Lib.hid (by rw [hn]; exact hv)
  have HOK := Lib.hid h
  have HBE : Hid (∀ W, Calls Tryd.prog 51 #[.slice a n c, .string ⟨p.toArray⟩] W fun e w' => e = .returned (.func (.func 76) #[] #[.pointer (some ⟨W.heap.size, 0, none⟩), .pointer (some ⟨W.heap.size + 1, 0, none⟩)]) ∧ (W.alloc (.cells #[.slice a n c] 22)).alloc (.cells #[.string ⟨p.toArray⟩] 9) = w') := Lib.hid (fun W => ben_any a n c p W)
  have HW1 := Lib.hid hw1
  have HB2 := Lib.hid hb2
  have c0 : (w.alloc (.cells #[.slice a n c] 24)).cell? ⟨w.heap.size, 0, none⟩ = some (.slice a n c) := by rw [← hw1, ← hb2]; exact X1.out.cell (k := 0) rfl
  clear hv h hT hw1 hb2 hn
  refine callsIn_of_wp_marks Tryd.func28 rfl trivial ?_ rfl
  simp only [Tryd.ntmps28, List.size_toArray, List.length_cons, List.length_nil, Nat.reduceAdd, Nat.reduceSub, Array.replicate_succ, Array.replicate_zero, List.push_toArray, List.append_toArray, List.nil_append, List.cons_append]
  gi_wp2_with (first | (refine ⟨trivial, ?_⟩; gi_at_call 30; rw [← HW1.out, ← HB2.out]; refine (callsIn_wide.2 HVA.out).mono ?_; rintro e w2 ⟨rfl, hb⟩; have X2 := Lib.hid (X1.out.on hb); have HB3 := Lib.hid (bch HB1.out hb); have p3 : (w2.alloc (.cells #[.slice none 0 0] 22)).cell? ⟨b2, 0, none⟩ = some (.slice a n c) := (X2.out.alloc _).cell (k := 0) rfl; clear hb c0))
  refine ⟨trivial, ?_⟩
  gi_at_call 51
  obtain ⟨b5, hb5⟩ : ∃ z, z = w2.heap.size := ⟨_, rfl⟩
  obtain ⟨w3, hw3⟩ : ∃ z, z = w2.alloc (.cells #[.slice none 0 0] 22) := ⟨_, rfl⟩
  have X5 : Hid (Box w3 b5 22 #[.slice none 0 0]) := Lib.hid (by rw [hw3, hb5]; exact box_new)
  have HB4 : Hid (Below w.heap.size w w3) := Lib.hid (by rw [hw3]; exact bch HB3.out (below_new _ _))
  have HG0 : Hid (w.heap.size < b5) := Lib.hid (by rw [hb5]; have := X2.out.lt; have := HB2.out; omega)
  rw [← hw3, ← hb5]
  clear hw3 hb5 p3
  refine (callsIn_wide.2 (HBE.out w3)).mono ?_
  rintro e V ⟨rfl, hV⟩
  have HV0 := Lib.hid hV
  clear hV
  gi_wp2
  have hV := HV0.out
  have hsV : V.heap.size = w3.heap.size + 2 := by rw [← hV]; simp
  have h53 := X5.out.lt
  have hw5 := HG0.out
  have HB5 : Below w3.heap.size w3 V := by rw [← hV]; exact bch (below_new _ _) (below_new _ _)
  have HBw : Hid (Below w.heap.size w V) := Lib.hid (bch HB4.out HB5)
  have Y5 : Box V b5 22 #[.slice none 0 0] := X5.out.on HB5
  have Y2 : Box V w3.heap.size 22 #[.slice a n c] := by rw [← hV]; exact box_new.alloc _
  have Y3 : Box V (w3.heap.size + 1) 9 #[.string ⟨p.toArray⟩] := by rw [← hV, show w3.heap.size + 1 = (w3.alloc (.cells #[.slice a n c] 22)).heap.size from by simp]; exact box_new
  have hvV : RdI V (.slice a n c) l := HV.out.on HBw.out
  obtain ⟨g0, hg0⟩ : ∃ g, b5 = g + 1 := ⟨b5 - 1, by omega⟩
  subst hg0
  have h0 : gI V (g0 + 1) 22 35 3 (itN (l := l) (p := p)) itF [] V := gI_start Y5 rfl rfl
  have HSS : Hid (∀ k, (k = w3.heap.size ∨ k = w3.heap.size + 1 ∨ (Value.slice a n c).ownBlock = some k) → k < V.heap.size ∧ k ≠ g0 + 1) := Lib.hid (fun k hk => by
    rcases hk with rfl | rfl | hk
    · omega
    · omega
    · have := HOG.out k hk; omega)
  have hgV : g0 + 1 < V.heap.size := by omega
  clear X5 Y5 HV0 hV HB5 HBE HVA
  refine wpIn_rangeFunc_ownH rfl (by omega) (gf := 76) (lb := #[.pointer (some ⟨w3.heap.size, 0, none⟩), .pointer (some ⟨w3.heap.size + 1, 0, none⟩)]) rfl trivial (enters_of Tryd.func76 (by kernel_rfl) rfl)
    (ben1_stops _ (by omega) w3.heap.size (w3.heap.size + 1) l (.slice a n c) p V Y2 Y3 hvV (srt_of HOK.out) HOK.out.many (tree_sz HOK.out) hp (fun k => k = w3.heap.size ∨ k = w3.heap.size + 1 ∨ (Value.slice a n c).ownBlock = some k) (fun k hk => (HSS.out k hk).1) (.inl rfl) (.inr (.inl rfl)) (fun g o n' c' e => .inr (.inr (by rw [e]; rfl)))) (fun h k => h.trans k)
    (fun W q o o' hq _ _ _ => lowk_put W q o' (fun hk => by have := (HSS.out _ hk).1; omega)) (Below.refl _ _) (fun _ => rfl)
    (gI V (g0 + 1) 22 35 3 itN itF) (fun _ _ _ => False) (gI_own V (g0 + 1) 22 35 3 itN itF) (fun _ _ _ _ _ hs _ _ => hs) h0
    (fun y a' W => ∃ Bx, mA V g0 y.1 Bx W ∧ a' = { tmps := #[.agg #[.slice a n c], .string ⟨p.toArray⟩, .pointer (some ⟨b2, 0, none⟩), undef, .slice none 0 0, .pointer (some ⟨g0 + 1, 0, none⟩), .pointer (some ⟨Bx, 0, none⟩), .pointer (some ⟨b2, 0, none⟩), .slice a n c, .bool true, .bool false, .pointer (some ⟨b2, 0, none⟩), .slice a n c, .string ⟨p.toArray⟩, .func (.func 76) #[] #[.pointer (some ⟨w3.heap.size, 0, none⟩), .pointer (some ⟨w3.heap.size + 1, 0, none⟩)], .agg y.1.arr, undef, undef, undef, undef, undef], defers := [] })
    ?own ?assign ?body ?done ?stop
  case own =>
    rintro y a' _ X Y row ⟨Bx, h1, h3⟩ hg hr
    exact ⟨Bx, mA_own (by omega) h1 hg hr, h3⟩
  case assign =>
    rintro q pre y X K ⟨v10, hX, hO, hN⟩ hK
    have e1 : (.agg y.1.arr : Value) = .agg #[.string ⟨y.1.path.toArray⟩, .int .i64 y.1.kind, .string ⟨y.1.data.toArray⟩] := rfl
    rw [e1]
    gi_wp2
    refine hK _ _ ((KeepsOthers.alloc _ _).from _) (fun k hk => Below.heap_alloc _ _ _ (by have := (HSS.out k hk).1; have := hN.size; omega)) ⟨v10, hX.alloc _, ownR_below hO (below_new _ _), hN.trans (Nxt.below (below_new _ _) _ _)⟩ ⟨X.heap.size, ⟨hN.size, heap_alloc_new X _, fun v hv e => ?_⟩, rfl⟩
    have hv2 := (hX.alloc (.cells y.1.arr 35)).cell (k := 0) rfl
    obtain rfl := Option.some.inj (hv2.symm.trans hv)
    obtain ⟨_, cs, hc⟩ := ownR_blk hO e
    have := (Array.getElem?_eq_some_iff.1 hc).1
    omega
  case body =>
    rintro q pre y a' W _ _ ⟨v10, hX, hO, hN⟩ ⟨Bx, hA, rfl⟩ hlen
    have hVW := hN.size
    obtain ⟨a1, c1, rfl⟩ := ownR_any hO
    obtain ⟨t0, t1, t2⟩ := hA.2.1.it
    have p10 : W.cell? ⟨g0 + 1, 0, none⟩ = some (.slice a1 (itN pre) c1) := hX.cell (k := 0) rfl
    have HIL : Hid (itN pre ≤ 2000) := Lib.hid (by
      have h1 := bel_le l p
      have h2 := HOK.out.many
      simp [itN]
      omega)
    obtain ⟨i0, hi, hz0, hz1, hz2⟩ := info_parts info35z
    obtain ⟨W7, hW7⟩ : ∃ z, z = W.alloc (.cells #[.string ⟨y.1.path.toArray⟩, .int .i64 y.1.kind, .string ⟨y.1.data.toArray⟩] 35) := ⟨_, rfl⟩
    have hB7 : Below W.heap.size W W7 := by rw [hW7]; exact below_new _ _
    have HOW : Hid (W7.ownsRow V.heap.size 35 3 (.slice a1 (itN pre) c1) (itN pre) (itF pre)) := Lib.hid (ownR_below hO hB7)
    have HZB : Hid (Box W7 W.heap.size 35 y.1.arr) := Lib.hid (by rw [hW7]; exact box_new)
    have HNW : Hid (∀ (j : Nat) (u : Value), (flatI [y.1])[j]? = some u → W7.cell? ((⟨W.heap.size, 0, none⟩ : Addr).add j) = some u) := Lib.hid (fun j u hu => by
      rw [add_to, Nat.zero_add]
      exact HZB.out.cell (by rw [← Array.getElem?_toList]; simpa [flatI, It.cells, It.arr] using hu))
    have HSZ7 : Hid (V.heap.size ≤ W7.heap.size) := Lib.hid (Nat.le_trans hVW hB7.size)
    have HXE : Hid (Box W7 (g0 + 1) 22 #[.slice a1 (itN pre) c1]) := Lib.hid (hX.on hB7)
    have HNG : Hid ((Value.slice a1 (itN pre) c1).ownBlock ≠ some (g0 + 1)) := Lib.hid (fun e => by have := (ownR_blk hO e).1; omega)
    have HFIN : Hid (∀ v' w', w'.ownsRow V.heap.size 35 3 v' (itN pre + 1) (itF pre ++ flatI [y.1]) → W7.grownBy w' (Value.slice a1 (itN pre) c1).ownBlock →
        KeepsFrom V.heap.size W (w'.setCell ⟨g0 + 1, 0, none⟩ v') ∧ LowK (fun k => k = w3.heap.size ∨ k = w3.heap.size + 1 ∨ (Value.slice a n c).ownBlock = some k) W (w'.setCell ⟨g0 + 1, 0, none⟩ v') ∧ gI V (g0 + 1) 22 35 3 itN itF (pre ++ [y]) (w'.setCell ⟨g0 + 1, 0, none⟩ v')) := Lib.hid (fun v' w' h1 h2 => by
      rw [← (it_step pre y).1, ← (it_step pre y).2] at h1
      exact gI_step hX hO hN hgV hB7 h1 h2 _ HSS.out)
    have HW7 := Lib.hid hW7
    obtain ⟨m, hm⟩ : ∃ m, m = itN pre := ⟨_, rfl⟩
    rw [← hm] at p10 HOW HXE HNG HFIN HIL
    clear hX hO hN hA hVW hlen hB7 hW7 hm
    gi_wp2_with (gi_at_builtin; rw [← HW7.out]; refine wpListIn_append_own_at _ rfl _ _ 22 rfl V.heap.size 35 i0 (.agg It.nil.arr) 3 40 Tryd.underlying22 hi hz0 hz1 hz2 rfl (by decide) _ _ _ rfl HOW.out ⟨W.heap.size, 0, none⟩ 1 1 (flatI [y.1]) rfl rfl HNW.out (flatI_one _) (by have := HIL.out; unfold maxLen; omega) (by have := HIL.out; omega) HSZ7.out ?_; intro v' w' hown' hgrow _ hat; have HXw := Lib.hid (HXE.out.kept hgrow (fun e => HNG.out e.symm)); have HM := Lib.hid (HFIN.out v' w' hown' hgrow); have xw := HXw.out.cell (k := 0) rfl; have fw := frozen_of_row w' (g0 + 1) 0 _ _ HXw.out; obtain ⟨aq, cq, rfl⟩ := ownR_any hown'; clear hown' hgrow hat t0 t1 t2 p10; refine Hid.out ?_)
    refine Lib.hid ?_
    gi_wp2
    exact ⟨HM.out.1, HM.out.2.1, HM.out.2.2⟩
  case done =>
    rintro D xs W hD rfl ⟨v10, hX, hO, hN⟩ hK
    obtain ⟨a1, c1, rfl⟩ := ownR_any hO
    have p10 : W.cell? ⟨g0 + 1, 0, none⟩ = some (.slice a1 (itN (belowL l p).attach) c1) := hX.cell (k := 0) rfl
    have eM : ((belowL l p).attach.map (·.1)) = belowL l p := List.attach_map_subtype_val _
    have HK := Lib.hid hK
    have HO2 : Hid (OwnI W V.heap.size (.slice a1 (itN (belowL l p).attach) c1) (belowL l p)) := Lib.hid (by
      unfold itN itF at hO
      unfold itN
      rw [eM] at hO ⊢
      exact hO)
    have HBW : Hid (Below w.heap.size w W) := Lib.hid ⟨hN.os.trans HBw.out.os, hN.tape.trans HBw.out.tape, hN.output.trans HBw.out.output, Nat.le_trans HBw.out.size hN.size, fun k hk => (hN.block k (by have := HBw.out.size; omega) (by omega) (fun e => by cases e)).trans (HBw.out.block k hk)⟩
    clear hX hO hN eM
    gi_wp2
    refine ⟨by simp, .inl ⟨_, _, rfl, run_takeDeferred HK.out, ?_⟩⟩
    refine ⟨.slice a1 (itN (belowL l p).attach) c1, ?_, ?_⟩
    · simp [results, Tryd.f28, go_sem]
    · have hVs := HBw.out.size
      refine ⟨_, rfl, own_base (HO2.out.far fun k hk => World.putObj_heap_other (fun e => ?_)) hVs, HBW.out.trans (belowK_b (w := w) (Nat.le_refl _) _ D _ _ (by omega) HK.out rfl rfl)⟩
      subst e
      obtain ⟨_, cs, hc⟩ := ownR_blk HO2.out hk
      rw [HK.out] at hc
      cases hc
  case stop =>
    rintro D cc pre W hD hpre h hK
    exact h.elim
end Go.Proofs.YtemhdjplhafmiaaDoor

namespace Go.Proofs.YtemhdjplhafmiaaDoor
open Go.RowKit Go.Shelf
attribute [local go_sem] Oper.semAt_some

/-- The names of those that stand in p. -/
def kL (p : Str) (L : List It) : List Str := (L.filter fun y => decide (upL y.path = p)).map fun y => baseL y.path
theorem kL_snoc_yes {p : Str} {L : List It} {y : It} (h : upL y.path = p) : kL p (L ++ [y]) = kL p L ++ [baseL y.path] := by
  unfold kL
  rw [List.filter_append, List.map_append]
  simp [h]
theorem kL_snoc_no {p : Str} {L : List It} {y : It} (h : upL y.path ≠ p) : kL p (L ++ [y]) = kL p L := by
  unfold kL
  rw [List.filter_append, List.map_append]
  simp [h]
theorem kL_len (p : Str) (L : List It) : (kL p L).length ≤ L.length := by
  unfold kL
  rw [List.length_map]
  exact List.length_filter_le _ _
def kN {l : List It} {p : Str} (pre : List (Ben l p)) : Nat := (kL p (pre.map (·.1))).length
def kF {l : List It} {p : Str} (pre : List (Ben l p)) : List Value := (kL p (pre.map (·.1))).map encS
theorem k_yes {l : List It} {p : Str} (pre : List (Ben l p)) (y : Ben l p) (h : upL y.1.path = p) : kN (pre ++ [y]) = kN pre + 1 ∧ kF (pre ++ [y]) = kF pre ++ [encS (baseL y.1.path)] := by
  unfold kN kF
  rw [List.map_append, List.map_cons, List.map_nil, kL_snoc_yes h, List.length_append, List.map_append]
  exact ⟨rfl, rfl⟩
theorem k_no {l : List It} {p : Str} (pre : List (Ben l p)) (y : Ben l p) (h : upL y.1.path ≠ p) : kN (pre ++ [y]) = kN pre ∧ kF (pre ++ [y]) = kF pre := by
  unfold kN kF
  rw [List.map_append, List.map_cons, List.map_nil, kL_snoc_no h]
  exact ⟨rfl, rfl⟩
def KidsR (l : List It) (p : Str) (w : World) (e : Ending) (w' : World) : Prop := ∃ x, e = .returned x ∧ w'.ownsRow w.heap.size 9 1 x (kL p (belowL l p)).length ((kL p (belowL l p)).map encS) ∧ Below w.heap.size w w'
theorem base_is (x : Str) (hx : x.length ≤ 140737488355328) (w : World) : Calls Tryd.prog 53 #[.string ⟨x.toArray⟩] w fun e w' => e = .returned (.string ⟨(baseL x).toArray⟩) ∧ Below w.heap.size w w' :=
  base_any ⟨x.toArray⟩ (by show x.toArray.size ≤ _; rw [List.size_toArray]; exact hx) w
theorem info9z : (Tryd.prog.info? 9).map (fun i => (i.zero, i.size, i.bytes)) = some (some (.string ByteArray.empty), 1, 16) := by kernel_rfl

set_option maxRecDepth 100000 in
set_option maxHeartbeats 8000000 in
theorem kids_any (B : Nat) (l : List It) (v : Value) (p : Str) (w : World) (ho : OwnI w B v l) (h : TreeOk l) (hp : p.length ≤ 140737488355328) (hT : Tabs w) :
    Calls Tryd.prog 27 #[.agg #[v], .string ⟨p.toArray⟩] w (KidsR l p w) := by
  have hv : RdI w v l := RdF.of_own ho
  have hog : ∀ k, v.ownBlock = some k → k < w.heap.size := fun k e => by
    obtain ⟨_, cs, hc⟩ := ownR_blk ho e
    exact (Array.getElem?_eq_some_iff.1 hc).1
  have HOG := Lib.hid hog
  clear hog ho
  refine (callsIn_wide (n := 5)).1 ?_
  obtain ⟨w1, hw1⟩ : ∃ z, z = (w.alloc (.cells #[v] 24)).alloc (.cells #[.string ⟨p.toArray⟩] 9) := ⟨_, rfl⟩
  obtain ⟨b2, hb2⟩ : ∃ z, z = w.heap.size := ⟨_, rfl⟩
  have HB1 : Hid (Below w.heap.size w w1) := Lib.hid (by rw [hw1]; exact bch (below_new _ _) (below_new _ _))
  have X1 : Hid (Box w1 b2 24 #[v]) := Lib.hid (by rw [hw1, hb2]; exact box_new.alloc _)
  obtain ⟨b3, hb3⟩ : ∃ z, z = w.heap.size + 1 := ⟨_, rfl⟩
  have X13 : Hid (Box w1 b3 9 #[.string ⟨p.toArray⟩]) := Lib.hid (by rw [hw1, hb3, show w.heap.size + 1 = (w.alloc (.cells #[v] 24)).heap.size from by simp]; exact box_new)
  have HVA := Lib.hid (tvalid_is l true ((valid_tree l).2 h).symm v w1 (hv.on HB1.out) (tree_sz h) (hT.on HB1.out))
  obtain ⟨a, c, rfl, _⟩ := hv.open
  obtain ⟨n, hn⟩ : ∃ n, n = l.length := ⟨_, rfl⟩
  rw [← hn] at hw1 X1 HVA HOG ⊢
  have HV : Hid (RdI w (.slice a n c) l) := Lib.hid (by rw [hn]; exact hv)
  have HOK := Lib.hid h
  have HBE : Hid (∀ W, Calls Tryd.prog 51 #[.slice a n c, .string ⟨p.toArray⟩] W fun e w' => e = .returned (.func (.func 76) #[] #[.pointer (some ⟨W.heap.size, 0, none⟩), .pointer (some ⟨W.heap.size + 1, 0, none⟩)]) ∧ (W.alloc (.cells #[.slice a n c] 22)).alloc (.cells #[.string ⟨p.toArray⟩] 9) = w') := Lib.hid (fun W => ben_any a n c p W)
  have HW1 := Lib.hid hw1
  have HB2 := Lib.hid hb2
  have HB3e := Lib.hid hb3
  have c0 : ((w.alloc (.cells #[.slice a n c] 24)).alloc (.cells #[.string ⟨p.toArray⟩] 9)).cell? ⟨w.heap.size, 0, none⟩ = some (.slice a n c) := by rw [← hw1, ← hb2]; exact X1.out.cell (k := 0) rfl
  clear hv h hT hw1 hb2 hb3 hn
  refine callsIn_of_wp_marks Tryd.func27 rfl trivial ?_ rfl
  simp only [Tryd.ntmps27, List.size_toArray, List.length_cons, List.length_nil, Nat.reduceAdd, Nat.reduceSub, Array.replicate_succ, Array.replicate_zero, List.push_toArray, List.append_toArray, List.nil_append, List.cons_append]
  gi_wp2_with (first | (refine ⟨trivial, ?_⟩; gi_at_call 30; rw [← HW1.out, ← HB3e.out, ← HB2.out]; refine (callsIn_wide.2 HVA.out).mono ?_; rintro e w2 ⟨rfl, hb⟩; have X2 := Lib.hid (X1.out.on hb); have X23 := Lib.hid (X13.out.on hb); have p33 : (w2.alloc (.cells #[.slice none 0 0] 46)).cell? ⟨b3, 0, none⟩ = some (.string ⟨p.toArray⟩) := (X23.out.alloc _).cell (k := 0) rfl; have HB3 := Lib.hid (bch HB1.out hb); have p3 : (w2.alloc (.cells #[.slice none 0 0] 46)).cell? ⟨b2, 0, none⟩ = some (.slice a n c) := (X2.out.alloc _).cell (k := 0) rfl; clear hb c0))
  refine ⟨trivial, ?_⟩
  gi_at_call 51
  obtain ⟨b5, hb5⟩ : ∃ z, z = w2.heap.size := ⟨_, rfl⟩
  obtain ⟨w3, hw3⟩ : ∃ z, z = w2.alloc (.cells #[.slice none 0 0] 46) := ⟨_, rfl⟩
  have X5 : Hid (Box w3 b5 46 #[.slice none 0 0]) := Lib.hid (by rw [hw3, hb5]; exact box_new)
  have HB4 : Hid (Below w.heap.size w w3) := Lib.hid (by rw [hw3]; exact bch HB3.out (below_new _ _))
  have HG0 : Hid (w.heap.size < b5) := Lib.hid (by rw [hb5]; have := X2.out.lt; have := HB2.out; omega)
  rw [← hw3, ← hb5]
  have HX33 : Hid (Box w3 b3 9 #[.string ⟨p.toArray⟩]) := Lib.hid (by rw [hw3]; exact X23.out.alloc _)
  have HLb : Hid (b3 < b5) := Lib.hid (by rw [hb5]; exact X23.out.lt)
  clear hw3 hb5 p3 p33
  refine (callsIn_wide.2 (HBE.out w3)).mono ?_
  rintro e V ⟨rfl, hV⟩
  have HV0 := Lib.hid hV
  clear hV
  gi_wp2
  have hV := HV0.out
  have hsV : V.heap.size = w3.heap.size + 2 := by rw [← hV]; simp
  have h53 := X5.out.lt
  have hw5 := HG0.out
  have HB5 : Below w3.heap.size w3 V := by rw [← hV]; exact bch (below_new _ _) (below_new _ _)
  have HBw : Hid (Below w.heap.size w V) := Lib.hid (bch HB4.out HB5)
  have Y5 : Box V b5 46 #[.slice none 0 0] := X5.out.on HB5
  have Y2 : Box V w3.heap.size 22 #[.slice a n c] := by rw [← hV]; exact box_new.alloc _
  have Y3 : Box V (w3.heap.size + 1) 9 #[.string ⟨p.toArray⟩] := by rw [← hV, show w3.heap.size + 1 = (w3.alloc (.cells #[.slice a n c] 22)).heap.size from by simp]; exact box_new
  have hvV : RdI V (.slice a n c) l := HV.out.on HBw.out
  have HP3V : Hid (Box V b3 9 #[.string ⟨p.toArray⟩]) := Lib.hid (HX33.out.on HB5)
  obtain ⟨g0, hg0⟩ : ∃ g, b5 = g + 1 := ⟨b5 - 1, by omega⟩
  subst hg0
  have h0 : gI V (g0 + 1) 46 9 1 (kN (l := l) (p := p)) kF [] V := gI_start Y5 rfl rfl
  have HSS : Hid (∀ k, (k = w3.heap.size ∨ k = w3.heap.size + 1 ∨ (Value.slice a n c).ownBlock = some k) → k < V.heap.size ∧ k ≠ g0 + 1) := Lib.hid (fun k hk => by
    rcases hk with rfl | rfl | hk
    · omega
    · omega
    · have := HOG.out k hk; omega)
  have hgV : g0 + 1 < V.heap.size := by omega
  clear X5 Y5 HV0 hV HB5 HBE HVA
  refine wpIn_rangeFunc_ownH rfl (by omega) (gf := 76) (lb := #[.pointer (some ⟨w3.heap.size, 0, none⟩), .pointer (some ⟨w3.heap.size + 1, 0, none⟩)]) rfl trivial (enters_of Tryd.func76 (by kernel_rfl) rfl)
    (ben1_stops _ (by omega) w3.heap.size (w3.heap.size + 1) l (.slice a n c) p V Y2 Y3 hvV (srt_of HOK.out) HOK.out.many (tree_sz HOK.out) hp (fun k => k = w3.heap.size ∨ k = w3.heap.size + 1 ∨ (Value.slice a n c).ownBlock = some k) (fun k hk => (HSS.out k hk).1) (.inl rfl) (.inr (.inl rfl)) (fun g o n' c' e => .inr (.inr (by rw [e]; rfl)))) (fun h k => h.trans k)
    (fun W q o o' hq _ _ _ => lowk_put W q o' (fun hk => by have := (HSS.out _ hk).1; omega)) (Below.refl _ _) (fun _ => rfl)
    (gI V (g0 + 1) 46 9 1 kN kF) (fun _ _ _ => False) (gI_own V (g0 + 1) 46 9 1 kN kF) (fun _ _ _ _ _ hs _ _ => hs) h0
    (fun y a' W => ∃ Bx, mA V g0 y.1 Bx W ∧ a' = { tmps := #[.agg #[.slice a n c], .string ⟨p.toArray⟩, .pointer (some ⟨b2, 0, none⟩), .pointer (some ⟨b3, 0, none⟩), .slice none 0 0, .pointer (some ⟨g0 + 1, 0, none⟩), .pointer (some ⟨Bx, 0, none⟩), .pointer (some ⟨b2, 0, none⟩), .slice a n c, .bool true, .bool false, .pointer (some ⟨b2, 0, none⟩), .slice a n c, .string ⟨p.toArray⟩, .func (.func 76) #[] #[.pointer (some ⟨w3.heap.size, 0, none⟩), .pointer (some ⟨w3.heap.size + 1, 0, none⟩)], .agg y.1.arr, undef, undef, undef, undef, undef, undef, undef, undef, undef, undef, undef, undef], defers := [] })
    ?own ?assign ?body ?done ?stop
  case own =>
    rintro y a' _ X Y row ⟨Bx, h1, h3⟩ hg hr
    exact ⟨Bx, mA_own (by omega) h1 hg hr, h3⟩
  case assign =>
    rintro q pre y X K ⟨v10, hX, hO, hN⟩ hK
    have e1 : (.agg y.1.arr : Value) = .agg #[.string ⟨y.1.path.toArray⟩, .int .i64 y.1.kind, .string ⟨y.1.data.toArray⟩] := rfl
    rw [e1]
    gi_wp2
    refine hK _ _ ((KeepsOthers.alloc _ _).from _) (fun k hk => Below.heap_alloc _ _ _ (by have := (HSS.out k hk).1; have := hN.size; omega)) ⟨v10, hX.alloc _, ownR_below hO (below_new _ _), hN.trans (Nxt.below (below_new _ _) _ _)⟩ ⟨X.heap.size, ⟨hN.size, heap_alloc_new X _, fun v hv e => ?_⟩, rfl⟩
    have hv2 := (hX.alloc (.cells y.1.arr 35)).cell (k := 0) rfl
    obtain rfl := Option.some.inj (hv2.symm.trans hv)
    obtain ⟨_, cs, hc⟩ := ownR_blk hO e
    have := (Array.getElem?_eq_some_iff.1 hc).1
    omega
  case body =>
    rintro q pre y a' W _ _ ⟨v10, hX, hO, hN⟩ ⟨Bx, hA, rfl⟩ hlen
    have hVW := hN.size
    have HVW0 := Lib.hid hVW
    obtain ⟨hyl, hyu, _⟩ := (below_mem (srt_of HOK.out) p y.1).1 y.2
    have hypl : y.1.path.length ≤ 140737488355328 := tree_sz HOK.out y.1 hyl
    obtain ⟨u, hu⟩ : ∃ u, upL y.1.path = u := ⟨_, rfl⟩
    have HUP : Hid (∀ W', Calls Tryd.prog 52 #[.string ⟨y.1.path.toArray⟩] W' fun e w' => e = .returned (.string ⟨u.toArray⟩) ∧ Below W'.heap.size W' w') := Lib.hid (fun W' => up_is y.1.path hypl u hu W')
    have HBA : Hid (∀ W', Calls Tryd.prog 53 #[.string ⟨y.1.path.toArray⟩] W' fun e w' => e = .returned (.string ⟨(baseL y.1.path).toArray⟩) ∧ Below W'.heap.size W' w') := Lib.hid (fun W' => base_is y.1.path hypl W')
    obtain ⟨v0, hv0⟩ : ∃ z, z = World.drew W := ⟨_, rfl⟩
    have HB0 : Hid (Below W.heap.size W v0) := Lib.hid (by rw [hv0]; exact (Below.refl _ _).drew)
    have HAX : Hid (Box v0 Bx 35 y.1.arr) := Lib.hid (hA.2.1.on HB0.out)
    have HP3 : Hid (Box v0 b3 9 #[.string ⟨p.toArray⟩]) := Lib.hid ((show Box W b3 9 #[.string ⟨p.toArray⟩] from (hN.block b3 (by have := HP3V.out.lt; omega) (by have := HLb.out; omega) (fun e => by cases e)).trans HP3V.out).on HB0.out)
    have HU := Lib.hid hu
    have HX := Lib.hid hX
    have HO := Lib.hid hO
    have HN := Lib.hid hN
    have HA := Lib.hid hA
    have HIL0 : Hid (kN pre ≤ 2000) := Lib.hid (by
      have h1 := bel_le l p
      have h2 := HOK.out.many
      have h3 := kL_len p (pre.map (·.1))
      unfold kN
      rw [List.length_map] at h3
      omega)
    obtain ⟨t, ht⟩ : ∃ t, t = decide (u = p) := ⟨_, rfl⟩
    have HTT := Lib.hid ht
    have heq : (u == p) = t := by rw [ht]; by_cases h : u = p <;> simp [h]
    clear hX hO hN hA hu hyl hyu hypl hlen ht
    gi_wp2
    refine region_round (S := fun w' => Below v0.heap.size v0 w') (by kernel_rfl) (by kernel_rfl) (by rw [hv0]; exact Below.refl _ _) (fun hHeld => ?_)
    rw [← hv0] at hHeld ⊢
    clear hv0
    refine wpAnyH_take (i := 0) (oi := { dst := some 16, op := Op.fieldAddr 35 (Operand.tmp 6) 0, type := 0, pos := "tree.go:65", after := #[], guard := none }) (v := ?_) rfl (by kernel_rfl) (by kernel_rfl) (by kernel_rfl) (fun _ _ _ h => h) (Or.inl ⟨by rfl, ?_⟩) hHeld ?_
    rotate_left
    · (intro w hSw; go_simp; try with_reducible rfl)
    (try simp only [Act.put, List.setIfInBounds_toArray, List.set_cons_zero, List.set_cons_succ])
    refine wpAnyH_take (i := 1) (oi := { dst := some 17, op := Op.load 9 (Operand.tmp 16), type := 9, pos := "tree.go:65", after := #[{ on := 0, ground := Ground.data }], guard := none }) (v := ?_) rfl (by kernel_rfl) (by kernel_rfl) (by kernel_rfl) (fun _ _ _ h => h) (Or.inl ⟨by rfl, ?_⟩) hHeld ?_
    rotate_left
    · (intro w hSw; have p0 : w.cell? ⟨Bx, 0, none⟩ = some (.string ⟨y.1.path.toArray⟩) := (HAX.out.on hSw).it.c0; go_simp; try with_reducible rfl)
    (try simp only [Act.put, List.setIfInBounds_toArray, List.set_cons_zero, List.set_cons_succ])
    refine wpAnyH_take (i := 3) (oi := { dst := some 19, op := Op.load 9 (Operand.tmp 3), type := 9, pos := "tree.go:65", after := #[], guard := none }) (v := ?_) rfl (by kernel_rfl) (by kernel_rfl) (by kernel_rfl) (fun _ _ _ h => h) (Or.inl ⟨by rfl, ?_⟩) hHeld ?_
    rotate_left
    · (intro w hSw; have p0 : w.cell? ⟨b3, 0, none⟩ = some (.string ⟨p.toArray⟩) := (HP3.out.on hSw).cell (k := 0) rfl; go_simp; try with_reducible rfl)
    (try simp only [Act.put, List.setIfInBounds_toArray, List.set_cons_zero, List.set_cons_succ])
    refine wpAnyH_ready (rs := [2]) (by kernel_rfl) (by simp) (AllReadyH.cons (o := { dst := some 18, op := Op.call { callee := Callee.value (Operand.func 52), args := #[Operand.tmp 17], argTypes := #[9] }, type := 9, pos := "tree.go:65", after := #[{ on := 1, ground := Ground.data }], guard := none }) rfl (fun K hK => ?_) AllReadyH.nil)
    · go_simp
      refine (HUP.out _).mono ?_
      rintro e v102 ⟨rfl, hba⟩
      refine hK.out _ _ (bch hHeld hba) (fun hHeld => ?_)
      clear hba
      (try simp only [Act.put, List.setIfInBounds_toArray, List.set_cons_zero, List.set_cons_succ])
      refine wpAnyH_take (i := 4) (oi := { dst := some 20, op := Op.binOp BinOp.eql 9 (Operand.tmp 18) (Operand.tmp 19) 9, type := 4, pos := "tree.go:65", after := #[{ on := 2, ground := Ground.data }, { on := 3, ground := Ground.data }], guard := none }) (v := ?_) rfl (by kernel_rfl) (by kernel_rfl) (by kernel_rfl) (fun _ _ _ h => h) (Or.inl ⟨by rfl, ?_⟩) hHeld ?_
      rotate_left
      · (intro w hSw; go_simp; try with_reducible rfl)
      (try simp only [Act.put, List.setIfInBounds_toArray, List.set_cons_zero, List.set_cons_succ])
      refine wpAnyH_done (by kernel_rfl) ?_ _
      simp only [Plainly]
      have H6 := Lib.hid (bch HB0.out hHeld)
      clear hHeld heq
      cases t with
      | false =>
        have hne : upL y.1.path ≠ p := by rw [HU.out]; exact of_decide_eq_false HTT.out.symm
        obtain ⟨e1, e2⟩ := k_no pre y hne
        have HG1 : Hid (gI V (g0 + 1) 46 9 1 kN kF (pre ++ [y]) v102) := Lib.hid (by
          have : gI V (g0 + 1) 46 9 1 kN kF pre v102 := gI_on ⟨v10, HX.out, HO.out, HN.out⟩ H6.out
          unfold gI at this ⊢
          rw [e1, e2]
          exact this)
        clear hne e1 e2
        gi_wp2
        exact ⟨kf_below H6.out, fun k hk => H6.out.block k (by have := (HSS.out k hk).1; have := HVW0.out; omega), HG1.out⟩
      | true =>
        have hye : upL y.1.path = p := by rw [HU.out]; exact of_decide_eq_true HTT.out.symm
        obtain ⟨e1, e2⟩ := k_yes pre y hye
        obtain ⟨a1, c1, rfl⟩ := ownR_any HO.out
        obtain ⟨i0, hi, hz0, hz1, hz2⟩ := info_parts info9z
        obtain ⟨v7, hv7⟩ : ∃ z, z = World.drew v102 := ⟨_, rfl⟩
        have HB9 : Hid (Below W.heap.size W v7) := Lib.hid (by rw [hv7]; exact H6.out.drew)
        obtain ⟨m, hm⟩ : ∃ m, m = kN pre := ⟨_, rfl⟩
        have HFIN : Hid (∀ W5 v' w', Below W.heap.size W W5 → w'.ownsRow V.heap.size 9 1 v' (m + 1) (kF pre ++ [encS (baseL y.1.path)]) → W5.grownBy w' (Value.slice a1 m c1).ownBlock →
            KeepsFrom V.heap.size W (w'.setCell ⟨g0 + 1, 0, none⟩ v') ∧ LowK (fun k => k = w3.heap.size ∨ k = w3.heap.size + 1 ∨ (Value.slice a n c).ownBlock = some k) W (w'.setCell ⟨g0 + 1, 0, none⟩ v') ∧ gI V (g0 + 1) 46 9 1 kN kF (pre ++ [y]) (w'.setCell ⟨g0 + 1, 0, none⟩ v')) := Lib.hid (fun W5 v' w' h0 h1 h2 => by
          rw [hm] at h1 h2
          rw [← e1, ← e2] at h1
          exact gI_step HX.out HO.out HN.out hgV h0 h1 h2 _ HSS.out)
        have HNG : Hid ((Value.slice a1 m c1).ownBlock ≠ some (g0 + 1)) := Lib.hid (fun e => by rw [hm] at e; have := (ownR_blk HO.out e).1; omega)
        have HX9 : Hid (Box W (g0 + 1) 46 #[.slice a1 m c1]) := Lib.hid (by rw [hm]; exact HX.out)
        have HO9 : Hid (W.ownsRow V.heap.size 9 1 (.slice a1 m c1) m (kF pre)) := Lib.hid (by rw [hm]; exact HO.out)
        have HIL : Hid (m ≤ 2000) := Lib.hid (by rw [hm]; exact HIL0.out)
        have HVW : Hid (V.heap.size ≤ W.heap.size) := HVW0
        have HA9 : Hid (Box W Bx 35 y.1.arr) := Lib.hid HA.out.2.1
        have p10 : v7.cell? ⟨g0 + 1, 0, none⟩ = some (.slice a1 m c1) := (HX9.out.on HB9.out).cell (k := 0) rfl
        have t0 : v7.cell? ⟨Bx, 0, none⟩ = some (.string ⟨y.1.path.toArray⟩) := (HA9.out.on HB9.out).it.c0
        clear hye e1 e2 hm
        gi_wp2
        refine region_round (S := fun _ => True) (by kernel_rfl) (by kernel_rfl) trivial (fun hHeld => ?_)
        rw [← hv7]
        clear hv7
        refine wpAnyH_take (i := 1) (oi := { dst := some 22, op := Op.fieldAddr 35 (Operand.tmp 6) 0, type := 0, pos := "tree.go:66", after := #[], guard := none }) (v := ?_) rfl (by kernel_rfl) (by kernel_rfl) (by kernel_rfl) (fun _ _ _ h => h) (Or.inl ⟨by rfl, ?_⟩) hHeld ?_
        rotate_left
        · (intro w hSw; go_simp; try with_reducible rfl)
        (try simp only [Act.put, List.setIfInBounds_toArray, List.set_cons_zero, List.set_cons_succ])
        refine wpAnyH_ready (rs := [0, 2]) (by kernel_rfl) (by simp) (AllReadyH.cons (o := { dst := some 21, op := Op.load 46 (Operand.tmp 5), type := 46, pos := "tree.go:66", after := #[], guard := none }) rfl (fun K hK => ?_) (AllReadyH.cons (o := { dst := some 23, op := Op.load 9 (Operand.tmp 22), type := 9, pos := "tree.go:66", after := #[{ on := 1, ground := Ground.data }], guard := none }) rfl (fun K hK => ?_) AllReadyH.nil))
        · go_simp
          refine hK.out _ _ trivial (fun hHeld => ?_)
          (try simp only [Act.put, List.setIfInBounds_toArray, List.set_cons_zero, List.set_cons_succ])
          refine wpAnyH_ready (rs := [2]) (by kernel_rfl) (by simp) (AllReadyH.cons (o := { dst := some 23, op := Op.load 9 (Operand.tmp 22), type := 9, pos := "tree.go:66", after := #[{ on := 1, ground := Ground.data }], guard := none }) rfl (fun K hK => ?_) AllReadyH.nil)
          · go_simp
            refine hK.out _ _ trivial (fun hHeld => ?_)
            (try simp only [Act.put, List.setIfInBounds_toArray, List.set_cons_zero, List.set_cons_succ])
            refine wpAnyH_ready (rs := [3]) (by kernel_rfl) (by simp) (AllReadyH.cons (o := { dst := some 24, op := Op.call { callee := Callee.value (Operand.func 53), args := #[Operand.tmp 23], argTypes := #[9] }, type := 9, pos := "tree.go:66", after := #[{ on := 2, ground := Ground.data }], guard := none }) rfl (fun K hK => ?_) AllReadyH.nil)
            · go_simp
              refine (HBA.out _).mono ?_
              rintro e v103 ⟨rfl, hba⟩
              have HB9 := Lib.hid (bch HB9.out hba)
              have p10 : v103.cell? ⟨g0 + 1, 0, none⟩ = some (.slice a1 m c1) := (HX9.out.on HB9.out).cell (k := 0) rfl
              clear hba
              refine hK.out _ _ trivial (fun hHeld => ?_)
              (try simp only [Act.put, List.setIfInBounds_toArray, List.set_cons_zero, List.set_cons_succ])
              refine wpAnyH_ready (rs := [4]) (by kernel_rfl) (by simp) (AllReadyH.cons (o := { dst := some 25, op := Op.buildSlice 46 1 #[(0, Operand.tmp 24)], type := 46, pos := "tree.go:66", after := #[{ on := 3, ground := Ground.data }], guard := none }) rfl (fun K hK => ?_) AllReadyH.nil)
              · go_simp
                obtain ⟨v104, hv4⟩ : ∃ z, z = v103.alloc (.cells #[.string ⟨(baseL y.1.path).toArray⟩] 9) := ⟨_, rfl⟩
                obtain ⟨q9, hq9⟩ : ∃ z, z = v103.heap.size := ⟨_, rfl⟩
                have HZB : Hid (Box v104 q9 9 #[.string ⟨(baseL y.1.path).toArray⟩]) := Lib.hid (by rw [hv4, hq9]; exact box_new)
                have HB9 := Lib.hid (bch HB9.out (show Below v103.heap.size v103 v104 by rw [hv4]; exact below_new _ _))
                have p10 : v104.cell? ⟨g0 + 1, 0, none⟩ = some (.slice a1 m c1) := (HX9.out.on HB9.out).cell (k := 0) rfl
                refine hK.out _ _ trivial (fun hHeld => ?_)
                rw [← hv4, ← hq9]
                clear hv4 hq9
                (try simp only [Act.put, List.setIfInBounds_toArray, List.set_cons_zero, List.set_cons_succ])
                refine wpAnyH_ready (rs := [5]) (by kernel_rfl) (by simp) (AllReadyH.cons (o := { dst := some 26, op := Op.call { callee := Callee.builtin Builtin.append, args := #[Operand.tmp 21, Operand.tmp 25], argTypes := #[46, 46] }, type := 46, pos := "tree.go:66", after := #[{ on := 0, ground := Ground.data }, { on := 4, ground := Ground.data }, { on := 3, ground := Ground.chain }], guard := none }) rfl (fun K hK => ?_) AllReadyH.nil)
                · refine wp_append_own _ (.tmp 21) (.tmp 25) 46 rfl V.heap.size 9 i0 (.string ByteArray.empty) 1 16 Tryd.underlying46 hi hz0 hz1 hz2 rfl (by decide) _ m _ rfl (ownR_below HO9.out HB9.out) ⟨q9, 0, none⟩ 1 1 [encS (baseL y.1.path)] rfl rfl (fun j u hu => by
                  rw [add_to, Nat.zero_add]
                  exact HZB.out.cell (by rw [← Array.getElem?_toList]; simpa [encS] using hu)) (by simp [encS]; rfl) (by have := HIL.out; unfold maxLen; omega) (by have := HIL.out; omega) (Nat.le_trans HVW.out HB9.out.size) ?_
                  intro v' w9 hown' hgrow _
                  have HM := Lib.hid (HFIN.out v104 v' w9 HB9.out hown' hgrow)
                  have HXw := Lib.hid (((HX9.out.on HB9.out).kept hgrow (fun e => HNG.out e.symm)))
                  have xw := HXw.out.cell (k := 0) rfl
                  have fw := frozen_of_row w9 (g0 + 1) 0 _ _ HXw.out
                  obtain ⟨aq, cq, rfl⟩ := ownR_any hown'
                  clear hown' hgrow p10
                  refine hK.out _ _ trivial (fun hHeld => ?_)
                  (try simp only [Act.put, List.setIfInBounds_toArray, List.set_cons_zero, List.set_cons_succ])
                  refine wpAnyH_ready (rs := [6]) (by kernel_rfl) (by simp) (AllReadyH.cons (o := { dst := none, op := Op.store 46 (Operand.tmp 5) (Operand.tmp 26), type := 0, pos := "tree.go:66", after := #[{ on := 5, ground := Ground.data }, { on := 5, ground := Ground.chain }, { on := 0, ground := Ground.phase }, { on := 1, ground := Ground.phase }, { on := 2, ground := Ground.phase }, { on := 3, ground := Ground.phase }, { on := 4, ground := Ground.phase }, { on := 5, ground := Ground.phase }], guard := none }) rfl (fun K hK => ?_) AllReadyH.nil)
                  · go_simp
                    refine hK.out _ _ trivial (fun hHeld => ?_)
                    (try simp only [Act.put, List.setIfInBounds_toArray, List.set_cons_zero, List.set_cons_succ])
                    refine wpAnyH_done (by kernel_rfl) ?_ _
                    simp only [Plainly]
                    gi_wp2
                    exact ⟨HM.out.1, HM.out.2.1, HM.out.2.2⟩
        · go_simp
          refine hK.out _ _ trivial (fun hHeld => ?_)
          (try simp only [Act.put, List.setIfInBounds_toArray, List.set_cons_zero, List.set_cons_succ])
          refine wpAnyH_ready (rs := [0, 3]) (by kernel_rfl) (by simp) (AllReadyH.cons (o := { dst := some 21, op := Op.load 46 (Operand.tmp 5), type := 46, pos := "tree.go:66", after := #[], guard := none }) rfl (fun K hK => ?_) (AllReadyH.cons (o := { dst := some 24, op := Op.call { callee := Callee.value (Operand.func 53), args := #[Operand.tmp 23], argTypes := #[9] }, type := 9, pos := "tree.go:66", after := #[{ on := 2, ground := Ground.data }], guard := none }) rfl (fun K hK => ?_) AllReadyH.nil))
          · go_simp
            refine hK.out _ _ trivial (fun hHeld => ?_)
            (try simp only [Act.put, List.setIfInBounds_toArray, List.set_cons_zero, List.set_cons_succ])
            refine wpAnyH_ready (rs := [3]) (by kernel_rfl) (by simp) (AllReadyH.cons (o := { dst := some 24, op := Op.call { callee := Callee.value (Operand.func 53), args := #[Operand.tmp 23], argTypes := #[9] }, type := 9, pos := "tree.go:66", after := #[{ on := 2, ground := Ground.data }], guard := none }) rfl (fun K hK => ?_) AllReadyH.nil)
            · go_simp
              refine (HBA.out _).mono ?_
              rintro e v103 ⟨rfl, hba⟩
              have HB9 := Lib.hid (bch HB9.out hba)
              have p10 : v103.cell? ⟨g0 + 1, 0, none⟩ = some (.slice a1 m c1) := (HX9.out.on HB9.out).cell (k := 0) rfl
              clear hba
              refine hK.out _ _ trivial (fun hHeld => ?_)
              (try simp only [Act.put, List.setIfInBounds_toArray, List.set_cons_zero, List.set_cons_succ])
              refine wpAnyH_ready (rs := [4]) (by kernel_rfl) (by simp) (AllReadyH.cons (o := { dst := some 25, op := Op.buildSlice 46 1 #[(0, Operand.tmp 24)], type := 46, pos := "tree.go:66", after := #[{ on := 3, ground := Ground.data }], guard := none }) rfl (fun K hK => ?_) AllReadyH.nil)
              · go_simp
                obtain ⟨v104, hv4⟩ : ∃ z, z = v103.alloc (.cells #[.string ⟨(baseL y.1.path).toArray⟩] 9) := ⟨_, rfl⟩
                obtain ⟨q9, hq9⟩ : ∃ z, z = v103.heap.size := ⟨_, rfl⟩
                have HZB : Hid (Box v104 q9 9 #[.string ⟨(baseL y.1.path).toArray⟩]) := Lib.hid (by rw [hv4, hq9]; exact box_new)
                have HB9 := Lib.hid (bch HB9.out (show Below v103.heap.size v103 v104 by rw [hv4]; exact below_new _ _))
                have p10 : v104.cell? ⟨g0 + 1, 0, none⟩ = some (.slice a1 m c1) := (HX9.out.on HB9.out).cell (k := 0) rfl
                refine hK.out _ _ trivial (fun hHeld => ?_)
                rw [← hv4, ← hq9]
                clear hv4 hq9
                (try simp only [Act.put, List.setIfInBounds_toArray, List.set_cons_zero, List.set_cons_succ])
                refine wpAnyH_ready (rs := [5]) (by kernel_rfl) (by simp) (AllReadyH.cons (o := { dst := some 26, op := Op.call { callee := Callee.builtin Builtin.append, args := #[Operand.tmp 21, Operand.tmp 25], argTypes := #[46, 46] }, type := 46, pos := "tree.go:66", after := #[{ on := 0, ground := Ground.data }, { on := 4, ground := Ground.data }, { on := 3, ground := Ground.chain }], guard := none }) rfl (fun K hK => ?_) AllReadyH.nil)
                · refine wp_append_own _ (.tmp 21) (.tmp 25) 46 rfl V.heap.size 9 i0 (.string ByteArray.empty) 1 16 Tryd.underlying46 hi hz0 hz1 hz2 rfl (by decide) _ m _ rfl (ownR_below HO9.out HB9.out) ⟨q9, 0, none⟩ 1 1 [encS (baseL y.1.path)] rfl rfl (fun j u hu => by
                  rw [add_to, Nat.zero_add]
                  exact HZB.out.cell (by rw [← Array.getElem?_toList]; simpa [encS] using hu)) (by simp [encS]; rfl) (by have := HIL.out; unfold maxLen; omega) (by have := HIL.out; omega) (Nat.le_trans HVW.out HB9.out.size) ?_
                  intro v' w9 hown' hgrow _
                  have HM := Lib.hid (HFIN.out v104 v' w9 HB9.out hown' hgrow)
                  have HXw := Lib.hid (((HX9.out.on HB9.out).kept hgrow (fun e => HNG.out e.symm)))
                  have xw := HXw.out.cell (k := 0) rfl
                  have fw := frozen_of_row w9 (g0 + 1) 0 _ _ HXw.out
                  obtain ⟨aq, cq, rfl⟩ := ownR_any hown'
                  clear hown' hgrow p10
                  refine hK.out _ _ trivial (fun hHeld => ?_)
                  (try simp only [Act.put, List.setIfInBounds_toArray, List.set_cons_zero, List.set_cons_succ])
                  refine wpAnyH_ready (rs := [6]) (by kernel_rfl) (by simp) (AllReadyH.cons (o := { dst := none, op := Op.store 46 (Operand.tmp 5) (Operand.tmp 26), type := 0, pos := "tree.go:66", after := #[{ on := 5, ground := Ground.data }, { on := 5, ground := Ground.chain }, { on := 0, ground := Ground.phase }, { on := 1, ground := Ground.phase }, { on := 2, ground := Ground.phase }, { on := 3, ground := Ground.phase }, { on := 4, ground := Ground.phase }, { on := 5, ground := Ground.phase }], guard := none }) rfl (fun K hK => ?_) AllReadyH.nil)
                  · go_simp
                    refine hK.out _ _ trivial (fun hHeld => ?_)
                    (try simp only [Act.put, List.setIfInBounds_toArray, List.set_cons_zero, List.set_cons_succ])
                    refine wpAnyH_done (by kernel_rfl) ?_ _
                    simp only [Plainly]
                    gi_wp2
                    exact ⟨HM.out.1, HM.out.2.1, HM.out.2.2⟩
          · go_simp
            refine (HBA.out _).mono ?_
            rintro e v103 ⟨rfl, hba⟩
            have HB9 := Lib.hid (bch HB9.out hba)
            have p10 : v103.cell? ⟨g0 + 1, 0, none⟩ = some (.slice a1 m c1) := (HX9.out.on HB9.out).cell (k := 0) rfl
            clear hba
            refine hK.out _ _ trivial (fun hHeld => ?_)
            (try simp only [Act.put, List.setIfInBounds_toArray, List.set_cons_zero, List.set_cons_succ])
            refine wpAnyH_ready (rs := [0, 4]) (by kernel_rfl) (by simp) (AllReadyH.cons (o := { dst := some 21, op := Op.load 46 (Operand.tmp 5), type := 46, pos := "tree.go:66", after := #[], guard := none }) rfl (fun K hK => ?_) (AllReadyH.cons (o := { dst := some 25, op := Op.buildSlice 46 1 #[(0, Operand.tmp 24)], type := 46, pos := "tree.go:66", after := #[{ on := 3, ground := Ground.data }], guard := none }) rfl (fun K hK => ?_) AllReadyH.nil))
            · go_simp
              refine hK.out _ _ trivial (fun hHeld => ?_)
              (try simp only [Act.put, List.setIfInBounds_toArray, List.set_cons_zero, List.set_cons_succ])
              refine wpAnyH_ready (rs := [4]) (by kernel_rfl) (by simp) (AllReadyH.cons (o := { dst := some 25, op := Op.buildSlice 46 1 #[(0, Operand.tmp 24)], type := 46, pos := "tree.go:66", after := #[{ on := 3, ground := Ground.data }], guard := none }) rfl (fun K hK => ?_) AllReadyH.nil)
              · go_simp
                obtain ⟨v104, hv4⟩ : ∃ z, z = v103.alloc (.cells #[.string ⟨(baseL y.1.path).toArray⟩] 9) := ⟨_, rfl⟩
                obtain ⟨q9, hq9⟩ : ∃ z, z = v103.heap.size := ⟨_, rfl⟩
                have HZB : Hid (Box v104 q9 9 #[.string ⟨(baseL y.1.path).toArray⟩]) := Lib.hid (by rw [hv4, hq9]; exact box_new)
                have HB9 := Lib.hid (bch HB9.out (show Below v103.heap.size v103 v104 by rw [hv4]; exact below_new _ _))
                have p10 : v104.cell? ⟨g0 + 1, 0, none⟩ = some (.slice a1 m c1) := (HX9.out.on HB9.out).cell (k := 0) rfl
                refine hK.out _ _ trivial (fun hHeld => ?_)
                rw [← hv4, ← hq9]
                clear hv4 hq9
                (try simp only [Act.put, List.setIfInBounds_toArray, List.set_cons_zero, List.set_cons_succ])
                refine wpAnyH_ready (rs := [5]) (by kernel_rfl) (by simp) (AllReadyH.cons (o := { dst := some 26, op := Op.call { callee := Callee.builtin Builtin.append, args := #[Operand.tmp 21, Operand.tmp 25], argTypes := #[46, 46] }, type := 46, pos := "tree.go:66", after := #[{ on := 0, ground := Ground.data }, { on := 4, ground := Ground.data }, { on := 3, ground := Ground.chain }], guard := none }) rfl (fun K hK => ?_) AllReadyH.nil)
                · refine wp_append_own _ (.tmp 21) (.tmp 25) 46 rfl V.heap.size 9 i0 (.string ByteArray.empty) 1 16 Tryd.underlying46 hi hz0 hz1 hz2 rfl (by decide) _ m _ rfl (ownR_below HO9.out HB9.out) ⟨q9, 0, none⟩ 1 1 [encS (baseL y.1.path)] rfl rfl (fun j u hu => by
                  rw [add_to, Nat.zero_add]
                  exact HZB.out.cell (by rw [← Array.getElem?_toList]; simpa [encS] using hu)) (by simp [encS]; rfl) (by have := HIL.out; unfold maxLen; omega) (by have := HIL.out; omega) (Nat.le_trans HVW.out HB9.out.size) ?_
                  intro v' w9 hown' hgrow _
                  have HM := Lib.hid (HFIN.out v104 v' w9 HB9.out hown' hgrow)
                  have HXw := Lib.hid (((HX9.out.on HB9.out).kept hgrow (fun e => HNG.out e.symm)))
                  have xw := HXw.out.cell (k := 0) rfl
                  have fw := frozen_of_row w9 (g0 + 1) 0 _ _ HXw.out
                  obtain ⟨aq, cq, rfl⟩ := ownR_any hown'
                  clear hown' hgrow p10
                  refine hK.out _ _ trivial (fun hHeld => ?_)
                  (try simp only [Act.put, List.setIfInBounds_toArray, List.set_cons_zero, List.set_cons_succ])
                  refine wpAnyH_ready (rs := [6]) (by kernel_rfl) (by simp) (AllReadyH.cons (o := { dst := none, op := Op.store 46 (Operand.tmp 5) (Operand.tmp 26), type := 0, pos := "tree.go:66", after := #[{ on := 5, ground := Ground.data }, { on := 5, ground := Ground.chain }, { on := 0, ground := Ground.phase }, { on := 1, ground := Ground.phase }, { on := 2, ground := Ground.phase }, { on := 3, ground := Ground.phase }, { on := 4, ground := Ground.phase }, { on := 5, ground := Ground.phase }], guard := none }) rfl (fun K hK => ?_) AllReadyH.nil)
                  · go_simp
                    refine hK.out _ _ trivial (fun hHeld => ?_)
                    (try simp only [Act.put, List.setIfInBounds_toArray, List.set_cons_zero, List.set_cons_succ])
                    refine wpAnyH_done (by kernel_rfl) ?_ _
                    simp only [Plainly]
                    gi_wp2
                    exact ⟨HM.out.1, HM.out.2.1, HM.out.2.2⟩
            · go_simp
              obtain ⟨v104, hv4⟩ : ∃ z, z = v103.alloc (.cells #[.string ⟨(baseL y.1.path).toArray⟩] 9) := ⟨_, rfl⟩
              obtain ⟨q9, hq9⟩ : ∃ z, z = v103.heap.size := ⟨_, rfl⟩
              have HZB : Hid (Box v104 q9 9 #[.string ⟨(baseL y.1.path).toArray⟩]) := Lib.hid (by rw [hv4, hq9]; exact box_new)
              have HB9 := Lib.hid (bch HB9.out (show Below v103.heap.size v103 v104 by rw [hv4]; exact below_new _ _))
              have p10 : v104.cell? ⟨g0 + 1, 0, none⟩ = some (.slice a1 m c1) := (HX9.out.on HB9.out).cell (k := 0) rfl
              refine hK.out _ _ trivial (fun hHeld => ?_)
              rw [← hv4, ← hq9]
              clear hv4 hq9
              (try simp only [Act.put, List.setIfInBounds_toArray, List.set_cons_zero, List.set_cons_succ])
              refine wpAnyH_ready (rs := [0]) (by kernel_rfl) (by simp) (AllReadyH.cons (o := { dst := some 21, op := Op.load 46 (Operand.tmp 5), type := 46, pos := "tree.go:66", after := #[], guard := none }) rfl (fun K hK => ?_) AllReadyH.nil)
              · go_simp
                refine hK.out _ _ trivial (fun hHeld => ?_)
                (try simp only [Act.put, List.setIfInBounds_toArray, List.set_cons_zero, List.set_cons_succ])
                refine wpAnyH_ready (rs := [5]) (by kernel_rfl) (by simp) (AllReadyH.cons (o := { dst := some 26, op := Op.call { callee := Callee.builtin Builtin.append, args := #[Operand.tmp 21, Operand.tmp 25], argTypes := #[46, 46] }, type := 46, pos := "tree.go:66", after := #[{ on := 0, ground := Ground.data }, { on := 4, ground := Ground.data }, { on := 3, ground := Ground.chain }], guard := none }) rfl (fun K hK => ?_) AllReadyH.nil)
                · refine wp_append_own _ (.tmp 21) (.tmp 25) 46 rfl V.heap.size 9 i0 (.string ByteArray.empty) 1 16 Tryd.underlying46 hi hz0 hz1 hz2 rfl (by decide) _ m _ rfl (ownR_below HO9.out HB9.out) ⟨q9, 0, none⟩ 1 1 [encS (baseL y.1.path)] rfl rfl (fun j u hu => by
                  rw [add_to, Nat.zero_add]
                  exact HZB.out.cell (by rw [← Array.getElem?_toList]; simpa [encS] using hu)) (by simp [encS]; rfl) (by have := HIL.out; unfold maxLen; omega) (by have := HIL.out; omega) (Nat.le_trans HVW.out HB9.out.size) ?_
                  intro v' w9 hown' hgrow _
                  have HM := Lib.hid (HFIN.out v104 v' w9 HB9.out hown' hgrow)
                  have HXw := Lib.hid (((HX9.out.on HB9.out).kept hgrow (fun e => HNG.out e.symm)))
                  have xw := HXw.out.cell (k := 0) rfl
                  have fw := frozen_of_row w9 (g0 + 1) 0 _ _ HXw.out
                  obtain ⟨aq, cq, rfl⟩ := ownR_any hown'
                  clear hown' hgrow p10
                  refine hK.out _ _ trivial (fun hHeld => ?_)
                  (try simp only [Act.put, List.setIfInBounds_toArray, List.set_cons_zero, List.set_cons_succ])
                  refine wpAnyH_ready (rs := [6]) (by kernel_rfl) (by simp) (AllReadyH.cons (o := { dst := none, op := Op.store 46 (Operand.tmp 5) (Operand.tmp 26), type := 0, pos := "tree.go:66", after := #[{ on := 5, ground := Ground.data }, { on := 5, ground := Ground.chain }, { on := 0, ground := Ground.phase }, { on := 1, ground := Ground.phase }, { on := 2, ground := Ground.phase }, { on := 3, ground := Ground.phase }, { on := 4, ground := Ground.phase }, { on := 5, ground := Ground.phase }], guard := none }) rfl (fun K hK => ?_) AllReadyH.nil)
                  · go_simp
                    refine hK.out _ _ trivial (fun hHeld => ?_)
                    (try simp only [Act.put, List.setIfInBounds_toArray, List.set_cons_zero, List.set_cons_succ])
                    refine wpAnyH_done (by kernel_rfl) ?_ _
                    simp only [Plainly]
                    gi_wp2
                    exact ⟨HM.out.1, HM.out.2.1, HM.out.2.2⟩
  case done =>
    rintro D xs W hD rfl ⟨v10, hX, hO, hN⟩ hK
    obtain ⟨a1, c1, rfl⟩ := ownR_any hO
    have p10 : W.cell? ⟨g0 + 1, 0, none⟩ = some (.slice a1 (kN (belowL l p).attach) c1) := hX.cell (k := 0) rfl
    have eM : ((belowL l p).attach.map (·.1)) = belowL l p := List.attach_map_subtype_val _
    have HK := Lib.hid hK
    have HO2 : Hid (W.ownsRow V.heap.size 9 1 (.slice a1 (kN (belowL l p).attach) c1) (kL p (belowL l p)).length ((kL p (belowL l p)).map encS)) := Lib.hid (by
      unfold kN kF at hO
      unfold kN
      rw [eM] at hO ⊢
      exact hO)
    have HBW : Hid (Below w.heap.size w W) := Lib.hid ⟨hN.os.trans HBw.out.os, hN.tape.trans HBw.out.tape, hN.output.trans HBw.out.output, Nat.le_trans HBw.out.size hN.size, fun k hk => (hN.block k (by have := HBw.out.size; omega) (by omega) (fun e => by cases e)).trans (HBw.out.block k hk)⟩
    clear hX hO hN eM
    gi_wp2
    refine ⟨by simp, .inl ⟨_, _, rfl, run_takeDeferred HK.out, ?_⟩⟩
    refine ⟨.slice a1 (kN (belowL l p).attach) c1, ?_, ?_⟩
    · simp [results, Tryd.f27, go_sem]
    · have hVs := HBw.out.size
      refine ⟨_, rfl, own_base (ownR_far HO2.out fun k hk => World.putObj_heap_other (fun e => ?_)) hVs, HBW.out.trans (belowK_b (w := w) (Nat.le_refl _) _ D _ _ (by omega) HK.out rfl rfl)⟩
      subst e
      obtain ⟨_, cs, hc⟩ := ownR_blk HO2.out hk
      rw [HK.out] at hc
      cases hc
  case stop =>
    rintro D cc pre W hD hpre h hK
    exact h.elim
end Go.Proofs.YtemhdjplhafmiaaDoor

namespace Go.Proofs.YtemhdjplhafmiaaDoor
open Go.RowKit Go.Shelf

def bas (l : List Str) : List ByteArray := l.map fun s => ⟨s.toArray⟩
theorem bas_len (l : List Str) : (bas l).length = l.length := by simp [bas]
theorem bas_inj (l m : List Str) : bas l = bas m ↔ l = m := by
  constructor
  · intro h
    have : (bas l).map (·.data.toList) = (bas m).map (·.data.toList) := by rw [h]
    have id_ : ∀ k : List Str, (bas k).map (·.data.toList) = k := fun k => by
      unfold bas
      rw [List.map_map]; exact (List.map_congr_left (fun _ _ => rfl)).trans (List.map_id k)
    rwa [id_, id_] at this
  · intro h; rw [h]
theorem bas_cell {w : World} {B g n cap : Nat} {l : List Str} (h : w.ownsRow B 9 1 (.slice (some ⟨g, 0, none⟩) n cap) n (l.map encS)) (j : Nat) (hj : j < (bas l).length) :
    w.cell? ⟨g, 0 + j, none⟩ = some (.string ((bas l).getD j ByteArray.empty)) := by
  rw [bas_len] at hj
  have h1 := own_cell h j (encS l[j]) (by rw [List.getElem?_map, List.getElem?_eq_getElem hj]; rfl)
  rw [Nat.zero_add, h1]
  congr 1
  unfold bas
  rw [List.getD_eq_getElem?_getD, List.getElem?_map, List.getElem?_eq_getElem hj]
  rfl

theorem eq_any (l m : List Str) (b1 b2 : Nat) (v1 v2 : Value) (w : World) (h1 : w.ownsRow b1 9 1 v1 l.length (l.map encS)) (h2 : w.ownsRow b2 9 1 v2 m.length (m.map encS)) (hl : l.length ≤ 1000000) (hm : m.length ≤ 1000000) :
    Calls Tryd.prog 26 #[v1, v2] w fun e w' => e = .returned (.bool (decide (l = m))) ∧ ∃ q, w' = w.drewN q := by
  by_cases hlen : l.length = m.length
  · by_cases h0 : l.length = 0
    · have e1 : l = [] := List.eq_nil_of_length_eq_zero h0
      have e2 : m = [] := List.eq_nil_of_length_eq_zero (by omega)
      subst e1; subst e2
      have key : ∀ a1 c a2 d, Calls Tryd.prog 26 #[.slice a1 0 c, .slice a2 0 d] w fun e w' => e = .returned (.bool (decide (([] : List Str) = []))) ∧ ∃ q, w' = w.drewN q := fun a1 c a2 d =>
        (Tryd.slices_Equal_string_empty a1 a2 c 0 d w (by omega)).mono fun _ _ ⟨he, hw⟩ => ⟨he, 0, hw⟩
      obtain ⟨a1, c1, rfl⟩ := own_len h1
      obtain ⟨a2, c2, rfl⟩ := own_len h2
      exact key a1 c1 a2 c2
    · obtain ⟨g1, c1, rfl, _, _⟩ := h1.form (by omega)
      obtain ⟨g2, c2, rfl, _, _⟩ := h2.form (by omega)
      refine (Tryd.slices_Equal_string g1 0 l.length c1 g2 0 m.length c2 (bas l) (bas m) w (by rw [bas_len]; exact Nat.le_refl _) (by rw [bas_len]; exact Nat.le_refl _) (by omega) (by omega) (bas_cell h1) (bas_cell h2)).mono fun _ _ ⟨he, hw⟩ => ⟨?_, hw⟩
      rw [he]
      refine ret_bool ?_
      rw [List.take_of_length_le (by rw [bas_len]; exact Nat.le_refl _), List.take_of_length_le (by rw [bas_len]; exact Nat.le_refl _)]
      exact decide_eq_decide.2 (bas_inj l m)
  · obtain ⟨a1, c1, rfl⟩ := own_len h1
    obtain ⟨a2, c2, rfl⟩ := own_len h2
    refine (Tryd.slices_Equal_string_lens a1 a2 l.length c1 m.length c2 w hlen).mono fun _ _ ⟨he, hw⟩ => ⟨?_, 0, hw⟩
    rw [he]
    refine ret_bool (decide_eq_false ?_).symm
    intro e; rw [e] at hlen; exact hlen rfl


def wOps : List Opn := [⟨1, [47, 97], [], []⟩, ⟨2, [47, 97, 47, 102], [], [7]⟩, ⟨4, [47, 97, 47, 108], [], [102]⟩, ⟨5, [47, 97], [47, 122], []⟩, ⟨1, [47, 98, 47, 99], [], []⟩]
def wT : List It := [⟨[47, 122], 1, []⟩, ⟨[47, 122, 47, 102], 2, [7]⟩, ⟨[47, 122, 47, 108], 3, [102]⟩]
theorem wRun : runM [] wOps = (wT, 4, 4) := by decide +kernel
theorem wValid : validT wT = true := by decide +kernel
theorem wOk : TreeOk wT := tree_ok wValid
theorem wKids : kL [47, 122] (belowL wT [47, 122]) = [[102], [108]] := by decide +kernel
theorem wBelow : (belowL wT [47]).length = 3 := by decide +kernel
theorem b24 : Tryd.prog.built 24 [] = some #[.slice none 0 0] := by kernel_rfl
theorem b26a : Tryd.prog.built 26 [(0, .int .i64 1), (1, .string ⟨#[47, 97]⟩)] = some #[.int .i64 1, .string ⟨#[47, 97]⟩, .string ⟨#[]⟩, .string ⟨#[]⟩] := by kernel_rfl
theorem b26b : Tryd.prog.built 26 [(0, .int .i64 2), (1, .string ⟨#[47, 97, 47, 102]⟩), (3, .string ⟨#[7]⟩)] = some #[.int .i64 2, .string ⟨#[47, 97, 47, 102]⟩, .string ⟨#[]⟩, .string ⟨#[7]⟩] := by kernel_rfl
theorem b26c : Tryd.prog.built 26 [(0, .int .i64 4), (1, .string ⟨#[47, 97, 47, 108]⟩), (3, .string ⟨#[102]⟩)] = some #[.int .i64 4, .string ⟨#[47, 97, 47, 108]⟩, .string ⟨#[]⟩, .string ⟨#[102]⟩] := by kernel_rfl
theorem b26d : Tryd.prog.built 26 [(0, .int .i64 5), (1, .string ⟨#[47, 97]⟩), (2, .string ⟨#[47, 122]⟩)] = some #[.int .i64 5, .string ⟨#[47, 97]⟩, .string ⟨#[47, 122]⟩, .string ⟨#[]⟩] := by kernel_rfl
theorem b26e : Tryd.prog.built 26 [(0, .int .i64 1), (1, .string ⟨#[47, 98, 47, 99]⟩)] = some #[.int .i64 1, .string ⟨#[47, 98, 47, 99]⟩, .string ⟨#[]⟩, .string ⟨#[]⟩] := by kernel_rfl
def wCells : Array Value := #[.int .i64 1, .string ⟨#[47, 97]⟩, .string ⟨#[]⟩, .string ⟨#[]⟩, .int .i64 2, .string ⟨#[47, 97, 47, 102]⟩, .string ⟨#[]⟩, .string ⟨#[7]⟩, .int .i64 4, .string ⟨#[47, 97, 47, 108]⟩, .string ⟨#[]⟩, .string ⟨#[102]⟩, .int .i64 5, .string ⟨#[47, 97]⟩, .string ⟨#[47, 122]⟩, .string ⟨#[]⟩, .int .i64 1, .string ⟨#[47, 98, 47, 99]⟩, .string ⟨#[]⟩, .string ⟨#[]⟩]
theorem wRd {w : World} {g : Nat} (X : Box w g 26 wCells) : RdO w (.slice (some ⟨g, 0, none⟩) 5 5) wOps :=
  ⟨_, 5, rfl, Nat.le_refl _, by decide, fun _ => ⟨g, 0, rfl, X.lt, fun j u hu => by
    rw [Nat.zero_add]
    exact X.cell (by rw [← Array.getElem?_toList]; exact hu)⟩⟩
theorem two_own {w : World} {g : Nat} (X : Box w g 9 #[.string ⟨#[102]⟩, .string ⟨#[108]⟩]) : w.ownsRow 0 9 1 (.slice (some ⟨g, 0, none⟩) 2 2) [[102], [108]].length ([[102], [108]].map encS) :=
  ⟨rfl, .inr ⟨g, 2, _, rfl, Nat.zero_le _, X, Nat.le_refl _, by decide, rfl, rfl⟩⟩

set_option maxRecDepth 100000 in
set_option maxHeartbeats 8000000 in
theorem wakes6_any (w : World) (hT : TabS w) : Calls Tryd.prog 8 #[] w fun e w' => e = .returned (.bool true) ∧ Below w.heap.size w w' := by
  have HT := Lib.hid hT
  obtain ⟨w1, hw1⟩ : ∃ z, z = w.alloc (.cells wCells 26) := ⟨_, rfl⟩
  obtain ⟨g1, hg1⟩ : ∃ z, z = w.heap.size := ⟨_, rfl⟩
  have HB1 : Hid (Below w.heap.size w w1) := Lib.hid (by rw [hw1]; exact below_new _ _)
  have HRU : Hid (Calls Tryd.prog 15 #[.agg #[.slice none 0 0], .slice (some ⟨g1, 0, none⟩) 5 5] w1 (RunR [] wOps w1)) := Lib.hid (run_any [] (.slice none 0 0) wOps _ w1 (RdI.nil _) (fun x hx => by cases hx) (wRd (by rw [hw1, hg1]; exact box_new)) (by decide) (HT.out.on HB1.out))
  have hw1' : w1 = w.alloc (.cells #[.int .i64 1, .string ⟨#[47, 97]⟩, .string ⟨#[]⟩, .string ⟨#[]⟩, .int .i64 2, .string ⟨#[47, 97, 47, 102]⟩, .string ⟨#[]⟩, .string ⟨#[7]⟩, .int .i64 4, .string ⟨#[47, 97, 47, 108]⟩, .string ⟨#[]⟩, .string ⟨#[102]⟩, .int .i64 5, .string ⟨#[47, 97]⟩, .string ⟨#[47, 122]⟩, .string ⟨#[]⟩, .int .i64 1, .string ⟨#[47, 98, 47, 99]⟩, .string ⟨#[]⟩, .string ⟨#[]⟩] 26) := hw1
  have k0 := b24
  have k1 := b26a
  have k2 := b26b
  have k3 := b26c
  have k4 := b26d
  have k5 := b26e
  clear hT hw1
  go_enter Tryd.func8, Tryd.ntmps8
  go_wp2_with fail
  rw [← hw1', ← hg1]
  clear hw1' hg1 k0 k1 k2 k3 k4 k5
  refine HRU.out.mono ?_
  rintro e a1 ⟨hb1, hr⟩
  rw [wRun] at hr
  obtain ⟨_, v1, rfl, ho1⟩ := hr.resolve_left (fun h => by have := h.1; revert this; decide +kernel)
  obtain ⟨aa, an, ac, rfl⟩ := own_any ho1
  obtain ⟨g2, hg2⟩ : ∃ z, z = a1.heap.size := ⟨_, rfl⟩
  obtain ⟨v2, hv2⟩ : ∃ z, z = (a1.alloc (.cells #[.slice none 0 0] 24)).setRow a1.heap.size #[.slice aa an ac] := ⟨_, rfl⟩
  have hn2 : Below a1.heap.size a1 v2 := by rw [hv2]; exact below_row (below_new _ _) (Nat.le_refl _) _
  have X2 : Hid (Box v2 g2 24 #[.slice aa an ac]) := Lib.hid (by rw [hv2, hg2]; exact Box.row (box_new (w := a1) (t := 24) (cs := #[.slice none 0 0])) _)
  have HB2 : Hid (Below w.heap.size w v2) := Lib.hid (bch HB1.out (bch hb1 hn2))
  have HO2 : Hid (OwnI v2 w1.heap.size (.slice aa an ac) wT) := Lib.hid (ho1.on hn2)
  have HV2 := Lib.hid hv2
  have HG2 := Lib.hid hg2
  have p2 : v2.cell? ⟨g2, 0, none⟩ = some (.slice aa an ac) := X2.out.cell (k := 0) rfl
  have HGE : Hid (Calls Tryd.prog 13 #[.agg #[.slice aa an ac], .string ⟨#[47, 122, 47, 102]⟩] v2 fun e w' => e = .returned (.tuple #[.agg #[.string ⟨#[47, 122, 47, 102]⟩, .int .i64 2, .string ⟨#[7]⟩], .bool true]) ∧ Below v2.heap.size v2 w') := Lib.hid (get_any wT _ ⟨[47, 122, 47, 102], 2, [7]⟩ wOk (.inr (by decide)) v2 HO2.out.rd (tree_sz wOk) (HT.out.on HB2.out).tab)
  clear hb1 hr ho1 hn2 hv2 hg2 HRU
  go_wp2_with (first
    | (refine wpList_store_row rfl 24 (.tmp 1) (.tmp 15) rfl a1.heap.size #[.slice aa an ac] rfl rfl 24 #[.slice none 0 0] box_new (info24 _) rfl (slice_one _ _ _) ?_; rw [← HV2.out, ← HG2.out])
    | fail)
  refine HGE.out.mono ?_
  rintro e a3 ⟨rfl, hb3⟩
  obtain ⟨g4, hg4⟩ : ∃ z, z = a3.heap.size := ⟨_, rfl⟩
  obtain ⟨v4, hv4⟩ : ∃ z, z = (a3.alloc (.cells #[.string ⟨#[]⟩, .int .i64 0, .string ⟨#[]⟩] 35)).setRow a3.heap.size (It.arr ⟨[47, 122, 47, 102], 2, [7]⟩) := ⟨_, rfl⟩
  have X4 : Hid (Box v4 g4 35 (It.arr ⟨[47, 122, 47, 102], 2, [7]⟩)) := Lib.hid (by rw [hv4, hg4]; exact Box.row (box_new (w := a3) (t := 35) (cs := It.nil.arr)) _)
  have hn4 : Below v2.heap.size v2 v4 := by rw [hv4]; exact bch hb3 (below_row (below_new _ _) (Nat.le_refl _) _)
  have HB4 : Hid (Below w.heap.size w v4) := Lib.hid (bch HB2.out hn4)
  have X24 : Hid (Box v4 g2 24 #[.slice aa an ac]) := Lib.hid (X2.out.on hn4)
  have HO4 : Hid (OwnI v4 w1.heap.size (.slice aa an ac) wT) := Lib.hid (HO2.out.on hn4)
  have HV4 := Lib.hid hv4
  have HG4 := Lib.hid hg4
  have c42 : v4.cell? ⟨g4, 2, none⟩ = some (.string ⟨#[7]⟩) := X4.out.cell (k := 2) rfl
  have p4 : v4.cell? ⟨g2, 0, none⟩ = some (.slice aa an ac) := X24.out.cell (k := 0) rfl
  have HKI := Lib.hid (kids_any w1.heap.size wT (.slice aa an ac) [47, 122] v4 HO4.out wOk (by decide) (HT.out.on HB4.out).tab)
  clear hb3 hn4 hv4 hg4 HGE p2
  go_wp2_with (first
    | (refine wpList_store_row rfl 35 (.tmp 4) (.tmp 21) rfl a3.heap.size (It.arr ⟨[47, 122, 47, 102], 2, [7]⟩) rfl rfl 35 It.nil.arr box_new (info35 _) rfl (iarr_one _) ?_; rw [← HV4.out, ← HG4.out])
    | fail)
  refine HKI.out.mono ?_
  rintro e a5 ⟨x5, rfl, ho5, hb5⟩
  rw [wKids] at ho5
  obtain ⟨a6, c6, rfl⟩ := own_len ho5
  obtain ⟨w6, hw6⟩ : ∃ z, z = a5.alloc (.cells #[.string ⟨#[102]⟩, .string ⟨#[108]⟩] 9) := ⟨_, rfl⟩
  obtain ⟨g6, hg6⟩ : ∃ z, z = a5.heap.size := ⟨_, rfl⟩
  have hb56 : Below a5.heap.size a5 w6 := by rw [hw6]; exact below_new _ _
  have X6 : Box w6 g6 9 #[.string ⟨#[102]⟩, .string ⟨#[108]⟩] := by rw [hw6, hg6]; exact box_new
  have HEQ : Hid (Calls Tryd.prog 26 #[.slice a6 2 c6, .slice (some ⟨g6, 0, none⟩) 2 2] w6 fun e w' => e = .returned (.bool true) ∧ ∃ q, w' = w6.drewN q) := Lib.hid ((eq_any [[102], [108]] [[102], [108]] v4.heap.size 0 (.slice a6 2 c6) (.slice (some ⟨g6, 0, none⟩) 2 2) w6 (owns_below ho5 hb56) (two_own X6) (by decide) (by decide)).mono fun _ _ h => ⟨by rw [h.1]; exact ret_bool (by decide), h.2⟩)
  have hn6 : Below v4.heap.size v4 w6 := bch hb5 hb56
  have HB6 : Hid (Below w.heap.size w w6) := Lib.hid (bch HB4.out hn6)
  have X26 := Lib.hid (X24.out.on hn6)
  have HO6 : Hid (OwnI w6 w1.heap.size (.slice aa an ac) wT) := Lib.hid (HO4.out.on hn6)
  clear ho5 hb5 hb56 hn6 X6 HKI p4 c42
  go_wp2_with fail
  rw [← hw6, ← hg6]
  clear hw6 hg6
  refine HEQ.out.mono ?_
  rintro e a7 ⟨rfl, q, hq⟩
  have hb7 : Below w6.heap.size w6 a7 := by rw [hq]; exact below_drewN' (Below.refl _ _) q
  have p7 : a7.cell? ⟨g2, 0, none⟩ = some (.slice aa an ac) := (X26.out.on hb7).cell (k := 0) rfl
  have HB7 : Hid (Below w.heap.size w a7) := Lib.hid (bch HB6.out hb7)
  have HBL := Lib.hid (below_any w1.heap.size wT (.slice aa an ac) [47] a7 (HO6.out.on hb7) wOk (by decide) (HT.out.on HB7.out).tab)
  clear hq hb7 HEQ
  go_wp2_with fail
  refine HBL.out.mono ?_
  rintro e a8 ⟨x8, rfl, ho8, hb8⟩
  obtain ⟨a9, c9, rfl, _⟩ := own_slice ho8
  rw [wBelow]
  have HB8 := Lib.hid (bch HB7.out hb8)
  clear ho8 hb8 HBL
  go_wp2_with fail
  go_ret
  exact ⟨rfl, HB8.out⟩
end Go.Proofs.YtemhdjplhafmiaaDoor
