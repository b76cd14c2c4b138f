/- Proved: whatever tree and operations TreeGoes of puncheonlaw06 is called with, the call returns true, and all read behind it as they read before (the statement Rows.TreeGoesUptoCardSaid). Condition: what came in holds at most 1048576 values and letters (the statement's own); the tables stand as the program's text lays them (the card ties them). | Proved here: TreeGoes of puncheonlaw06 returns true, for every tree and row of operations whose paths have at most two million letters each, wherever the tables stand. -/
import Derived.Test.YtjbbnecegomkcaaGreatDoorMRs
namespace Go.Proofs.YtjbbnecegomkcaaGreatDoor
open Go.RowKit Go.Shelf

/-- Another world, but for one block. -/
structure Asd (g : Nat) (W W' : World) : Prop where
  os : W'.os = W.os
  tape : W'.tape = W.tape
  output : W'.output = W.output
  size : W'.heap.size = W.heap.size
  block : ∀ k, k ≠ g → W'.heap[k]? = W.heap[k]?
theorem Asd.refl (g : Nat) (W : World) : Asd g W W := ⟨rfl, rfl, rfl, rfl, fun _ _ => rfl⟩
theorem Asd.set {g : Nat} {W W' : World} (h : Asd g W W') (j : Nat) (u : Value) : Asd g W (W'.setCell ⟨g, j, none⟩ u) :=
  ⟨h.os, h.tape, h.output, by simpa using h.size, fun k hk => (heap_setCell_other W' ⟨g, j, none⟩ k u hk).trans (h.block k hk)⟩
theorem Asd.box {g b : Nat} {t : TypeId} {cs : Array Value} {W W' : World} (h : Asd g W W') (X : Box W b t cs) (hb : b ≠ g) : Box W' b t cs := (h.block b hb).trans X
theorem Asd.own {g B : Nat} {v : Value} {l : List It} {W W' : World} (h : Asd g W W') (ho : OwnI W B v l) (hv : ∀ k, v.ownBlock = some k → k ≠ g) : OwnI W' B v l := ownR_far ho fun k hk => h.block k (hv k hk)
theorem Asd.below {g B : Nat} {w W W' : World} (h : Asd g W W') (hB : Below B w W) (hg : B ≤ g) : Below B w W' :=
  ⟨h.os.trans hB.os, h.tape.trans hB.tape, h.output.trans hB.output, by rw [h.size]; exact hB.size, fun k hk => (h.block k (by omega)).trans (hB.block k hk)⟩
theorem OwnI.lts {w : World} {B : Nat} {v : Value} {l : List It} (h : OwnI w B v l) : ∀ k, v.ownBlock = some k → B ≤ k ∧ k < w.heap.size := fun k hk => by
  obtain ⟨h1, cs, h2⟩ := ownR_blk h hk
  exact ⟨h1, (Array.getElem?_eq_some_iff.1 h2).1⟩
theorem own_none (w : World) (B : Nat) : OwnI w B (.slice none 0 0) [] := World.ownsRow_nil w B 33 3
/-- A world has at least so many blocks. -/
structure Low (C : Nat) (W : World) : Prop where
  le : C ≤ W.heap.size
theorem Low.on {C : Nat} {W W' : World} (h : Low C W) (hb : Below W.heap.size W W') : Low C W' := ⟨Nat.le_trans h.le hb.size⟩
/-- The block of a row that is to be written, or one that is none. -/
theorem own_pick {W : World} {B C : Nat} {v : Value} {l : List It} (h : OwnI W B v l) (hk : ∀ k, v.ownBlock = some k → k < C) (hB : B ≤ W.heap.size) :
    ∃ g, B ≤ g ∧ (g < C ∨ g = W.heap.size) ∧ (∀ b cs, Box W b 24 cs → b ≠ g) ∧ (0 < l.length → ∃ c, v = .slice (some ⟨g, 0, none⟩) l.length c) := by
  have hh := h
  rcases h.2 with ⟨rfl, h0⟩ | ⟨g, c, cur, rfl, hBg, hg, _⟩
  · exact ⟨W.heap.size, hB, .inr rfl, fun b cs X => Nat.ne_of_lt X.lt, fun h1 => by omega⟩
  · refine ⟨g, hBg, .inl (hk g rfl), fun b cs X e => ?_, fun _ => ⟨c, rfl⟩⟩
    subst e
    rw [show W.heap[b]? = _ from X] at hg
    cases hg
/-- The kinds in the cells of a row of items. -/
def KsI (xs : List Value) (n : Nat) : Prop := ∀ i, i < n → ∃ z, xs[i * 3 + 1]? = some (.int .i64 z)
theorem ksI_flat (l : List It) : KsI (flatI l) l.length := by
  intro i hi
  obtain ⟨x, hx⟩ : ∃ x, l[i]? = some x := ⟨_, List.getElem?_eq_getElem hi⟩
  refine ⟨x.kind, ?_⟩
  have : ∀ (l : List It) (i : Nat), l[i]? = some x → (flatI l)[i * 3 + 1]? = some (.int .i64 x.kind) := by
    intro l
    induction l with
    | nil => intro i h; simp at h
    | cons y l ih =>
      intro i h
      rw [flatI_cons]
      cases i with
      | zero => simp at h; subst h; rfl
      | succ i =>
        have hc : (y.cells).length = 3 := rfl
        rw [List.getElem?_append_right (by rw [hc]; omega), hc, show (i + 1) * 3 + 1 - 3 = i * 3 + 1 by omega]
        exact ih i (by simpa using h)
  exact this l i hx
theorem KsI.set {xs : List Value} {n : Nat} (h : KsI xs n) (j : Nat) (z : Int) : KsI (xs.set (j * 3 + 1) (.int .i64 z)) n := by
  intro i hi
  obtain ⟨y, hy⟩ := h i hi
  rw [List.getElem?_set]
  by_cases e : j * 3 + 1 = i * 3 + 1
  · rw [if_pos e, if_pos (by have := (List.getElem?_eq_some_iff.1 hy).1; omega)]
    exact ⟨z, rfl⟩
  · rw [if_neg e]
    exact ⟨y, hy⟩
theorem few_self {l : List It} (h : l.length ≤ 120) : fewL l = l := by
  unfold fewL
  rw [if_neg (by omega), List.take_of_length_le h]
theorem few_few (l : List It) : fewL (fewL l) = fewL l := by
  by_cases h : 2000 < l.length
  · have e : fewL l = l.take 2001 := by unfold fewL; rw [if_pos h]
    rw [e]
    unfold fewL
    rw [if_pos (by rw [List.length_take]; omega), List.take_take, Nat.min_self]
  · exact few_self (by unfold fewL; rw [if_neg h, List.length_take]; omega)
theorem few_mem {l : List It} {x : It} (h : x ∈ fewL l) : x ∈ l := by
  unfold fewL at h
  split at h
  · exact List.mem_of_mem_take h
  · exact List.mem_of_mem_take h
/-- The tree, and the error, that something comes to. -/
def okL (r : Except Int (List It)) : List It := match r with | .ok l => l | .error _ => []
def erL (r : Except Int (List It)) : Int := match r with | .ok _ => 0 | .error z => z
def DoU (r : Except Int (List It)) (w : World) (e : Ending) (w' : World) : Prop :=
  ∃ xa xn xc, e = .returned (.tuple #[.agg #[.slice xa xn xc], .int .i64 (erL r)]) ∧ xn = (okL r).length ∧ OwnI w' w.heap.size (.slice xa xn xc) (okL r) ∧ Below w.heap.size w w'
theorem doR_u {l : List It} {o : Opn} {w : World} {e : Ending} {w' : World} (h : DoR l o w e w') : DoU (doM l o) w e w' := by
  obtain ⟨hb, ⟨z, h1, _, rfl⟩ | ⟨l', v', h1, rfl, h2⟩⟩ := h
  · rw [h1]; exact ⟨none, 0, 0, rfl, rfl, own_none _ _, hb⟩
  · obtain ⟨a, c, rfl, _⟩ := own_slice h2
    rw [h1]; exact ⟨a, _, c, rfl, rfl, h2, hb⟩
theorem treeE_u {r : Except Int (List It)} {w : World} {e : Ending} {w' : World} (h : TreeE r w e w') : DoU r w e w' := by
  obtain ⟨hb, ⟨z, h1, rfl⟩ | ⟨l', v', h1, rfl, h2⟩⟩ := h
  · rw [h1]; exact ⟨none, 0, 0, rfl, rfl, own_none _ _, hb⟩
  · obtain ⟨a, c, rfl, _⟩ := own_slice h2
    rw [h1]; exact ⟨a, _, c, rfl, rfl, h2, hb⟩
theorem goes_next {M : List It} {o : Opn} (hv : validT M = true) (h0 : erL (doM M o) = 0) : ∀ x ∈ okL (doM M o), x.path.length ≤ 2000000 := by
  unfold doM at h0 ⊢
  rw [if_pos hv] at h0 ⊢
  cases h : actM M o with
  | error z => rw [h] at h0; exact absurd h0 (act_err h)
  | ok l' => exact fun x hx => Nat.le_trans (valid_len x.path ((act_goes (tree_ok hv) h).2.ok.kid x hx).1.1) (by decide)
theorem no_do {M : List It} {o : Opn} (hv : validT M = false) : erL (doM M o) = 160 ∧ okL (doM M o) = [] := by
  unfold doM
  rw [if_neg (by simp [hv])]
  exact ⟨rfl, rfl⟩
set_option maxRecDepth 100000 in
set_option maxHeartbeats 16000000 in
theorem goes6_any (l : List It) (v vo : Value) (ops : List Opn) (w : World) (hv : RdI w v l) (hx : ∀ x ∈ l, x.path.length ≤ 2000000) (ho : RdO w vo ops) (hso : ∀ o ∈ ops, o.path.length ≤ 2000000 ∧ o.to.length ≤ 2000000) (hT : TabS w) :
    Calls Tryz.prog 5 #[.agg #[v], vo] w (EqR true w) := by
  obtain ⟨w1, hw1⟩ : ∃ z, z = w.alloc (.cells #[v] 24) := ⟨_, rfl⟩
  obtain ⟨bX, hbX⟩ : ∃ z, z = w.heap.size := ⟨_, rfl⟩
  have XX : Hid (Box w1 bX 24 #[v]) := Lib.hid (by rw [hw1, hbX]; exact box_new)
  have HB : Hid (Below w.heap.size w w1) := Lib.hid (by rw [hw1]; exact below_new _ _)
  have RX : Hid (RdI w1 v l) := Lib.hid (hv.on HB.out)
  obtain ⟨a, c, rfl, _⟩ := hv.open
  have HO : Hid (RdO w vo ops) := Lib.hid ho
  obtain ⟨ao, co, rfl, hlc, hcm, _⟩ := ho.open
  obtain ⟨n, hn⟩ : ∃ n, n = ops.length := ⟨_, rfl⟩
  have HN := Lib.hid hn
  rw [← hn] at hlc HO ⊢
  unfold maxLen at hcm
  obtain ⟨L, hL⟩ : ∃ z, z = fewL l := ⟨_, rfl⟩
  have HL := Lib.hid hL
  have HXL : Hid (∀ x ∈ L, x.path.length ≤ 2000000) := Lib.hid (fun x h => hx x (few_mem (by rw [← hL]; exact h)))
  have HFF : Hid (fewL L = L) := Lib.hid (by rw [hL]; exact few_few l)
  have HSO := Lib.hid hso
  have HT := Lib.hid hT
  obtain ⟨q, hq⟩ : ∃ z, z = l.length := ⟨_, rfl⟩
  rw [← hq] at RX XX hw1 ⊢
  clear hv hx ho hso hT hn hL hq
  go_enter Tryz.func5, Tryz.ntmps5
  go_upto_region 1 with fail
  rw [← hbX, ← hw1]
  clear hw1 hbX
  go_wp2_with fail
  refine (wakes6_any w1 (HT.out.on HB.out)).mono ?_
  rintro e w2 ⟨rfl, hb⟩
  have hcar : Below w1.heap.size w1 w2 := hb
  have XX := Lib.hid (XX.out.on hcar)
  have RX := Lib.hid (RX.out.on hcar)
  have HB := Lib.hid (bch HB.out hcar)
  clear hcar
  have p0 := XX.out.cell (k := 0) rfl
  have HS2 : Hid (w.heap.size ≤ w2.heap.size) := Lib.hid HB.out.size
  clear hb
  go_wp2_with fail
  clear p0
  refine (own6_any l _ w2 RX.out).mono ?_
  rintro e w3 ⟨xv, rfl, hI, hb⟩
  rw [← HL.out] at hI
  obtain ⟨a1, n1, c1, rfl⟩ := own_any hI
  obtain ⟨VT, hVT⟩ : ∃ z, z = (w3.alloc (.cells #[.slice none 0 0] 24)).setRow w3.heap.size #[.slice a1 n1 c1] := ⟨_, rfl⟩
  obtain ⟨bT, hbT⟩ : ∃ z, z = w3.heap.size := ⟨_, rfl⟩
  have hnT : Below w3.heap.size w3 VT := by rw [hVT]; exact below_row (below_new _ _) (Nat.le_refl _) _
  have XT : Hid (Box VT bT 24 #[.slice a1 n1 c1]) := Lib.hid (by rw [hVT, hbT]; exact box_new.row _)
  have HVT := Lib.hid hVT
  have HWT := Lib.hid hbT
  have hcar : Below w2.heap.size w2 VT := bch hb hnT
  have XX := Lib.hid (XX.out.on hcar)
  have RX := Lib.hid (RX.out.on hcar)
  have HB := Lib.hid (bch HB.out hcar)
  clear hcar
  have OT : Hid (OwnI VT w.heap.size (.slice a1 n1 c1) L) := Lib.hid (own_base (hI.on hnT) HS2.out)
  have HGT : Hid (w.heap.size ≤ bT) := Lib.hid (by rw [hbT]; exact Nat.le_trans HS2.out hb.size)
  clear hI hb hnT HS2 XX RX
  clear hVT hbT
  go_wp2_with (first | (refine wpList_store_row rfl 24 (.tmp 5) (.tmp 17) rfl w3.heap.size #[.slice a1 n1 c1] rfl rfl 24 #[.slice none 0 0] box_new (info24 _) rfl (slice_one _ _ _) ?_; rw [← HVT.out, ← HWT.out]) | fail)
  go_loopw [20] (fun i W => ∃ (k : Nat) (M : List It) (a3 : Option Addr) (n3 c3 : Nat), k ≤ n ∧ k ≤ 24 ∧ i = .int .i64 k ∧ Hid (∀ x ∈ M, x.path.length ≤ 2000000) ∧ Hid (fewL M = M) ∧ Hid (Box W bT 24 #[.slice a3 n3 c3]) ∧ Hid (OwnI W w.heap.size (.slice a3 n3 c3) M) ∧ Hid (Below w.heap.size w W)) (fun i _ => n - (Lib.intOf i).toNat)
  case atStart => exact ⟨0, L, a1, n1, c1, Nat.zero_le _, by decide, rfl, HXL, HFF, XT, OT, HB⟩
  case round =>
    clear XT OT HB HXL HFF HL
    obtain ⟨k, M, a3, n3, c3, hk, hk24, rfl, HXM, HFM, XT, OT, HB⟩ := hrel
    obtain ⟨wq, hwq⟩ : ∃ q, q = wr := ⟨_, rfl⟩
    rw [← hwq] at XT OT HB ⊢
    clear hwq
    by_cases hlt : k < n
    · obtain ⟨o, ho⟩ : ∃ x, ops[k]? = some x := ⟨_, List.getElem?_eq_getElem (by rw [← HN.out]; exact hlt)⟩
      obtain ⟨a', c', e, _, _, hc⟩ := RdO.open (l := ops) (by have := HO.out; exact RdF.on this HB.out)
      rw [← HN.out] at e
      cases e
      obtain ⟨g, q, rfl, hg, hc⟩ := hc (by rw [← HN.out]; omega)
      obtain ⟨q0, q1, q2, q3⟩ := hc k o ho
      have k1 : (k : Int) < (n : Int) := by omega
      have k2 : (0 : Int) ≤ (k : Int) := by omega
      have k4 : IntKind.i64.wrap ((k : Int) + 1) = (k : Int) + 1 := IntWalk.i64_in _ (by omega)
      obtain ⟨w5, hw5⟩ : ∃ q, q = wq.alloc (.cells #[.int .i64 o.kind, .string ⟨o.path.toArray⟩, .string ⟨o.to.toArray⟩, .string ⟨o.data.toArray⟩] 51) := ⟨_, rfl⟩
      have hb5 : Below wq.heap.size wq w5 := by rw [hw5]; exact below_new _ _
      have XO : Hid (Box w5 wq.heap.size 51 o.arr) := Lib.hid (by rw [hw5]; exact box_new)
      have XT := Lib.hid (XT.out.on hb5)
      have OT := Lib.hid (OT.out.on hb5)
      have HB := Lib.hid (bch HB.out hb5)
      have HSK : Hid (o.path.length ≤ 2000000 ∧ o.to.length ≤ 2000000) := Lib.hid (HSO.out o (List.mem_of_getElem? ho))
      clear hc hg ho hb5
      go_upto_region 7 with fail
      obtain ⟨bO, hbO⟩ : ∃ q, q = wq.heap.size := ⟨_, rfl⟩
      rw [← hbO] at XO ⊢
      rw [← hw5]
      clear hw5 hbO q0 q1 q2 q3
      by_cases h24 : k = 24
      · have t24 : ((k : Int) == 24) = true := by subst h24; rfl
        have t24' : decide ((k : Int) = 24) = true := by subst h24; rfl
        clear h24
        go_wp2_with fail
        go_ret
        exact ⟨rfl, HB.out⟩
      · have t24 : ((k : Int) == 24) = false := by simp; omega
        have t24' : decide ((k : Int) = 24) = false := by simp; omega

        have p0 := XT.out.cell (k := 0) rfl
        go_wp2_with fail
        clear p0
        refine (own6_any M _ w5 OT.out.rd).mono ?_
        rintro e w6 ⟨xv, rfl, hI, hb⟩
        rw [HFM.out] at hI
        obtain ⟨a2, n2, c2, rfl⟩ := own_any hI
        obtain ⟨VW, hVW⟩ : ∃ z, z = (w6.alloc (.cells #[.slice none 0 0] 24)).setRow w6.heap.size #[.slice a2 n2 c2] := ⟨_, rfl⟩
        obtain ⟨bW, hbW⟩ : ∃ z, z = w6.heap.size := ⟨_, rfl⟩
        have hnW : Below w6.heap.size w6 VW := by rw [hVW]; exact below_row (below_new _ _) (Nat.le_refl _) _
        have XW : Hid (Box VW bW 24 #[.slice a2 n2 c2]) := Lib.hid (by rw [hVW, hbW]; exact box_new.row _)
        have HVW := Lib.hid hVW
        have HWW := Lib.hid hbW
        have hcar : Below w5.heap.size w5 VW := bch hb hnW
        have XT := Lib.hid (XT.out.on hcar)
        have OT := Lib.hid (OT.out.on hcar)
        have XO := Lib.hid (XO.out.on hcar)
        have HB := Lib.hid (bch HB.out hcar)
        clear hcar
        have OW : Hid (OwnI VW 0 (.slice a2 n2 c2) M) := Lib.hid (own_base (hI.on hnW) (Nat.zero_le _))
        have p0 := XT.out.cell (k := 0) rfl
        have m0 : VW.cell? ⟨bO, 0, none⟩ = some (.int .i64 o.kind) := XO.out.cell (k := 0) rfl
        have m1 : VW.cell? ⟨bO, 1, none⟩ = some (.string ⟨o.path.toArray⟩) := XO.out.cell (k := 1) rfl
        have m2 : VW.cell? ⟨bO, 2, none⟩ = some (.string ⟨o.to.toArray⟩) := XO.out.cell (k := 2) rfl
        have m3 : VW.cell? ⟨bO, 3, none⟩ = some (.string ⟨o.data.toArray⟩) := XO.out.cell (k := 3) rfl
        clear hI hb hnW
        clear hVW hbW
        go_wp2_with (first | (refine wpList_store_row rfl 24 (.tmp 8) (.tmp 28) rfl w6.heap.size #[.slice a2 n2 c2] rfl rfl 24 #[.slice none 0 0] box_new (info24 _) rfl (slice_one _ _ _) ?_; rw [← HVW.out, ← HWW.out]) | fail)
        clear m0 m1 m2 m3
        clear p0
        have HKT : Hid (∀ k, (Value.slice a3 n3 c3).ownBlock = some k → k < VW.heap.size) := Lib.hid (fun k hk => (OT.out.lts k hk).2)
        have HKW : Hid (∀ k, (Value.slice a2 n2 c2).ownBlock = some k → k < VW.heap.size) := Lib.hid (fun k hk => (OW.out.lts k hk).2)
        have HGW : Hid (w.heap.size ≤ VW.heap.size) := Lib.hid HB.out.size
        obtain ⟨r, hr⟩ : ∃ z, z = doM M o := ⟨_, rfl⟩
        have HR := Lib.hid hr
        clear hr
        obtain ⟨er, her⟩ : ∃ z, z = erL r := ⟨_, rfl⟩
        have HER := Lib.hid her
        clear her
        obtain ⟨N, hN⟩ : ∃ z, z = okL r := ⟨_, rfl⟩
        have HNN := Lib.hid hN
        clear hN
        refine (do_any M _ o VW OT.out.rd (fun x h => Nat.le_trans (HXM.out x h) (by decide)) ⟨Nat.le_trans HSK.out.1 (by decide), Nat.le_trans HSK.out.2 (by decide)⟩ (HT.out.on HB.out)).mono ?_
        rintro e w7 hd
        obtain ⟨xa, xn, xc, rfl, hxn, hI, hb⟩ := doR_u hd
        clear hd
        rw [← HR.out, ← HER.out]
        rw [← HR.out, ← HNN.out] at hxn hI
        obtain ⟨B6, hB6⟩ : ∃ z, z = VW.heap.size := ⟨_, rfl⟩
        obtain ⟨C7, hC7⟩ : ∃ z, z = w7.heap.size := ⟨_, rfl⟩
        have HGC7 : Hid (w.heap.size ≤ C7) := Lib.hid (by rw [hC7]; exact Nat.le_trans HB.out.size hb.size)
        have HKN : Hid (∀ k, (Value.slice xa xn xc).ownBlock = some k → k < C7) := Lib.hid (fun k hk => by rw [hC7]; exact (hI.lts k hk).2)
        have HXN := Lib.hid hxn
        obtain ⟨VN, hVN⟩ : ∃ z, z = (w7.alloc (.cells #[.slice none 0 0] 24)).setRow w7.heap.size #[.slice xa xn xc] := ⟨_, rfl⟩
        obtain ⟨bN, hbN⟩ : ∃ z, z = w7.heap.size := ⟨_, rfl⟩
        have hnN : Below w7.heap.size w7 VN := by rw [hVN]; exact below_row (below_new _ _) (Nat.le_refl _) _
        have XN : Hid (Box VN bN 24 #[.slice xa xn xc]) := Lib.hid (by rw [hVN, hbN]; exact box_new.row _)
        have HVN := Lib.hid hVN
        have HWN := Lib.hid hbN
        have hcar : Below VW.heap.size VW VN := bch hb hnN
        have XT := Lib.hid (XT.out.on hcar)
        have OT := Lib.hid (OT.out.on hcar)
        have XO := Lib.hid (XO.out.on hcar)
        have XW := Lib.hid (XW.out.on hcar)
        have OW := Lib.hid (OW.out.on hcar)
        have HB := Lib.hid (bch HB.out hcar)
        clear hcar
        have ON : Hid (OwnI VN B6 (.slice xa xn xc) N) := Lib.hid (by rw [hB6]; exact hI.on hnN)
        have HLC : Hid (Low C7 VN) := Lib.hid ⟨by rw [hC7]; exact hnN.size⟩
        have HLB : Hid (Low B6 VN) := Lib.hid ⟨by rw [hB6]; exact Nat.le_trans hb.size hnN.size⟩
        rw [← hB6] at HKT HKW HGW
        have m0 : VN.cell? ⟨bO, 0, none⟩ = some (.int .i64 o.kind) := XO.out.cell (k := 0) rfl
        have m1 : VN.cell? ⟨bO, 1, none⟩ = some (.string ⟨o.path.toArray⟩) := XO.out.cell (k := 1) rfl
        have m2 : VN.cell? ⟨bO, 2, none⟩ = some (.string ⟨o.to.toArray⟩) := XO.out.cell (k := 2) rfl
        have m3 : VN.cell? ⟨bO, 3, none⟩ = some (.string ⟨o.data.toArray⟩) := XO.out.cell (k := 3) rfl
        clear hI hb hnN hxn hB6 hC7
        clear hVN hbN
        go_wp2_with (first | (refine wpList_store_row rfl 24 (.tmp 9) (.tmp 33) rfl w7.heap.size #[.slice xa xn xc] rfl rfl 24 #[.slice none 0 0] box_new (info24 _) rfl (slice_one _ _ _) ?_; rw [← HVN.out, ← HWN.out]) | fail)
        clear m0 m1 m2 m3
        obtain ⟨cm, hcm2⟩ : ∃ z, z = checkM o := ⟨_, rfl⟩
        have HCM := Lib.hid hcm2
        clear hcm2
        refine (rcheck_any o HSK.out.1 HSK.out.2 VN).mono ?_
        rintro e w8 ⟨rfl, hb⟩
        rw [chkr_is, ← HCM.out]
        have hcar : Below VN.heap.size VN w8 := hb
        have XT := Lib.hid (XT.out.on hcar)
        have OT := Lib.hid (OT.out.on hcar)
        have XO := Lib.hid (XO.out.on hcar)
        have XW := Lib.hid (XW.out.on hcar)
        have OW := Lib.hid (OW.out.on hcar)
        have XN := Lib.hid (XN.out.on hcar)
        have ON := Lib.hid (ON.out.on hcar)
        have HLC := Lib.hid (HLC.out.on hcar)
        have HLB := Lib.hid (HLB.out.on hcar)
        have HB := Lib.hid (bch HB.out hcar)
        clear hcar
        clear hb
        have m0 : w8.cell? ⟨bO, 0, none⟩ = some (.int .i64 o.kind) := XO.out.cell (k := 0) rfl
        have m1 : w8.cell? ⟨bO, 1, none⟩ = some (.string ⟨o.path.toArray⟩) := XO.out.cell (k := 1) rfl
        have m2 : w8.cell? ⟨bO, 2, none⟩ = some (.string ⟨o.to.toArray⟩) := XO.out.cell (k := 2) rfl
        have m3 : w8.cell? ⟨bO, 3, none⟩ = some (.string ⟨o.data.toArray⟩) := XO.out.cell (k := 3) rfl
        go_wp2_with fail
        clear m0 m1 m2 m3
        refine (checkop_any o (Nat.le_trans HSK.out.1 (by decide)) (Nat.le_trans HSK.out.2 (by decide)) w8 (HT.out.on HB.out)).mono ?_
        rintro e w9 ⟨rfl, hb⟩
        rw [← HCM.out]
        have hcar : Below w8.heap.size w8 w9 := hb
        have XT := Lib.hid (XT.out.on hcar)
        have OT := Lib.hid (OT.out.on hcar)
        have XO := Lib.hid (XO.out.on hcar)
        have XW := Lib.hid (XW.out.on hcar)
        have OW := Lib.hid (OW.out.on hcar)
        have XN := Lib.hid (XN.out.on hcar)
        have ON := Lib.hid (ON.out.on hcar)
        have HLC := Lib.hid (HLC.out.on hcar)
        have HLB := Lib.hid (HLB.out.on hcar)
        have HB := Lib.hid (bch HB.out hcar)
        clear hcar
        clear hb
        have t1 : (cm != cm) = false := by simp
        have t1' : (cm == cm) = true := by simp
        obtain ⟨VD, hVD⟩ : ∃ z, z = w9.alloc (.cells #[.slice none 0 0] 24) := ⟨_, rfl⟩
        obtain ⟨bD, hbD⟩ : ∃ z, z = w9.heap.size := ⟨_, rfl⟩
        have hnD : Below w9.heap.size w9 VD := by rw [hVD]; exact below_new _ _
        have XD : Hid (Box VD bD 24 #[.slice none 0 0]) := Lib.hid (by rw [hVD, hbD]; exact box_new)
        have HNT : Hid (bT ≠ bD) := Lib.hid (by have := XT.out.lt; omega)
        have HNW : Hid (bW ≠ bD) := Lib.hid (by have := XW.out.lt; omega)
        have HNE : Hid (bN ≠ bD) := Lib.hid (by have := XN.out.lt; omega)
        have HGB0 : Hid (w.heap.size ≤ bD) := Lib.hid (by rw [hbD]; exact HB.out.size)
        go_upto_region 14 with fail
        rw [← hbD, ← hVD]
        have hcar : Below w9.heap.size w9 VD := hnD
        have XT := Lib.hid (XT.out.on hcar)
        have OT := Lib.hid (OT.out.on hcar)
        have XO := Lib.hid (XO.out.on hcar)
        have XW := Lib.hid (XW.out.on hcar)
        have OW := Lib.hid (OW.out.on hcar)
        have XN := Lib.hid (XN.out.on hcar)
        have ON := Lib.hid (ON.out.on hcar)
        have HLC := Lib.hid (HLC.out.on hcar)
        have HLB := Lib.hid (HLB.out.on hcar)
        have HB := Lib.hid (bch HB.out hcar)
        clear hcar
        clear t1 t1' hVD hbD hnD HCM
        have p0 := XW.out.cell (k := 0) rfl
        go_wp2_with fail
        clear p0
        refine (rtree_any M _ VD OW.out.rd HXM.out).mono ?_
        rintro e w10 ⟨rfl, hb⟩
        obtain ⟨ok, hok⟩ : ∃ z, z = validT M := ⟨_, rfl⟩
        rw [← hok]
        have HOK := Lib.hid hok
        clear hok
        have hcar : Below VD.heap.size VD w10 := hb
        have XT := Lib.hid (XT.out.on hcar)
        have OT := Lib.hid (OT.out.on hcar)
        have XO := Lib.hid (XO.out.on hcar)
        have XW := Lib.hid (XW.out.on hcar)
        have OW := Lib.hid (OW.out.on hcar)
        have XN := Lib.hid (XN.out.on hcar)
        have ON := Lib.hid (ON.out.on hcar)
        have HLC := Lib.hid (HLC.out.on hcar)
        have HLB := Lib.hid (HLB.out.on hcar)
        have XD := Lib.hid (XD.out.on hcar)
        have HB := Lib.hid (bch HB.out hcar)
        clear hcar
        clear hb
        cases ok with
        | false =>
          have HE1 : Hid (er = 160) := Lib.hid (by rw [HER.out, HR.out]; exact (no_do HOK.out.symm).1)
          have OD : Hid (OwnI w10 C7 (.slice none 0 0) N) := Lib.hid (by rw [HNN.out, HR.out, (no_do HOK.out.symm).2]; exact own_none _ _)
          obtain rfl := HE1.out
          clear HE1
          have t3 : ((160 : Int) != 160) = false := by simp
          have t3' : ((160 : Int) == 160) = true := by simp
          have p0 := XN.out.cell (k := 0) rfl
          have p1 := XD.out.cell (k := 0) rfl
          go_wp2_with fail
          clear p0 p1
          refine (rsame6_any N N _ _ w10 ON.out.rd OD.out.rd).mono ?_
          rintro e w12 ⟨he, hb⟩
          rw [decide_eq_true rfl] at he
          subst he
          have hcar : Below w10.heap.size w10 w12 := hb
          have XT := Lib.hid (XT.out.on hcar)
          have OT := Lib.hid (OT.out.on hcar)
          have XW := Lib.hid (XW.out.on hcar)
          have OW := Lib.hid (OW.out.on hcar)
          have XN := Lib.hid (XN.out.on hcar)
          have ON := Lib.hid (ON.out.on hcar)
          have HLC := Lib.hid (HLC.out.on hcar)
          have HLB := Lib.hid (HLB.out.on hcar)
          have XD := Lib.hid (XD.out.on hcar)
          have OD := Lib.hid (OD.out.on hcar)
          have HB := Lib.hid (bch HB.out hcar)
          clear hcar
          clear hb
          have p0 := XT.out.cell (k := 0) rfl
          have p1 := XW.out.cell (k := 0) rfl
          go_wp2_with fail
          clear p0 p1
          refine (rsame6_any M M _ _ w12 OT.out.rd OW.out.rd).mono ?_
          rintro e w13 ⟨he, hb⟩
          rw [decide_eq_true rfl] at he
          subst he
          have hcar : Below w12.heap.size w12 w13 := hb
          have XT := Lib.hid (XT.out.on hcar)
          have OT := Lib.hid (OT.out.on hcar)
          have XW := Lib.hid (XW.out.on hcar)
          have OW := Lib.hid (OW.out.on hcar)
          have XN := Lib.hid (XN.out.on hcar)
          have ON := Lib.hid (ON.out.on hcar)
          have HLC := Lib.hid (HLC.out.on hcar)
          have HLB := Lib.hid (HLB.out.on hcar)
          have XD := Lib.hid (XD.out.on hcar)
          have OD := Lib.hid (OD.out.on hcar)
          have HB := Lib.hid (bch HB.out hcar)
          clear hcar
          clear hb t3 t3'
          obtain ⟨gN, hgB, hgC, hgX, hgF⟩ := own_pick ON.out HKN.out HLB.out.le
          have HGB := Lib.hid hgB
          have HGC := Lib.hid hgC
          have HGX := Lib.hid hgX
          have HGF : Hid (0 < xn → ∃ c, Value.slice xa xn xc = .slice (some ⟨gN, 0, none⟩) xn c) := Lib.hid (fun h => by have h5 := hgF (by rw [← HXN.out]; exact h); rw [← HXN.out] at h5; exact h5)
          have HKS : Hid (KsI (flatI N) xn) := Lib.hid (by rw [HXN.out]; exact ksI_flat N)
          have HOX : Hid (w13.ownsRow B6 33 3 (.slice xa xn xc) xn (flatI N)) := Lib.hid (by have := ON.out; unfold OwnI at this; rw [← HXN.out] at this; exact this)
          have hxm : xn ≤ 9223372036854775807 := by obtain ⟨a8, c8, e8, h8, h9⟩ := own_slice ON.out; unfold maxLen at h9; rw [← HXN.out] at h8; omega
          clear hgB hgC hgX hgF
          have p0 := XN.out.cell (k := 0) rfl
          go_wp2_with fail
          clear p0
          go_loopw [67] (fun i W => ∃ (j : Nat) (xs : List Value), j ≤ xn ∧ i = .int .i64 j ∧ Hid (KsI xs xn) ∧ Hid (W.ownsRow B6 33 3 (.slice xa xn xc) xn xs) ∧ Hid (Asd gN w13 W)) (fun i _ => xn - (Lib.intOf i).toNat)
          case atStart => exact ⟨0, flatI N, Nat.zero_le _, rfl, HKS, HOX, Lib.hid (Asd.refl _ _)⟩
          case round =>
            obtain ⟨j, xs, hj, rfl, HKJ, HOJ, HAJ⟩ := hrel
            obtain ⟨wj, hwj⟩ : ∃ q, q = wr := ⟨_, rfl⟩
            rw [← hwj] at HOJ HAJ ⊢
            clear hwj HOX HKS
            by_cases hjn : j < xn
            · obtain ⟨c9, hc9⟩ := HGF.out (by omega)
              cases hc9
              obtain ⟨z, hz⟩ := HKJ.out j hjn
              have j1 : (j : Int) < (xn : Int) := by omega
              have j2 : (0 : Int) ≤ (j : Int) := by omega
              have j4 : IntKind.i64.wrap ((j : Int) + 1) = (j : Int) + 1 := IntWalk.i64_in _ (by omega)
              have p0 := (HAJ.out.box XN.out (HGX.out _ _ XN.out)).cell (k := 0) rfl
              have p1 : wj.cell? ⟨gN, j * 3 + 1, none⟩ = some (.int .i64 z) := (HOJ.out.cellAt (j * 3 + 1) (by omega)).trans hz
              have f1 : wj.frozen? ⟨gN, j * 3 + 1, none⟩ = false := HOJ.out.frozenAt _
              clear hz
              go_wp2_with fail
              go_roundw
              case rel => exact ⟨j + 1, _, hjn, by go_num, Lib.hid (HKJ.out.set j _), Lib.hid (HOJ.out.stored (j * 3 + 1) _).1, Lib.hid (HAJ.out.set _ _)⟩
              case measure => simp [Lib.intOf]; omega
            · have j1 : ¬ ((j : Int) < (xn : Int)) := by omega
              have HBJ : Hid (Below w.heap.size w wj) := Lib.hid (HAJ.out.below HB.out (Nat.le_trans HGW.out HGB.out))
              have XT := Lib.hid (HAJ.out.box XT.out (HGX.out _ _ XT.out))
              have XW := Lib.hid (HAJ.out.box XW.out (HGX.out _ _ XW.out))
              have XD := Lib.hid (HAJ.out.box XD.out (HGX.out _ _ XD.out))
              have OT := Lib.hid (HAJ.out.own OT.out (fun k hk => by have := HKT.out k hk; have := HGB.out; omega))
              have OW := Lib.hid (HAJ.out.own OW.out (fun k hk => by have := HKW.out k hk; have := HGB.out; omega))
              have OD := Lib.hid (HAJ.out.own OD.out (fun k hk => by have h1 := OD.out.lts k hk; rcases HGC.out with h2 | h2 <;> omega))
              have HB := HBJ
              clear HOJ HKJ HAJ HBJ HGX HGF HGB HGC XN ON HLC HLB HKN HKT HKW
              have p0 := XT.out.cell (k := 0) rfl
              have p1 := XW.out.cell (k := 0) rfl
              go_wp2_with fail
              clear p0 p1
              refine (rsame6_any M M _ _ wj OT.out.rd OW.out.rd).mono ?_
              rintro e w15 ⟨he, hb⟩
              rw [decide_eq_true rfl] at he
              subst he
              have hcar : Below wj.heap.size wj w15 := hb
              have XT := Lib.hid (XT.out.on hcar)
              have OT := Lib.hid (OT.out.on hcar)
              have XW := Lib.hid (XW.out.on hcar)
              have OW := Lib.hid (OW.out.on hcar)
              have XD := Lib.hid (XD.out.on hcar)
              have OD := Lib.hid (OD.out.on hcar)
              have HB := Lib.hid (bch HB.out hcar)
              clear hcar
              clear hb
              have t5 : ((160 : Int) == 0) = false := by simp
              go_wp2_with fail
              go_roundw
              case rel => exact ⟨k + 1, M, a3, n3, c3, hlt, by omega, by go_num, HXM, HFM, XT, OT, HB⟩
              case measure => simp [Lib.intOf]; omega
        | true =>
          have p0 := XW.out.cell (k := 0) rfl
          have m0 : w10.cell? ⟨bO, 0, none⟩ = some (.int .i64 o.kind) := XO.out.cell (k := 0) rfl
          have m1 : w10.cell? ⟨bO, 1, none⟩ = some (.string ⟨o.path.toArray⟩) := XO.out.cell (k := 1) rfl
          have m2 : w10.cell? ⟨bO, 2, none⟩ = some (.string ⟨o.to.toArray⟩) := XO.out.cell (k := 2) rfl
          have m3 : w10.cell? ⟨bO, 3, none⟩ = some (.string ⟨o.data.toArray⟩) := XO.out.cell (k := 3) rfl
          go_wp2_with fail
          clear m0 m1 m2 m3
          clear p0
          have HTO : Hid (TreeOk M) := Lib.hid (tree_ok HOK.out.symm)
          have HRR : Hid (doR M o = r) := Lib.hid (by rw [do_is HTO.out, HR.out]; unfold doM; rw [if_pos HOK.out.symm])
          refine (rdo_any M _ o w10 OW.out.rd HTO.out HSK.out r HRR.out).mono ?_
          rintro e w11 hd
          obtain ⟨da, dn, dc, rfl, hdn, hI, hb⟩ := treeE_u hd
          clear hd
          rw [← HER.out]
          rw [← HNN.out] at hdn hI
          have HDN := Lib.hid hdn
          clear hdn
          have XD := Lib.hid (XD.out.on hb)
          obtain ⟨VE, hVE⟩ : ∃ z, z = w11.setRow bD #[.slice da dn dc] := ⟨_, rfl⟩
          have HVE := Lib.hid hVE
          have XOE := Lib.hid XD.out
          have OD : Hid (OwnI VE C7 (.slice da dn dc) N) := Lib.hid (by rw [hVE]; exact own_row (own_base hI HLC.out.le) XOE.out)
          have XD : Hid (Box VE bD 24 #[.slice da dn dc]) := Lib.hid (by rw [hVE]; exact XOE.out.row _)
          have HGD : Hid (w.heap.size ≤ C7) := HGC7
          have hne : ∀ {b : Nat} {cs : Array Value}, Box w11 b 24 cs → b ≠ bD → Box VE b 24 cs := fun X h => by rw [hVE]; exact X.far_row h _
          have XT := Lib.hid (hne (XT.out.on hb) HNT.out)
          have XW := Lib.hid (hne (XW.out.on hb) HNW.out)
          have XN := Lib.hid (hne (XN.out.on hb) HNE.out)
          have OT : Hid (OwnI VE w.heap.size (.slice a3 n3 c3) M) := Lib.hid (by rw [hVE]; exact own_row (OT.out.on hb) XOE.out)
          have OW : Hid (OwnI VE 0 (.slice a2 n2 c2) M) := Lib.hid (by rw [hVE]; exact own_row (OW.out.on hb) XOE.out)
          have ON : Hid (OwnI VE B6 (.slice xa xn xc) N) := Lib.hid (by rw [hVE]; exact own_row (ON.out.on hb) XOE.out)
          have HLC : Hid (Low C7 VE) := Lib.hid ⟨by rw [hVE, setRow_size]; exact (HLC.out.on hb).le⟩
          have HLB : Hid (Low B6 VE) := Lib.hid ⟨by rw [hVE, setRow_size]; exact (HLB.out.on hb).le⟩
          have HB : Hid (Below w.heap.size w VE) := Lib.hid (by rw [hVE]; exact below_row (bch HB.out hb) HGB0.out _)
          clear hI hb hne XO HTO HRR
          have t3 : (er != er) = false := by simp
          have t3' : (er == er) = true := by simp
          have p0 := XN.out.cell (k := 0) rfl
          have p1 := XD.out.cell (k := 0) rfl
          clear hVE
          go_wp2_with (first | (refine wpList_store_row rfl 24 (.tmp 12) (.tmp 47) rfl bD #[.slice da dn dc] rfl rfl 24 #[.slice none 0 0] XOE.out (info24 _) rfl (slice_one _ _ _) ?_; rw [← HVE.out]) | fail)
          clear p0 p1
          refine (rsame6_any N N _ _ VE ON.out.rd OD.out.rd).mono ?_
          rintro e w12 ⟨he, hb⟩
          rw [decide_eq_true rfl] at he
          subst he
          have hcar : Below VE.heap.size VE w12 := hb
          have XT := Lib.hid (XT.out.on hcar)
          have OT := Lib.hid (OT.out.on hcar)
          have XW := Lib.hid (XW.out.on hcar)
          have OW := Lib.hid (OW.out.on hcar)
          have XN := Lib.hid (XN.out.on hcar)
          have ON := Lib.hid (ON.out.on hcar)
          have HLC := Lib.hid (HLC.out.on hcar)
          have HLB := Lib.hid (HLB.out.on hcar)
          have XD := Lib.hid (XD.out.on hcar)
          have OD := Lib.hid (OD.out.on hcar)
          have HB := Lib.hid (bch HB.out hcar)
          clear hcar
          clear hb
          have p0 := XT.out.cell (k := 0) rfl
          have p1 := XW.out.cell (k := 0) rfl
          go_wp2_with fail
          clear p0 p1
          refine (rsame6_any M M _ _ w12 OT.out.rd OW.out.rd).mono ?_
          rintro e w13 ⟨he, hb⟩
          rw [decide_eq_true rfl] at he
          subst he
          have hcar : Below w12.heap.size w12 w13 := hb
          have XT := Lib.hid (XT.out.on hcar)
          have OT := Lib.hid (OT.out.on hcar)
          have XW := Lib.hid (XW.out.on hcar)
          have OW := Lib.hid (OW.out.on hcar)
          have XN := Lib.hid (XN.out.on hcar)
          have ON := Lib.hid (ON.out.on hcar)
          have HLC := Lib.hid (HLC.out.on hcar)
          have HLB := Lib.hid (HLB.out.on hcar)
          have XD := Lib.hid (XD.out.on hcar)
          have OD := Lib.hid (OD.out.on hcar)
          have HB := Lib.hid (bch HB.out hcar)
          clear hcar
          clear hb t3 t3'
          obtain ⟨gN, hgB, hgC, hgX, hgF⟩ := own_pick ON.out HKN.out HLB.out.le
          have HGB := Lib.hid hgB
          have HGC := Lib.hid hgC
          have HGX := Lib.hid hgX
          have HGF : Hid (0 < xn → ∃ c, Value.slice xa xn xc = .slice (some ⟨gN, 0, none⟩) xn c) := Lib.hid (fun h => by have h5 := hgF (by rw [← HXN.out]; exact h); rw [← HXN.out] at h5; exact h5)
          have HKS : Hid (KsI (flatI N) xn) := Lib.hid (by rw [HXN.out]; exact ksI_flat N)
          have HOX : Hid (w13.ownsRow B6 33 3 (.slice xa xn xc) xn (flatI N)) := Lib.hid (by have := ON.out; unfold OwnI at this; rw [← HXN.out] at this; exact this)
          have hxm : xn ≤ 9223372036854775807 := by obtain ⟨a8, c8, e8, h8, h9⟩ := own_slice ON.out; unfold maxLen at h9; rw [← HXN.out] at h8; omega
          clear hgB hgC hgX hgF
          have p0 := XN.out.cell (k := 0) rfl
          go_wp2_with fail
          clear p0
          go_loopw [67] (fun i W => ∃ (j : Nat) (xs : List Value), j ≤ xn ∧ i = .int .i64 j ∧ Hid (KsI xs xn) ∧ Hid (W.ownsRow B6 33 3 (.slice xa xn xc) xn xs) ∧ Hid (Asd gN w13 W)) (fun i _ => xn - (Lib.intOf i).toNat)
          case atStart => exact ⟨0, flatI N, Nat.zero_le _, rfl, HKS, HOX, Lib.hid (Asd.refl _ _)⟩
          case round =>
            obtain ⟨j, xs, hj, rfl, HKJ, HOJ, HAJ⟩ := hrel
            obtain ⟨wj, hwj⟩ : ∃ q, q = wr := ⟨_, rfl⟩
            rw [← hwj] at HOJ HAJ ⊢
            clear hwj HOX HKS
            by_cases hjn : j < xn
            · obtain ⟨c9, hc9⟩ := HGF.out (by omega)
              cases hc9
              obtain ⟨z, hz⟩ := HKJ.out j hjn
              have j1 : (j : Int) < (xn : Int) := by omega
              have j2 : (0 : Int) ≤ (j : Int) := by omega
              have j4 : IntKind.i64.wrap ((j : Int) + 1) = (j : Int) + 1 := IntWalk.i64_in _ (by omega)
              have p0 := (HAJ.out.box XN.out (HGX.out _ _ XN.out)).cell (k := 0) rfl
              have p1 : wj.cell? ⟨gN, j * 3 + 1, none⟩ = some (.int .i64 z) := (HOJ.out.cellAt (j * 3 + 1) (by omega)).trans hz
              have f1 : wj.frozen? ⟨gN, j * 3 + 1, none⟩ = false := HOJ.out.frozenAt _
              clear hz
              go_wp2_with fail
              go_roundw
              case rel => exact ⟨j + 1, _, hjn, by go_num, Lib.hid (HKJ.out.set j _), Lib.hid (HOJ.out.stored (j * 3 + 1) _).1, Lib.hid (HAJ.out.set _ _)⟩
              case measure => simp [Lib.intOf]; omega
            · have j1 : ¬ ((j : Int) < (xn : Int)) := by omega
              have HBJ : Hid (Below w.heap.size w wj) := Lib.hid (HAJ.out.below HB.out (Nat.le_trans HGW.out HGB.out))
              have XT := Lib.hid (HAJ.out.box XT.out (HGX.out _ _ XT.out))
              have XW := Lib.hid (HAJ.out.box XW.out (HGX.out _ _ XW.out))
              have XD := Lib.hid (HAJ.out.box XD.out (HGX.out _ _ XD.out))
              have OT := Lib.hid (HAJ.out.own OT.out (fun k hk => by have := HKT.out k hk; have := HGB.out; omega))
              have OW := Lib.hid (HAJ.out.own OW.out (fun k hk => by have := HKW.out k hk; have := HGB.out; omega))
              have OD := Lib.hid (HAJ.out.own OD.out (fun k hk => by have h1 := OD.out.lts k hk; rcases HGC.out with h2 | h2 <;> omega))
              have HB := HBJ
              clear HOJ HKJ HAJ HBJ HGX HGF HGB HGC XN ON HLC HLB HKN HKT HKW
              have p0 := XT.out.cell (k := 0) rfl
              have p1 := XW.out.cell (k := 0) rfl
              go_wp2_with fail
              clear p0 p1
              refine (rsame6_any M M _ _ wj OT.out.rd OW.out.rd).mono ?_
              rintro e w15 ⟨he, hb⟩
              rw [decide_eq_true rfl] at he
              subst he
              have hcar : Below wj.heap.size wj w15 := hb
              have XT := Lib.hid (XT.out.on hcar)
              have OT := Lib.hid (OT.out.on hcar)
              have XW := Lib.hid (XW.out.on hcar)
              have OW := Lib.hid (OW.out.on hcar)
              have XD := Lib.hid (XD.out.on hcar)
              have OD := Lib.hid (OD.out.on hcar)
              have HB := Lib.hid (bch HB.out hcar)
              clear hcar
              clear hb
              by_cases h0 : er = 0
              · have t5 : (er == 0) = true := by simpa using h0
                have HE0 := Lib.hid h0
                clear h0
                have p0 := XD.out.cell (k := 0) rfl
                by_cases h120 : dn ≤ 120
                · have t6 : decide ((dn : Int) ≤ 120) = true := by simp; omega
                  have t6' : (dn : Int) ≤ 120 := by omega
                  have HD1 := Lib.hid h120
                  clear h120
                  go_wp2_with (first | (refine wpList_store_row rfl 24 (.tmp 5) (.tmp 92) rfl bT #[.slice da dn dc] rfl rfl 24 _ XT.out (info24 _) rfl (slice_one _ _ _) ?_) | fail)
                  go_roundw
                  case rel => exact ⟨k + 1, N, da, dn, dc, hlt, by omega, by go_num, Lib.hid (by rw [HNN.out, HR.out]; exact goes_next HOK.out.symm (by rw [← HR.out, ← HER.out]; exact HE0.out)), Lib.hid (few_self (by rw [← HDN.out]; exact HD1.out)), Lib.hid (XT.out.row _), Lib.hid (own_row (own_base OD.out HGD.out) XT.out), Lib.hid (below_row HB.out HGT.out _)⟩
                  case measure => simp [Lib.intOf]; omega
                · have t6 : decide ((dn : Int) ≤ 120) = false := by simp; omega
                  have t6' : ¬ ((dn : Int) ≤ 120) := by omega
                  clear h120
                  go_wp2_with fail
                  go_roundw
                  case rel => exact ⟨k + 1, M, a3, n3, c3, hlt, by omega, by go_num, HXM, HFM, XT, OT, HB⟩
                  case measure => simp [Lib.intOf]; omega
              · have t5 : (er == 0) = false := by simpa using h0
                clear h0
                go_wp2_with fail
                go_roundw
                case rel => exact ⟨k + 1, M, a3, n3, c3, hlt, by omega, by go_num, HXM, HFM, XT, OT, HB⟩
                case measure => simp [Lib.intOf]; omega
    · have k1 : ¬ ((k : Int) < (n : Int)) := by omega
      go_wp2_with fail
      go_ret
      exact ⟨rfl, HB.out⟩

end Go.Proofs.YtjbbnecegomkcaaGreatDoor

namespace Go.Proofs.YtjbbnecegomkcaaGreatDoor.TreeGoesP
open Go.ChangeShapes Go.WideShapes Go.ChangeAt Go.RowKit Go.Joins Go.Deep
open Go.ChangeMaps (open_string shut_string)

theorem met (os : Os) : laidMet Tryz.prog Rows.treeGoesUptoRow.laid ((laidWorld os).forCall (fun _ _ => 0) ⟨#[], #[zeroTree, .slice none 0 0], []⟩).memory :=
  laid_met os _
theorem reads (os : Os) {H : Type} (enc : TypeId × Value → H) : ∃ places, DataW.whole enc Tryz.prog ((laidWorld os).forCall (fun _ _ => 0) ⟨#[], #[zeroTree, .slice none 0 0], []⟩).memory Tryz.f5.params.toList Rows.treeGoesSpec.vars false #[zeroTree, Value.slice none 0 0].toList 8 = some ([zeroTreeD, .nil], [], places) :=
  ⟨[], by kernel_rfl⟩

set_option maxRecDepth 100000 in
theorem lifted (os : Os) (started : os.Started) (H : Type) (enc : TypeId × Value → H) (F : Stop.Interp) :
    ReturnsInHanded {} Tryz.checked os 5 .any ((Rows.OpenSpec.upto Rows.treeGoesSpec).preRow enc Tryz.prog Tryz.f5 Rows.treeGoesUptoRow.domain false Rows.treeGoesUptoRow.laid) (((Rows.OpenSpec.upto Rows.treeGoesSpec).at F).post enc Tryz.prog Tryz.f5 false true false false) := by
  obtain ⟨places, hx⟩ := reads os enc
  refine returnsInHanded_of_row (C := Tryz.checked) (s := Rows.OpenSpec.upto Rows.treeGoesSpec) own0 started (by kernel_rfl) Tryz.func5
    (witness_row_at (enc := enc) (C := Tryz.checked) false (laidWorld os) #[zeroTree, .slice none 0 0] rfl (by kernel_rfl) (by kernel_rfl) (by kernel_rfl)
      (OpenSpec.preRow_of_cond 8 hx (by kernel_rfl) (fun k hk => by cases hk; kernel_rfl) (by kernel_rfl) (met os))) ?_
  intro W base args ds gs before hval0 hW _ hcond hsz0 hL hsh _
  have hval : ∀ (j : Nat) t v, Tryz.f5.params[j]? = some t → args[j]? = some v → Value.okWide Tryz.prog W .any base t v := hval0
  have hsm : Rows.uptoBulkAll (ds ++ gs) ≤ 1048576 := of_decide_eq_true (hcond _ rfl)
  clear hsz0 hcond
  have hW' := hW
  obtain ⟨p, q, hA0, hV, rfl, hfz, hnd⟩ := hW
  have hA : DataW.TrodAll enc Tryz.prog W 0 (fun _ => true) true Tryz.f5.params.toList args.toList ds p := hA0
  rw [Tryz.params5] at hA hval
  obtain ⟨v0, vs0, d0, ds0, p0, q0, hargs, rfl, rfl, h0, r0⟩ := trodAll_cons hA
  obtain ⟨v1, vs1, d1, ds1, p1, q1, rfl, rfl, rfl, h1, r1⟩ := trodAll_cons r0
  obtain ⟨rfl, rfl, rfl⟩ := trodAll_nil r1
  obtain rfl : args = #[v0, v1] := by cases args; simp_all
  obtain ⟨rfl, rfl⟩ := trodVars_none hV
  obtain ⟨cs0, rfl⟩ := okWide_tree (hval 0 24 v0 rfl rfl)
  obtain ⟨a1, n1, c1, rfl⟩ := okWide_slice Tryz.underlying49 (hval 1 49 v1 rfl rfl)
  have h0k := h0
  obtain ⟨fuel0, hf0⟩ := h0
  have h1k := h1
  obtain ⟨fuel1, hf1⟩ := h1
  clear hA0 hval0
  simp only [List.append_nil] at hW'
  have hlt0 : ∀ x ∈ p0, x.block < W.heap.size := fun x hx => by simpa using hW'.lt x (by simp [hx])
  have hlt1 : ∀ x ∈ p1, x.block < W.heap.size := fun x hx => by simpa using hW'.lt x (by simp [hx])
  have hb0 : Rows.uptoBulk d0 ≤ 1048576 := Nat.le_trans (bulk_part (by simp)) hsm
  have hb1 : Rows.uptoBulk d1 ≤ 1048576 := Nat.le_trans (bulk_part (by simp)) hsm
  obtain ⟨x0, l0, rfl, hr0, hw0'⟩ := argT_of (by simpa [Value.cells] using hf0) hlt0
  have hw0 : ∀ y ∈ l0, y.path.length ≤ 2000000 := fun y hy => Nat.le_trans (hw0' y hy).2 (Nat.le_trans hb0 (by decide))
  obtain ⟨l1, hr1, hw1'⟩ := argO_of (by simpa [Value.cells] using hf1) hlt1
  have hw1 : ∀ y ∈ l1, y.path.length ≤ 2000000 ∧ y.to.length ≤ 2000000 := fun y hy => ⟨Nat.le_trans (hw1' y hy).2.2.1 (Nat.le_trans hb1 (by decide)), Nat.le_trans (hw1' y hy).2.2.2 (Nat.le_trans hb1 (by decide))⟩
  refine (goes6_any l0 x0 _ l1 W hr0 hw0 hr1 hw1 (tabs hL hsh)).mono fun e W' ⟨he, hb⟩ => ?_
  subst he
  exact ⟨_, rfl, _, _, _, [], _, [], hW', (trodAll_cons_mk (shut_bool Tryz.underlying4 _) trodAll_mk0), (trodAll_cons_mk (Below.trod laidOut (by kernel_rfl) (of_decide_eq_true (by kernel_rfl)) h0k hb hlt0) (trodAll_cons_mk (Below.trod laidOut (by kernel_rfl) (of_decide_eq_true (by kernel_rfl)) h1k hb hlt1) trodAll_mk0)), rfl, hb.frame _, fun h => by cases h⟩

theorem said : Rows.TreeGoesUptoSaid :=
  OpenClaim.holds_of_cond 5 Tryz.f5 rfl rfl rfl rfl rfl rfl rfl ⟨rfl, rfl, rfl, rfl, rfl⟩ rfl rfl rfl rfl rfl (by kernel_rfl) Tryz.func5 (by kernel_rfl)
    (of_decide_eq_true (by kernel_rfl)) (by unfold Func.isWrapper; first | (rw [if_pos (by decide +kernel)]; kernel_rfl) | (rw [if_neg (by decide +kernel)]; exact ⟨rfl, rfl⟩))
    (fun os started H enc _ F => by rw [OpenClaim.pre_eq_preRow]; exact lifted os started H enc F)

/-- No parameter wants a stand-in; the program's own looks are off: what the card asks. -/
theorem plain (f : FuncId) (fn : Func) (hf : Tryz.pinned.checked.prog.funcNamed "puncheon/puncheonlaw06.TreeGoes" = some f) (hfn : Tryz.pinned.checked.prog.funcs[f]? = some fn) :
    false = Tryz.pinned.checked.prog.looks [] ∧ ∀ (j : Nat) t, fn.params[j]? = some t → Tryz.pinned.checked.prog.wantsStandIn t = false := by
  obtain rfl : f = 5 := Option.some.inj ((show Tryz.prog.funcNamed "puncheon/puncheonlaw06.TreeGoes" = some 5 by kernel_rfl).symm.trans hf) |>.symm
  obtain rfl : fn = Tryz.f5 := (Option.some.inj (Tryz.func5.symm.trans hfn)).symm
  refine ⟨by kernel_rfl, fun j t ht => ?_⟩
  rw [Tryz.params5] at ht
  have hm : t ∈ [24, 49] := by simpa using Array.mem_of_getElem? ht
  have hall : ([24, 49].all fun u => !Tryz.prog.wantsStandIn u) = true := by kernel_rfl
  exact (show Tryz.prog.wantsStandIn t = false by simpa using List.all_eq_true.1 hall t hm)
end Go.Proofs.YtjbbnecegomkcaaGreatDoor.TreeGoesP
namespace Go.Proofs.YtjbbnecegomkcaaGreatDoor
theorem treeGoes_upto_card : Rows.TreeGoesUptoCardSaid :=
  Claim7.holds_tied_plain_at .later [] _ _ _ _ TreeGoesP.said (fun _ h => by cases h) (by kernel_rfl) (fun _ h => by cases h) treeGoesUpto_row_tie rfl ⟨rfl, rfl⟩ (by kernel_rfl) rfl TreeGoesP.plain (by kernel_rfl)
#print axioms treeGoes_upto_card
end Go.Proofs.YtjbbnecegomkcaaGreatDoor
