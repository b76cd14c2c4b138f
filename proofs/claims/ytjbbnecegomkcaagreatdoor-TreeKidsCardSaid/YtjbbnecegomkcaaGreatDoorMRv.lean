/- Proved here: Same of puncheonref06. | What the last steps of the Tree laws share: what the rows' list gives (the root, and the shapes of operations), a world for the witnesses, and how trees and operations that came in are opened. -/
import Derived.Test.YtjbbnecegomkcaaGreatDoorCards
import Derived.Test.YtjbbnecegomkcaaGreatDoorTie
import Derived.Test.YtjbbnecegomkcaaGreatDoorMRb
import Derived.ProofKit
import Derived.OpenShut
import Derived.ShutString
import Derived.SizedLaws
import Derived.Lib.SmallJoins
import Derived.Lib.LaidTab
import Derived.Deep.DeepHandedRow
import Derived.LaidMore
import Derived.Lib.LaidU8
import Derived.Shelf.Vars
import Derived.Deep.Slices
import Derived.Deep.Strs
namespace Go.Proofs.YtjbbnecegomkcaaGreatDoor
open Go.RowKit Go.Shelf

set_option maxRecDepth 100000 in
set_option maxHeartbeats 4000000 in
theorem rsame6_any (l m : List It) (v1 v2 : Value) (w : World) (h1 : RdI w v1 l) (h2 : RdI w v2 m) : Calls Tryz.prog 16 #[.agg #[v1], .agg #[v2]] w (EqR (decide (l = m)) w) := by
  obtain ⟨w1, hw1⟩ : ∃ z, z = (w.alloc (.cells #[v1] 24)).alloc (.cells #[v2] 24) := ⟨_, rfl⟩
  have X : Hid (Box w1 w.heap.size 24 #[v1]) := Lib.hid (by rw [hw1]; exact box_new.alloc _)
  have Y : Hid (Box w1 (w.heap.size + 1) 24 #[v2]) := Lib.hid (by rw [hw1, show w.heap.size + 1 = (w.alloc (.cells #[v1] 24)).heap.size from by simp]; exact box_new)
  have HB : Hid (Below w.heap.size w w1) := Lib.hid (by rw [hw1]; exact bch (below_new _ _) (below_new _ _))
  have H1 := Lib.hid (h1.on HB.out)
  have H2 := Lib.hid (h2.on HB.out)
  obtain ⟨a1, cap1, rfl, hlc1, hcm1, _⟩ := h1.open
  obtain ⟨a2, cap2, rfl, hlc2, hcm2, _⟩ := h2.open
  unfold maxLen at hcm1 hcm2
  by_cases hlen : l.length = m.length
  · obtain ⟨n, hn⟩ : ∃ n, n = l.length := ⟨_, rfl⟩
    have HNM : Hid (n = m.length) := Lib.hid (hn.trans hlen)
    rw [← hlen, ← hn] at hlc2 Y H2 hw1
    rw [← hn] at hlc1 X H1
    rw [← hlen, ← hn]
    have HN := Lib.hid hn
    clear hn hlen h1 h2
    have c0 := X.out.cell (k := 0) rfl
    have d0 := Y.out.cell (k := 0) rfl
    have t0 : ((n : Int) != (n : Int)) = false := by simp
    go_enter Tryz.func16, Tryz.ntmps16
    go_upto_region 1 with fail
    rw [← hw1]
    clear hw1
    go_wp2_with fail
    clear c0 d0 t0
    go_loopw [17] (fun i W => ∃ k : Nat, k ≤ n ∧ i = .int .i64 k ∧ Hid (∀ j, j < k → l[j]? = m[j]?) ∧ Hid (Below w1.heap.size w1 W)) (fun i _ => n - (Lib.intOf i).toNat)
    case atStart => exact ⟨0, Nat.zero_le _, rfl, Lib.hid (fun j h => by omega), Lib.hid (Below.refl _ _)⟩
    case round =>
      obtain ⟨k, hk, rfl, HE, HBk⟩ := hrel
      obtain ⟨wq, hwq⟩ : ∃ q, q = wr := ⟨_, rfl⟩
      rw [← hwq] at HBk ⊢
      clear hwq
      by_cases hlt : k < n
      · obtain ⟨p, hp⟩ : ∃ p, l[k]? = some p := ⟨_, List.getElem?_eq_getElem (by have := HN.out; omega)⟩
        obtain ⟨q, hq⟩ : ∃ q, m[k]? = some q := ⟨_, List.getElem?_eq_getElem (by have := HNM.out; omega)⟩
        obtain ⟨a', c', e, _, _, hc1⟩ := (H1.out.on HBk.out).open
        rw [← HN.out] at e
        cases e
        obtain ⟨g1, o1, rfl, hg1, hc1⟩ := hc1 (by have := HN.out; omega)
        obtain ⟨a', c', e, _, _, hc2⟩ := (H2.out.on HBk.out).open
        rw [← HNM.out] at e
        cases e
        obtain ⟨g2, o2, rfl, hg2, hc2⟩ := hc2 (by have := HNM.out; omega)
        obtain ⟨q0, q1, q2⟩ := hc1 k p hp
        have k1 : (k : Int) < (n : Int) := by omega
        have k2 : (0 : Int) ≤ (k : Int) := by omega
        have k4 : IntKind.i64.wrap ((k : Int) + 1) = (k : Int) + 1 := IntWalk.i64_in _ (by omega)
        obtain ⟨w5, hw5⟩ : ∃ q, q = wq.alloc (.cells #[.string ⟨p.path.toArray⟩, .int .i64 p.kind, .string ⟨p.data.toArray⟩] 33) := ⟨_, rfl⟩
        have hb5 : Below wq.heap.size wq w5 := by rw [hw5]; exact below_new _ _
        have HX5 : Hid (Box w5 wq.heap.size 33 p.arr) := Lib.hid (by rw [hw5]; exact box_new)
        have HB5 : Hid (Below w1.heap.size w1 w5) := Lib.hid (bch HBk.out hb5)
        have HQ2 := Lib.hid ((hc2 k q hq).on hg2 hb5)
        have HP := Lib.hid hp
        have HQ := Lib.hid hq
        clear hc1 hc2 hp hq hg1 hg2 hb5
        go_upto_region 6 with fail
        obtain ⟨b7, hb7⟩ : ∃ q, q = wq.heap.size := ⟨_, rfl⟩
        rw [← hb7] at HX5 ⊢
        rw [← hw5]
        clear hw5 hb7 q0 q1 q2
        obtain ⟨d0, d1, d2⟩ := HX5.out.it
        obtain ⟨s0, s1, s2⟩ := HQ2.out
        have y0 := (Y.out.on HB5.out).cell (k := 0) rfl
        have hgd := guard35
        by_cases hpq : p = q
        · have hne := neq35 p q false (by simp [hpq])
          have HE' : Hid (∀ j, j < k + 1 → l[j]? = m[j]?) := Lib.hid (fun j hj => by
            by_cases e : j = k
            · subst e; rw [HP.out, HQ.out, hpq]
            · exact HE.out j (by omega))
          clear hpq
          go_region
          go_wp2
          go_roundw
          case rel => exact ⟨k + 1, hlt, by go_num, HE', Lib.hid HB5.out.drew⟩
          case measure => simp [Lib.intOf]; omega
        · have hne := neq35 p q true (by simp [hpq])
          have HD : Hid (decide (l = m) = false) := Lib.hid (decide_eq_false (list_ne HP.out HQ.out hpq))
          clear hpq
          go_region
          go_wp2
          go_ret
          exact ⟨by rw [HD.out]; rfl, (bch HB.out HB5.out).drew⟩
      · have k1 : ¬ ((k : Int) < (n : Int)) := by omega
        have HD : Hid (decide (l = m) = true) := Lib.hid (decide_eq_true (List.ext_getElem? fun j => by
          by_cases h : j < k
          · exact HE.out j h
          · rw [List.getElem?_eq_none (by have := HN.out; omega), List.getElem?_eq_none (by have := HNM.out; omega)]))
        go_wp2_with fail
        go_ret
        exact ⟨by rw [HD.out]; rfl, bch HB.out HBk.out⟩
  · have HD : decide (l = m) = false := decide_eq_false fun e => hlen (by rw [e])
    obtain ⟨n1, hn1⟩ : ∃ n, n = l.length := ⟨_, rfl⟩
    obtain ⟨n2, hn2⟩ : ∃ n, n = m.length := ⟨_, rfl⟩
    rw [← hn1, ← hn2] at hlen
    rw [← hn1] at X hw1
    rw [← hn2] at Y hw1
    rw [← hn1, ← hn2]
    rw [HD]
    have c0 := X.out.cell (k := 0) rfl
    have d0 := Y.out.cell (k := 0) rfl
    have t0 : ((n1 : Int) != (n2 : Int)) = true := by simp; omega
    have t1 : ¬ (n1 : Int) = (n2 : Int) := by omega
    have t2 : ((n1 : Int) == (n2 : Int)) = false := by simp; omega
    clear h1 h2 hlen HD hlc1 hlc2 hn1 hn2 H1 H2
    go_enter Tryz.func16, Tryz.ntmps16
    go_upto_region 1 with fail
    rw [← hw1]
    clear hw1
    go_wp2_with fail
    go_ret
    exact ⟨rfl, HB.out⟩

/-! ### Run -/
end Go.Proofs.YtjbbnecegomkcaaGreatDoor

namespace Go.Proofs.YtjbbnecegomkcaaGreatDoor
open Go.ChangeShapes Go.WideShapes Go.ChangeAt Go.RowKit Go.Joins
open Go.ChangeMaps (open_string shut_string)

theorem own0 : ownKnob Tryz.prog.godebug = none := by kernel_rfl
theorem laidOut : laidOutB Tryz.prog = true := by kernel_rfl
theorem cells35 : Tryz.prog.cellsOf 33 = 3 := by kernel_rfl
theorem cells22 : Tryz.prog.cellsOf 22 = 1 := by kernel_rfl
theorem cells24 : Tryz.prog.cellsOf 24 = 1 := by kernel_rfl
theorem cells3 : Tryz.prog.cellsOf 3 = 1 := by kernel_rfl
theorem cells9 : Tryz.prog.cellsOf 9 = 1 := by kernel_rfl
theorem cells4 : Tryz.prog.cellsOf 4 = 1 := by kernel_rfl
theorem cells26 : Tryz.prog.cellsOf 51 = 4 := by kernel_rfl
theorem cells41 : Tryz.prog.cellsOf 49 = 1 := by kernel_rfl
theorem cells106 : Tryz.prog.cellsOf 75 = 3 := by kernel_rfl
theorem gTRoot : Tryz.prog.globalNamed "puncheon/tree.root" = some 1 := by kernel_rfl
theorem gShapes : Tryz.prog.globalNamed "puncheon/tree.shapes" = some 0 := by kernel_rfl
theorem gTRootType : (Tryz.prog.globals[1]?).map (·.type) = some 33 := by kernel_rfl
theorem gShapesType : (Tryz.prog.globals[0]?).map (·.type) = some 76 := by kernel_rfl
theorem root_read {H : Type} {b : It} (h : (.agg [.lit (.string [47]), .lit (.int .i64 1), .lit (.string [])] : DataW H) = .agg [.lit (.string b.path), .lit (.int .i64 b.kind), .lit (.string b.data)]) : b = ⟨[47], 1, []⟩ := by
  obtain ⟨p, k, d⟩ := b
  simp at h
  obtain ⟨rfl, rfl, rfl⟩ := h
  rfl
theorem var_lt {P : Program} {W : World} {n : String} {g : Nat} {cs : Array Value} (hg : P.globalNamed n = some g) (h : W.var? P n = some cs) : g < W.heap.size := by
  unfold World.var? at h
  rw [hg, Option.bind_some] at h
  cases e : W.heap[g]? with
  | none => rw [e] at h; cases h
  | some o => exact (Array.getElem?_eq_some_iff.1 e).1
theorem list3 {α : Type} {l : List α} (h : l.length = 3) : ∃ a b c, l = [a, b, c] := by
  match l, h with
  | [a, b, c], _ => exact ⟨a, b, c, rfl⟩
theorem ba_toArray (s : ByteArray) : (⟨s.data.toList.toArray⟩ : ByteArray) = s := by cases s; rfl
set_option maxRecDepth 100000 in
/-- An item's cells, and its datum. -/
theorem it_of {H : Type} {enc : TypeId × Value → H} {W : World} {base fuel : Nat} {hd : Bool} {cs : List Value} {d : DataW H} {p : List MemPlace} (h : DataW.trod enc Tryz.prog W base (fun _ => true) hd fuel 33 cs = some (d, p)) :
    ∃ b : It, cs = b.cells ∧ d = .agg [.lit (.string b.path), .lit (.int .i64 b.kind), .lit (.string b.data)] := by
  obtain ⟨y0, y1, y2, n, hx, hl, t0, t1, t2⟩ := Go.Deep.trod_struct3 Tryz.underlying33 h
  rw [cells35] at hl
  rw [cells9] at t0 t2
  rw [cells3] at t1
  obtain ⟨s, e0, hy0, _⟩ := DataW.trod_string Tryz.underlying9 t0
  obtain ⟨m, e1, hy1, _⟩ := DataW.trod_int Tryz.underlying3 t1
  obtain ⟨z, e2, hy2, _⟩ := DataW.trod_string Tryz.underlying9 t2
  obtain ⟨q0, q1, q2, rfl⟩ := list3 hl
  simp at e0 e1 e2
  simp only [Prod.mk.injEq] at hx
  refine ⟨⟨s.data.toList, m, z.data.toList⟩, ?_, ?_⟩
  · rw [e0, e1, e2]
    show _ = [Value.string ⟨s.data.toList.toArray⟩, _, Value.string ⟨z.data.toList.toArray⟩]
    rw [ba_toArray, ba_toArray]
  · rw [hx.1, hy0, hy1, hy2]
theorem list4 {α : Type} {l : List α} (h : l.length = 4) : ∃ a b c d, l = [a, b, c, d] := by
  match l, h with
  | [a, b, c, d], _ => exact ⟨a, b, c, d, rfl⟩
set_option maxRecDepth 100000 in
/-- One shape's cells. -/
theorem sh_of {H : Type} {enc : TypeId × Value → H} {W : World} {base fuel : Nat} {hd : Bool} {cs : List Value} {b : Bool} {x y : Int} {p : List MemPlace} (h : DataW.trod enc Tryz.prog W base (fun _ => true) hd fuel 75 cs = some (.agg [.lit (.bool b), .lit (.int .i64 x), .lit (.int .i64 y)], p)) :
    cs = [.bool b, .int .i64 x, .int .i64 y] := by
  obtain ⟨y0, y1, y2, n, hx, hl, t0, t1, t2⟩ := Go.Deep.trod_struct3 Tryz.underlying75 h
  rw [cells106] at hl
  rw [cells4] at t0
  rw [cells3] at t1 t2
  obtain ⟨s, e0, hy0⟩ := DataW.trod_bool Tryz.underlying4 t0
  obtain ⟨m, e1, hy1, _⟩ := DataW.trod_int Tryz.underlying3 t1
  obtain ⟨z, e2, hy2, _⟩ := DataW.trod_int Tryz.underlying3 t2
  obtain ⟨q0, q1, q2, rfl⟩ := list3 hl
  simp at e0 e1 e2
  simp only [Prod.mk.injEq] at hx
  obtain ⟨hd0, _⟩ := hx
  rw [hy0, hy1, hy2] at hd0
  simp at hd0
  obtain ⟨rfl, rfl, rfl⟩ := hd0
  rw [e0, e1, e2]
theorem mid_at {α : Type} (l : List α) (i r : Nat) (hr : r < 3) : ((l.drop (i * 3)).take 3)[r]? = l[i * 3 + r]? := by
  rw [List.getElem?_take, if_pos hr, List.getElem?_drop]
set_option maxRecDepth 100000 in
theorem shapes_of {H : Type} {enc : TypeId × Value → H} {W : World} {base fuel : Nat} {hd : Bool} {cs : List Value} {p : List MemPlace} (h : DataW.trod enc Tryz.prog W base (fun _ => true) hd fuel 76 cs = some (Rows.laid_puncheon_tree_shapes, p)) (j : Nat) (v : Value) (hj : shapesL[j]? = some v) : cs[j]? = some v := by
  have hj24 : j < 24 := (List.getElem?_eq_some_iff.1 hj).1
  obtain ⟨i, r, hr, rfl⟩ : ∃ i r, r < 3 ∧ j = i * 3 + r := ⟨j / 3, j % 3, by omega, by omega⟩
  have hi : i < 8 := by omega
  obtain ⟨f', d, q, hd', ht⟩ := Lib.array_elem Tryz.underlying76 h i hi
  rw [cells106] at ht
  have key : (cs.drop (i * 3)).take 3 = (shapesL.drop (i * 3)).take 3 := by
    have h8 : i = 0 ∨ i = 1 ∨ i = 2 ∨ i = 3 ∨ i = 4 ∨ i = 5 ∨ i = 6 ∨ i = 7 := by omega
    clear hj hj24 hi h
    rcases h8 with rfl | rfl | rfl | rfl | rfl | rfl | rfl | rfl
    all_goals
      obtain rfl := Option.some.inj hd'
      exact (sh_of ht).trans rfl
  rw [← mid_at _ _ _ hr, key, mid_at _ _ _ hr]
  exact hj
/-- WHAT THE ROWS' LIST GIVES, and the shape of the first world. -/
theorem tabs {W : World} (h : laidMetH Tryz.prog Rows.treeRunsUptoRow.laid W) (hsh : W.ShapedOpen Tryz.prog) : TabS W := by
  obtain ⟨ps, ⟨g1, t1, cs1, f1, p1, q1, hg1, ht1, hv1, hd1, ⟨g2, t2, cs2, f2, p2, q2, hg2, ht2, hv2, hd2, _⟩, _⟩, _⟩ := h
  obtain rfl := Option.some.inj (gTRoot.symm.trans hg1)
  obtain rfl := Option.some.inj (gTRootType.symm.trans ht1)
  obtain rfl := Option.some.inj (gShapes.symm.trans hg2)
  obtain rfl := Option.some.inj (gShapesType.symm.trans ht2)
  have e1 : ∀ i, W.cell? ⟨1, i, none⟩ = cs1[i]? := fun i => World.var?_cell gTRoot hv1 i
  have e2 : ∀ i, W.cell? ⟨0, i, none⟩ = cs2[i]? := fun i => World.var?_cell gShapes hv2 i
  obtain ⟨b1, hc1, hb1⟩ := it_of hd1
  have r1 : b1 = ⟨[47], 1, []⟩ := root_read hb1
  subst r1
  have f1 : ∀ i, cs1[i]? = (It.cells ⟨[47], 1, []⟩)[i]? := fun i => by rw [← Array.getElem?_toList, hc1]
  have l5 : 2 < W.heap.size := by
    have hs : (((begin Tryz.prog (fun _ _ => 0) default).world.heap[2]?).bind Obj.row?).isSome = true := by kernel_rfl
    obtain ⟨⟨zero, t⟩, hz⟩ := Option.isSome_iff_exists.1 hs
    obtain ⟨cs, hc, _⟩ := hsh.1 2 zero t (of_decide_eq_true (by kernel_rfl)) hz
    exact (Array.getElem?_eq_some_iff.1 hc).1
  exact ⟨⟨by rw [e1, f1]; rfl, by rw [e1, f1]; rfl, by rw [e1, f1]; rfl, Go.Proofs.cell_of_shapedOpen_int (zero := #[.int .i64 0]) (t := 3) hsh (of_decide_eq_true (by kernel_rfl)) (by kernel_rfl) rfl (by kernel_rfl) (by kernel_rfl) Tryz.underlying3, by omega⟩, fun j v hj => by
    rw [e2, ← Array.getElem?_toList]
    exact shapes_of hd2 j v hj⟩

theorem reach_len {n : Nat} (h : n ≤ reachBytes) : n ≤ 140737488355328 := by
  have h2 := reachBytes_lt
  have e3 : (2 : Nat) ^ 47 = 140737488355328 := by decide
  omega
theorem reach_size (s : ByteArray) (h : s.data.toList.length ≤ reachBytes) : s.size ≤ 140737488355328 := reach_len h
theorem weights_all {H : Type} {P : Program} {e : TypeId} {d : DataW H} : ∀ {l : List (DataW H)}, d ∈ l → ∀ n ∈ d.weights P e, n ∈ DataW.weightsAll P e l
  | d0 :: l, h, n, hn => by
    simp only [DataW.weightsAll, List.mem_append]
    rcases List.mem_cons.1 h with rfl | h
    · exact .inl hn
    · exact .inr (weights_all h n hn)
  | [], h, _, _ => by cases h
theorem bulk_part {H : Type} {d : DataW H} {l : List (DataW H)} (h : d ∈ l) : Rows.uptoBulk d ≤ Rows.uptoBulkAll l := by
  induction l with
  | nil => cases h
  | cons x r ih =>
    simp only [Rows.uptoBulkAll]
    rcases List.mem_cons.1 h with rfl | h
    · omega
    · have := ih h; omega
set_option maxRecDepth 100000 in
/-- An argument that is a slice of items. -/
theorem argI_of {H : Type} {enc : TypeId × Value → H} {W : World} {base fuel : Nat} {hd : Bool} {v : Value} {d : DataW H} {p : List MemPlace}
    (hf : DataW.trod enc Tryz.prog W base (fun _ => true) hd fuel 22 [v] = some (d, p)) (hlt : ∀ x ∈ p, x.block < W.heap.size) : ∃ l, RdI W v l ∧ ∀ x ∈ l, x.path.length ∈ d.weights Tryz.prog 22 ∧ x.path.length ≤ Rows.uptoBulk d := by
  rcases Go.Deep.open_slice Tryz.underlying22 hf with ⟨hcs, _⟩ | ⟨a, len, cap, m, n, D, Pl, hcs, _, hl, hm, hmm, hx, hi⟩
  · simp at hcs
    subst hcs
    exact ⟨[], RdF.nil W, fun x hx => by cases hx⟩
  · simp at hcs
    subst hcs
    simp only [if_true] at hmm
    subst hmm
    simp only [Prod.mk.injEq] at hx
    obtain ⟨hd0, rfl⟩ := hx
    have key : ∀ i : Nat, ∃ b : It, i < m → (∀ (j : Nat), j < 3 → W.cell? ((a.add (i * 3)).add j) = b.cells[j]?) ∧ D i = .agg [.lit (.string b.path), .lit (.int .i64 b.kind), .lit (.string b.data)] := by
      intro i
      by_cases him : i < m
      · obtain ⟨cs', hc, ht⟩ := hi i him
        rw [cells35] at hc
        obtain ⟨_, hcl, hat⟩ := World.cells?_some hc
        obtain ⟨b, rfl, hD⟩ := it_of ht
        exact ⟨b, fun _ => ⟨fun j hj => hat j (by omega), hD⟩⟩
      · exact ⟨It.nil, fun h => absurd h him⟩
    obtain ⟨F, hF⟩ := Classical.axiomOfChoice key
    refine ⟨(List.range len).map F, ⟨some a, m, by simp, by simpa using hl, hm, fun h0 => ?_⟩, fun x hx => ?_⟩
    · have h0' : 0 < len := by simpa using h0
      obtain ⟨g, o, spot⟩ := a
      have hspot : spot = none := by
        have e := (hF 0 (by omega)).1 0 (by omega)
        have := World.cell?_spot (v := .string ⟨(F 0).path.toArray⟩) (e.trans rfl)
        simpa [Addr.add] using this
      subst hspot
      refine ⟨g, o, rfl, hlt (.cell g o) (List.mem_append_left _ (MemPlace.mem_row.2 ⟨0, by rw [cells35]; omega, by simp⟩)), fun j u hu => ?_⟩
      obtain ⟨q, r, hr, rfl⟩ : ∃ q r, r < 3 ∧ j = q * 3 + r := ⟨j / 3, j % 3, by omega, by omega⟩
      rw [flat3 _ q r hr, List.getElem?_map] at hu
      obtain ⟨b, hb, hbu⟩ := Option.bind_eq_some_iff.1 hu
      obtain ⟨i, hi1, rfl⟩ := Option.map_eq_some_iff.1 hb
      have hql : q < len := by simpa using (List.getElem?_eq_some_iff.1 hi1).1
      have e : i = q := by
        have := (List.getElem?_eq_some_iff.1 hi1).2
        simpa using this.symm
      subst e
      have hk := (hF i (by omega)).1 r hr
      rw [addr_add, addr_add, Nat.add_assoc] at hk
      rw [hk]
      exact hbu
    · obtain ⟨i, hi1, rfl⟩ := List.mem_map.1 hx
      have hil : i < len := List.mem_range.1 hi1
      have hD := (hF i (by omega)).2
      refine ⟨?_, ?_⟩
      rotate_left
      · have h1 := bulk_part (d := D i) (List.mem_map.2 ⟨i, hi1, rfl⟩ : D i ∈ (List.range len).map D)
        rw [hD] at h1
        rw [hd0]
        simp only [Rows.uptoBulk, Rows.uptoBulkAll] at h1 ⊢
        omega
      rw [hd0]
      simp only [DataW.weights, Tryz.underlying22, List.mem_cons, List.mem_append]
      refine .inr (.inl (weights_all (d := D i) (List.mem_map.2 ⟨i, hi1, rfl⟩) _ ?_))
      rw [hD]
      simp [DataW.weights, Tryz.underlying33, DataW.weightsEach]
set_option maxRecDepth 100000 in
/-- An argument that is a tree. -/
theorem argT_of {H : Type} {enc : TypeId × Value → H} {W : World} {base fuel : Nat} {hd : Bool} {cs : Array Value} {d : DataW H} {p : List MemPlace}
    (hf : DataW.trod enc Tryz.prog W base (fun _ => true) hd fuel 24 cs.toList = some (d, p)) (hlt : ∀ x ∈ p, x.block < W.heap.size) : ∃ x l, cs = #[x] ∧ RdI W x l ∧ ∀ y ∈ l, y.path.length ∈ d.weights Tryz.prog 24 ∧ y.path.length ≤ Rows.uptoBulk d := by
  obtain ⟨y0, n, hx, hl, t0⟩ := trod_struct1 Tryz.underlying24 hf
  rw [cells24] at hl
  rw [cells22] at t0
  obtain ⟨x, hcx⟩ : ∃ x, cs.toList = [x] := by
    match h : cs.toList, hl with
    | [x], _ => exact ⟨x, rfl⟩
  rw [hcx] at t0
  simp at t0
  simp only [Prod.mk.injEq] at hx
  obtain ⟨hd0, rfl⟩ := hx
  obtain ⟨l, h, hw⟩ := argI_of (d := y0.1) (p := y0.2) t0 hlt
  refine ⟨x, l, Array.ext' hcx, h, fun y hy => ?_⟩
  rw [hd0]
  refine ⟨?_, ?_⟩
  · simp only [DataW.weights, Tryz.underlying24]
    simp only [List.map, DataW.weightsEach, List.append_nil]
    exact (hw y hy).1
  · have := (hw y hy).2
    simp only [Rows.uptoBulk, Rows.uptoBulkAll]
    omega
set_option maxRecDepth 100000 in
theorem okWide_tree {r : Reach} {W : World} {b0 : Nat} {v : Value} (h : Value.okWide Tryz.prog W r b0 24 v) : ∃ cs : Array Value, v = .agg cs := by
  simp only [Value.okWide, Tryz.underlying24] at h
  obtain ⟨cs, h1, _⟩ := h
  exact ⟨cs, h1⟩

set_option maxRecDepth 100000 in
/-- An operation's cells, and its datum. -/
theorem op_of {H : Type} {enc : TypeId × Value → H} {W : World} {base fuel : Nat} {hd : Bool} {cs : List Value} {d : DataW H} {p : List MemPlace} (h : DataW.trod enc Tryz.prog W base (fun _ => true) hd fuel 51 cs = some (d, p)) :
    ∃ b : Opn, cs = b.cells ∧ d = .agg [.lit (.int .i64 b.kind), .lit (.string b.path), .lit (.string b.to), .lit (.string b.data)] := by
  obtain ⟨y0, y1, y2, y3, n, hx, hl, t0, t1, t2, t3⟩ := trod_struct4 Tryz.underlying51 h
  rw [cells26] at hl
  rw [cells3] at t0
  rw [cells9] at t1 t2 t3
  obtain ⟨m, e0, hy0, _⟩ := DataW.trod_int Tryz.underlying3 t0
  obtain ⟨s, e1, hy1, _⟩ := DataW.trod_string Tryz.underlying9 t1
  obtain ⟨z, e2, hy2, _⟩ := DataW.trod_string Tryz.underlying9 t2
  obtain ⟨u, e3, hy3, _⟩ := DataW.trod_string Tryz.underlying9 t3
  obtain ⟨q0, q1, q2, q3, rfl⟩ := list4 hl
  simp at e0 e1 e2 e3
  simp only [Prod.mk.injEq] at hx
  refine ⟨⟨m, s.data.toList, z.data.toList, u.data.toList⟩, ?_, ?_⟩
  · rw [e0, e1, e2, e3]
    show _ = [_, Value.string ⟨s.data.toList.toArray⟩, Value.string ⟨z.data.toList.toArray⟩, Value.string ⟨u.data.toList.toArray⟩]
    rw [ba_toArray, ba_toArray, ba_toArray]
  · rw [hx.1, hy0, hy1, hy2, hy3]
set_option maxRecDepth 100000 in
/-- An argument that is a slice of operations. -/
theorem argO_of {H : Type} {enc : TypeId × Value → H} {W : World} {base fuel : Nat} {hd : Bool} {v : Value} {d : DataW H} {p : List MemPlace}
    (hf : DataW.trod enc Tryz.prog W base (fun _ => true) hd fuel 49 [v] = some (d, p)) (hlt : ∀ x ∈ p, x.block < W.heap.size) : ∃ l, RdO W v l ∧ ∀ x ∈ l, x.path.length ∈ d.weights Tryz.prog 49 ∧ x.to.length ∈ d.weights Tryz.prog 49 ∧ x.path.length ≤ Rows.uptoBulk d ∧ x.to.length ≤ Rows.uptoBulk d := by
  rcases Go.Deep.open_slice Tryz.underlying49 hf with ⟨hcs, _⟩ | ⟨a, len, cap, m, n, D, Pl, hcs, _, hl, hm, hmm, hx, hi⟩
  · simp at hcs
    subst hcs
    exact ⟨[], RdF.nil W, fun x hx => by cases hx⟩
  · simp at hcs
    subst hcs
    simp only [if_true] at hmm
    subst hmm
    simp only [Prod.mk.injEq] at hx
    obtain ⟨hd0, rfl⟩ := hx
    have key : ∀ i : Nat, ∃ b : Opn, i < m → (∀ (j : Nat), j < 4 → W.cell? ((a.add (i * 4)).add j) = b.cells[j]?) ∧ D i = .agg [.lit (.int .i64 b.kind), .lit (.string b.path), .lit (.string b.to), .lit (.string b.data)] := by
      intro i
      by_cases him : i < m
      · obtain ⟨cs', hc, ht⟩ := hi i him
        rw [cells26] at hc
        obtain ⟨_, hcl, hat⟩ := World.cells?_some hc
        obtain ⟨b, rfl, hD⟩ := op_of ht
        exact ⟨b, fun _ => ⟨fun j hj => hat j (by omega), hD⟩⟩
      · exact ⟨⟨0, [], [], []⟩, fun h => absurd h him⟩
    obtain ⟨F, hF⟩ := Classical.axiomOfChoice key
    refine ⟨(List.range len).map F, ⟨some a, m, by simp, by simpa using hl, hm, fun h0 => ?_⟩, fun x hx => ?_⟩
    · have h0' : 0 < len := by simpa using h0
      obtain ⟨g, o, spot⟩ := a
      have hspot : spot = none := by
        have e := (hF 0 (by omega)).1 0 (by omega)
        have := World.cell?_spot (v := .int .i64 (F 0).kind) (e.trans rfl)
        simpa [Addr.add] using this
      subst hspot
      refine ⟨g, o, rfl, hlt (.cell g o) (List.mem_append_left _ (MemPlace.mem_row.2 ⟨0, by rw [cells26]; omega, by simp⟩)), fun j u hu => ?_⟩
      obtain ⟨q, r, hr, rfl⟩ : ∃ q r, r < 4 ∧ j = q * 4 + r := ⟨j / 4, j % 4, by omega, by omega⟩
      rw [flat4 _ q r hr, List.getElem?_map] at hu
      obtain ⟨b, hb, hbu⟩ := Option.bind_eq_some_iff.1 hu
      obtain ⟨i, hi1, rfl⟩ := Option.map_eq_some_iff.1 hb
      have hql : q < len := by simpa using (List.getElem?_eq_some_iff.1 hi1).1
      have e : i = q := by
        have := (List.getElem?_eq_some_iff.1 hi1).2
        simpa using this.symm
      subst e
      have hk := (hF i (by omega)).1 r hr
      rw [addr_add, addr_add, Nat.add_assoc] at hk
      rw [hk]
      exact hbu
    · obtain ⟨i, hi1, rfl⟩ := List.mem_map.1 hx
      have hil : i < len := List.mem_range.1 hi1
      have hD := (hF i (by omega)).2
      have hbk : (F i).path.length ≤ Rows.uptoBulk d ∧ (F i).to.length ≤ Rows.uptoBulk d := by
        have h1 := bulk_part (d := D i) (List.mem_map.2 ⟨i, hi1, rfl⟩ : D i ∈ (List.range len).map D)
        rw [hD] at h1
        rw [hd0]
        simp only [Rows.uptoBulk, Rows.uptoBulkAll] at h1 ⊢
        constructor <;> omega
      rw [hd0] at hbk ⊢
      simp only [DataW.weights, Tryz.underlying49, List.mem_cons, List.mem_append]
      refine ⟨.inr (.inl (weights_all (d := D i) (List.mem_map.2 ⟨i, hi1, rfl⟩) _ ?_)), .inr (.inl (weights_all (d := D i) (List.mem_map.2 ⟨i, hi1, rfl⟩) _ ?_)), hbk.1, hbk.2⟩
      · rw [hD]
        simp [DataW.weights, Tryz.underlying51, DataW.weightsEach]
      · rw [hD]
        simp [DataW.weights, Tryz.underlying51, DataW.weightsEach]

/-- The cells of a plain table's datum. -/
def litV : DataW Unit → Value
  | .lit (.int k z) => .int k z
  | .lit (.bool b) => .bool b
  | .lit (.string s) => .string ⟨s.toArray⟩
  | _ => .nilFunc
def rowV : DataW Unit → List Value
  | .agg l => l.map litV
  | d => [litV d]
def tabV : DataW Unit → List Value
  | .agg l => l.flatMap rowV
  | _ => []
/-- A WORLD FOR THE WITNESSES: the settled one, the tables laid into their variables. -/
noncomputable def laidWorld (os : Os) : World :=
  let w0 := World.holding Tryz.prog os ⟨#[], #[], []⟩
  let put (h : Array Obj) (g : Nat) (cs : List Value) : Array Obj := h.modify g fun
    | .cells _ t frozen => .cells cs.toArray t frozen
    | o => o
  { w0 with heap := put (put w0.heap 1 (tabV Rows.laid_puncheon_tree_root)) 0 (tabV Rows.laid_puncheon_tree_shapes) }
theorem laid_met (os : Os) (args : Array Value) : laidMet Tryz.prog Rows.treeRunsUptoRow.laid ((laidWorld os).forCall (fun _ _ => 0) ⟨#[], args, []⟩).memory :=
  laidMet_of_run' 8 (by kernel_rfl) (by kernel_rfl)
noncomputable abbrev zeroTree : Value := .agg #[.slice none 0 0]
abbrev zeroTreeD {H : Type} : DataW H := .agg [.nil]
end Go.Proofs.YtjbbnecegomkcaaGreatDoor
