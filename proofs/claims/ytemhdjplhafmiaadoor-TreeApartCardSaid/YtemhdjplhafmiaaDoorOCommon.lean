/- What the last steps of the Tree laws share: what the rows' list gives (the root, and the shapes of operations), a world for the witnesses, and how trees and operations that came in are opened. -/
import Derived.Test.YtemhdjplhafmiaaDoorCards
import Derived.Test.YtemhdjplhafmiaaDoorTie
import Derived.Test.YtemhdjplhafmiaaDoorOWakes
import Derived.ProofKit
import Derived.OpenShut
import Derived.ShutString
import Derived.SizedLaws
import Derived.Lib.SmallJoins
import Derived.Lib.LaidTab
import Derived.Deep.DeepHandedRow
import Derived.LaidMore
import Derived.Lib.LaidU8
import Derived.Deep.Slices
import Derived.Deep.Strs
namespace Go.Proofs.YtemhdjplhafmiaaDoor
open Go.ChangeShapes Go.WideShapes Go.ChangeAt Go.RowKit Go.Joins
open Go.ChangeMaps (open_string shut_string)

theorem own0 : ownKnob Tryd.prog.godebug = none := by kernel_rfl
theorem laidOut : laidOutB Tryd.prog = true := by kernel_rfl
theorem cells35 : Tryd.prog.cellsOf 35 = 3 := by kernel_rfl
theorem cells22 : Tryd.prog.cellsOf 22 = 1 := by kernel_rfl
theorem cells24 : Tryd.prog.cellsOf 24 = 1 := by kernel_rfl
theorem cells3 : Tryd.prog.cellsOf 3 = 1 := by kernel_rfl
theorem cells9 : Tryd.prog.cellsOf 9 = 1 := by kernel_rfl
theorem cells4 : Tryd.prog.cellsOf 4 = 1 := by kernel_rfl
theorem cells26 : Tryd.prog.cellsOf 26 = 4 := by kernel_rfl
theorem cells41 : Tryd.prog.cellsOf 41 = 1 := by kernel_rfl
theorem cells106 : Tryd.prog.cellsOf 106 = 3 := by kernel_rfl
theorem gTRoot : Tryd.prog.globalNamed "puncheon/tree.root" = some 0 := by kernel_rfl
theorem gShapes : Tryd.prog.globalNamed "puncheon/tree.shapes" = some 1 := by kernel_rfl
theorem gTRootType : (Tryd.prog.globals[0]?).map (·.type) = some 35 := by kernel_rfl
theorem gShapesType : (Tryd.prog.globals[1]?).map (·.type) = some 107 := by kernel_rfl
theorem root_read {H : Type} {b : It} (h : (.agg [.lit (.string [47]), .lit (.int .i64 1), .lit (.string [])] : DataW H) = .agg [.lit (.string b.path), .lit (.int .i64 b.kind), .lit (.string b.data)]) : b = ⟨[47], 1, []⟩ := by
  obtain ⟨p, k, d⟩ := b
  simp at h
  obtain ⟨rfl, rfl, rfl⟩ := h
  rfl
theorem var_lt {P : Program} {W : World} {n : String} {g : Nat} {cs : Array Value} (hg : P.globalNamed n = some g) (h : W.var? P n = some cs) : g < W.heap.size := by
  unfold World.var? at h
  rw [hg, Option.bind_some] at h
  cases e : W.heap[g]? with
  | none => rw [e] at h; cases h
  | some o => exact (Array.getElem?_eq_some_iff.1 e).1
theorem list3 {α : Type} {l : List α} (h : l.length = 3) : ∃ a b c, l = [a, b, c] := by
  match l, h with
  | [a, b, c], _ => exact ⟨a, b, c, rfl⟩
theorem ba_toArray (s : ByteArray) : (⟨s.data.toList.toArray⟩ : ByteArray) = s := by cases s; rfl
set_option maxRecDepth 100000 in
/-- An item's cells, and its datum. -/
theorem it_of {H : Type} {enc : TypeId × Value → H} {W : World} {base fuel : Nat} {hd : Bool} {cs : List Value} {d : DataW H} {p : List MemPlace} (h : DataW.trod enc Tryd.prog W base (fun _ => true) hd fuel 35 cs = some (d, p)) :
    ∃ b : It, cs = b.cells ∧ d = .agg [.lit (.string b.path), .lit (.int .i64 b.kind), .lit (.string b.data)] := by
  obtain ⟨y0, y1, y2, n, hx, hl, t0, t1, t2⟩ := Go.Deep.trod_struct3 Tryd.underlying35 h
  rw [cells35] at hl
  rw [cells9] at t0 t2
  rw [cells3] at t1
  obtain ⟨s, e0, hy0, _⟩ := DataW.trod_string Tryd.underlying9 t0
  obtain ⟨m, e1, hy1, _⟩ := DataW.trod_int Tryd.underlying3 t1
  obtain ⟨z, e2, hy2, _⟩ := DataW.trod_string Tryd.underlying9 t2
  obtain ⟨q0, q1, q2, rfl⟩ := list3 hl
  simp at e0 e1 e2
  simp only [Prod.mk.injEq] at hx
  refine ⟨⟨s.data.toList, m, z.data.toList⟩, ?_, ?_⟩
  · rw [e0, e1, e2]
    show _ = [Value.string ⟨s.data.toList.toArray⟩, _, Value.string ⟨z.data.toList.toArray⟩]
    rw [ba_toArray, ba_toArray]
  · rw [hx.1, hy0, hy1, hy2]
theorem list4 {α : Type} {l : List α} (h : l.length = 4) : ∃ a b c d, l = [a, b, c, d] := by
  match l, h with
  | [a, b, c, d], _ => exact ⟨a, b, c, d, rfl⟩
set_option maxRecDepth 100000 in
/-- One shape's cells. -/
theorem sh_of {H : Type} {enc : TypeId × Value → H} {W : World} {base fuel : Nat} {hd : Bool} {cs : List Value} {b : Bool} {x y : Int} {p : List MemPlace} (h : DataW.trod enc Tryd.prog W base (fun _ => true) hd fuel 106 cs = some (.agg [.lit (.bool b), .lit (.int .i64 x), .lit (.int .i64 y)], p)) :
    cs = [.bool b, .int .i64 x, .int .i64 y] := by
  obtain ⟨y0, y1, y2, n, hx, hl, t0, t1, t2⟩ := Go.Deep.trod_struct3 Tryd.underlying106 h
  rw [cells106] at hl
  rw [cells4] at t0
  rw [cells3] at t1 t2
  obtain ⟨s, e0, hy0⟩ := DataW.trod_bool Tryd.underlying4 t0
  obtain ⟨m, e1, hy1, _⟩ := DataW.trod_int Tryd.underlying3 t1
  obtain ⟨z, e2, hy2, _⟩ := DataW.trod_int Tryd.underlying3 t2
  obtain ⟨q0, q1, q2, rfl⟩ := list3 hl
  simp at e0 e1 e2
  simp only [Prod.mk.injEq] at hx
  obtain ⟨hd0, _⟩ := hx
  rw [hy0, hy1, hy2] at hd0
  simp at hd0
  obtain ⟨rfl, rfl, rfl⟩ := hd0
  rw [e0, e1, e2]
theorem mid_at {α : Type} (l : List α) (i r : Nat) (hr : r < 3) : ((l.drop (i * 3)).take 3)[r]? = l[i * 3 + r]? := by
  rw [List.getElem?_take, if_pos hr, List.getElem?_drop]
set_option maxRecDepth 100000 in
theorem shapes_of {H : Type} {enc : TypeId × Value → H} {W : World} {base fuel : Nat} {hd : Bool} {cs : List Value} {p : List MemPlace} (h : DataW.trod enc Tryd.prog W base (fun _ => true) hd fuel 107 cs = some (Rows.laid_puncheon_tree_shapes, p)) (j : Nat) (v : Value) (hj : shapesL[j]? = some v) : cs[j]? = some v := by
  have hj24 : j < 24 := (List.getElem?_eq_some_iff.1 hj).1
  obtain ⟨i, r, hr, rfl⟩ : ∃ i r, r < 3 ∧ j = i * 3 + r := ⟨j / 3, j % 3, by omega, by omega⟩
  have hi : i < 8 := by omega
  obtain ⟨f', d, q, hd', ht⟩ := Lib.array_elem Tryd.underlying107 h i hi
  rw [cells106] at ht
  have key : (cs.drop (i * 3)).take 3 = (shapesL.drop (i * 3)).take 3 := by
    have h8 : i = 0 ∨ i = 1 ∨ i = 2 ∨ i = 3 ∨ i = 4 ∨ i = 5 ∨ i = 6 ∨ i = 7 := by omega
    clear hj hj24 hi h
    rcases h8 with rfl | rfl | rfl | rfl | rfl | rfl | rfl | rfl
    all_goals
      obtain rfl := Option.some.inj hd'
      exact (sh_of ht).trans rfl
  rw [← mid_at _ _ _ hr, key, mid_at _ _ _ hr]
  exact hj
/-- WHAT THE ROWS' LIST GIVES, and the shape of the first world. -/
theorem tabs {W : World} (h : laidMetH Tryd.prog Rows.treeOnceRow.laid W) (hsh : W.ShapedOpen Tryd.prog) : TabS W := by
  obtain ⟨ps, ⟨g1, t1, cs1, f1, p1, q1, hg1, ht1, hv1, hd1, ⟨g2, t2, cs2, f2, p2, q2, hg2, ht2, hv2, hd2, _⟩, _⟩, _⟩ := h
  obtain rfl := Option.some.inj (gTRoot.symm.trans hg1)
  obtain rfl := Option.some.inj (gTRootType.symm.trans ht1)
  obtain rfl := Option.some.inj (gShapes.symm.trans hg2)
  obtain rfl := Option.some.inj (gShapesType.symm.trans ht2)
  have e1 : ∀ i, W.cell? ⟨0, i, none⟩ = cs1[i]? := fun i => World.var?_cell gTRoot hv1 i
  have e2 : ∀ i, W.cell? ⟨1, i, none⟩ = cs2[i]? := fun i => World.var?_cell gShapes hv2 i
  obtain ⟨b1, hc1, hb1⟩ := it_of hd1
  have r1 : b1 = ⟨[47], 1, []⟩ := root_read hb1
  subst r1
  have f1 : ∀ i, cs1[i]? = (It.cells ⟨[47], 1, []⟩)[i]? := fun i => by rw [← Array.getElem?_toList, hc1]
  have l5 : 5 < W.heap.size := by
    have hs : (((begin Tryd.prog (fun _ _ => 0) default).world.heap[5]?).bind Obj.row?).isSome = true := by kernel_rfl
    obtain ⟨⟨zero, t⟩, hz⟩ := Option.isSome_iff_exists.1 hs
    obtain ⟨cs, hc, _⟩ := hsh.1 5 zero t (of_decide_eq_true (by kernel_rfl)) hz
    exact (Array.getElem?_eq_some_iff.1 hc).1
  exact ⟨⟨by rw [e1, f1]; rfl, by rw [e1, f1]; rfl, by rw [e1, f1]; rfl, Tryd.laysM146.s1_3 W hsh, by omega⟩, fun j v hj => by
    rw [e2, ← Array.getElem?_toList]
    exact shapes_of hd2 j v hj⟩

theorem reach_len {n : Nat} (h : n ≤ reachBytes) : n ≤ 140737488355328 := by
  have h2 := reachBytes_lt
  have e3 : (2 : Nat) ^ 47 = 140737488355328 := by decide
  omega
theorem reach_size (s : ByteArray) (h : s.data.toList.length ≤ reachBytes) : s.size ≤ 140737488355328 := reach_len h
theorem weights_all {H : Type} {P : Program} {e : TypeId} {d : DataW H} : ∀ {l : List (DataW H)}, d ∈ l → ∀ n ∈ d.weights P e, n ∈ DataW.weightsAll P e l
  | d0 :: l, h, n, hn => by
    simp only [DataW.weightsAll, List.mem_append]
    rcases List.mem_cons.1 h with rfl | h
    · exact .inl hn
    · exact .inr (weights_all h n hn)
  | [], h, _, _ => by cases h
set_option maxRecDepth 100000 in
/-- An argument that is a slice of items. -/
theorem argI_of {H : Type} {enc : TypeId × Value → H} {W : World} {base fuel : Nat} {hd : Bool} {v : Value} {d : DataW H} {p : List MemPlace}
    (hf : DataW.trod enc Tryd.prog W base (fun _ => true) hd fuel 22 [v] = some (d, p)) (hlt : ∀ x ∈ p, x.block < W.heap.size) : ∃ l, RdI W v l ∧ ∀ x ∈ l, x.path.length ∈ d.weights Tryd.prog 22 := by
  rcases Go.Deep.open_slice Tryd.underlying22 hf with ⟨hcs, _⟩ | ⟨a, len, cap, m, n, D, Pl, hcs, _, hl, hm, hmm, hx, hi⟩
  · simp at hcs
    subst hcs
    exact ⟨[], RdF.nil W, fun x hx => by cases hx⟩
  · simp at hcs
    subst hcs
    simp only [if_true] at hmm
    subst hmm
    simp only [Prod.mk.injEq] at hx
    obtain ⟨hd0, rfl⟩ := hx
    have key : ∀ i : Nat, ∃ b : It, i < m → (∀ (j : Nat), j < 3 → W.cell? ((a.add (i * 3)).add j) = b.cells[j]?) ∧ D i = .agg [.lit (.string b.path), .lit (.int .i64 b.kind), .lit (.string b.data)] := by
      intro i
      by_cases him : i < m
      · obtain ⟨cs', hc, ht⟩ := hi i him
        rw [cells35] at hc
        obtain ⟨_, hcl, hat⟩ := World.cells?_some hc
        obtain ⟨b, rfl, hD⟩ := it_of ht
        exact ⟨b, fun _ => ⟨fun j hj => hat j (by omega), hD⟩⟩
      · exact ⟨It.nil, fun h => absurd h him⟩
    obtain ⟨F, hF⟩ := Classical.axiomOfChoice key
    refine ⟨(List.range len).map F, ⟨some a, m, by simp, by simpa using hl, hm, fun h0 => ?_⟩, fun x hx => ?_⟩
    · have h0' : 0 < len := by simpa using h0
      obtain ⟨g, o, spot⟩ := a
      have hspot : spot = none := by
        have e := (hF 0 (by omega)).1 0 (by omega)
        have := World.cell?_spot (v := .string ⟨(F 0).path.toArray⟩) (e.trans rfl)
        simpa [Addr.add] using this
      subst hspot
      refine ⟨g, o, rfl, hlt (.cell g o) (List.mem_append_left _ (MemPlace.mem_row.2 ⟨0, by rw [cells35]; omega, by simp⟩)), fun j u hu => ?_⟩
      obtain ⟨q, r, hr, rfl⟩ : ∃ q r, r < 3 ∧ j = q * 3 + r := ⟨j / 3, j % 3, by omega, by omega⟩
      rw [flat3 _ q r hr, List.getElem?_map] at hu
      obtain ⟨b, hb, hbu⟩ := Option.bind_eq_some_iff.1 hu
      obtain ⟨i, hi1, rfl⟩ := Option.map_eq_some_iff.1 hb
      have hql : q < len := by simpa using (List.getElem?_eq_some_iff.1 hi1).1
      have e : i = q := by
        have := (List.getElem?_eq_some_iff.1 hi1).2
        simpa using this.symm
      subst e
      have hk := (hF i (by omega)).1 r hr
      rw [addr_add, addr_add, Nat.add_assoc] at hk
      rw [hk]
      exact hbu
    · obtain ⟨i, hi1, rfl⟩ := List.mem_map.1 hx
      have hil : i < len := List.mem_range.1 hi1
      have hD := (hF i (by omega)).2
      rw [hd0]
      simp only [DataW.weights, Tryd.underlying22, List.mem_cons, List.mem_append]
      refine .inr (.inl (weights_all (d := D i) (List.mem_map.2 ⟨i, hi1, rfl⟩) _ ?_))
      rw [hD]
      simp [DataW.weights, Tryd.underlying35, DataW.weightsEach]
set_option maxRecDepth 100000 in
/-- An argument that is a tree. -/
theorem argT_of {H : Type} {enc : TypeId × Value → H} {W : World} {base fuel : Nat} {hd : Bool} {cs : Array Value} {d : DataW H} {p : List MemPlace}
    (hf : DataW.trod enc Tryd.prog W base (fun _ => true) hd fuel 24 cs.toList = some (d, p)) (hlt : ∀ x ∈ p, x.block < W.heap.size) : ∃ x l, cs = #[x] ∧ RdI W x l ∧ ∀ y ∈ l, y.path.length ∈ d.weights Tryd.prog 24 := by
  obtain ⟨y0, n, hx, hl, t0⟩ := trod_struct1 Tryd.underlying24 hf
  rw [cells24] at hl
  rw [cells22] at t0
  obtain ⟨x, hcx⟩ : ∃ x, cs.toList = [x] := by
    match h : cs.toList, hl with
    | [x], _ => exact ⟨x, rfl⟩
  rw [hcx] at t0
  simp at t0
  simp only [Prod.mk.injEq] at hx
  obtain ⟨hd0, rfl⟩ := hx
  obtain ⟨l, h, hw⟩ := argI_of (d := y0.1) (p := y0.2) t0 hlt
  refine ⟨x, l, Array.ext' hcx, h, fun y hy => ?_⟩
  rw [hd0]
  simp only [DataW.weights, Tryd.underlying24]
  simp only [List.map, DataW.weightsEach, List.append_nil]
  exact hw y hy
set_option maxRecDepth 100000 in
theorem okWide_tree {r : Reach} {W : World} {b0 : Nat} {v : Value} (h : Value.okWide Tryd.prog W r b0 24 v) : ∃ cs : Array Value, v = .agg cs := by
  simp only [Value.okWide, Tryd.underlying24] at h
  obtain ⟨cs, h1, _⟩ := h
  exact ⟨cs, h1⟩

set_option maxRecDepth 100000 in
/-- An operation's cells, and its datum. -/
theorem op_of {H : Type} {enc : TypeId × Value → H} {W : World} {base fuel : Nat} {hd : Bool} {cs : List Value} {d : DataW H} {p : List MemPlace} (h : DataW.trod enc Tryd.prog W base (fun _ => true) hd fuel 26 cs = some (d, p)) :
    ∃ b : Opn, cs = b.cells ∧ d = .agg [.lit (.int .i64 b.kind), .lit (.string b.path), .lit (.string b.to), .lit (.string b.data)] := by
  obtain ⟨y0, y1, y2, y3, n, hx, hl, t0, t1, t2, t3⟩ := trod_struct4 Tryd.underlying26 h
  rw [cells26] at hl
  rw [cells3] at t0
  rw [cells9] at t1 t2 t3
  obtain ⟨m, e0, hy0, _⟩ := DataW.trod_int Tryd.underlying3 t0
  obtain ⟨s, e1, hy1, _⟩ := DataW.trod_string Tryd.underlying9 t1
  obtain ⟨z, e2, hy2, _⟩ := DataW.trod_string Tryd.underlying9 t2
  obtain ⟨u, e3, hy3, _⟩ := DataW.trod_string Tryd.underlying9 t3
  obtain ⟨q0, q1, q2, q3, rfl⟩ := list4 hl
  simp at e0 e1 e2 e3
  simp only [Prod.mk.injEq] at hx
  refine ⟨⟨m, s.data.toList, z.data.toList, u.data.toList⟩, ?_, ?_⟩
  · rw [e0, e1, e2, e3]
    show _ = [_, Value.string ⟨s.data.toList.toArray⟩, Value.string ⟨z.data.toList.toArray⟩, Value.string ⟨u.data.toList.toArray⟩]
    rw [ba_toArray, ba_toArray, ba_toArray]
  · rw [hx.1, hy0, hy1, hy2, hy3]
set_option maxRecDepth 100000 in
/-- An argument that is a slice of operations. -/
theorem argO_of {H : Type} {enc : TypeId × Value → H} {W : World} {base fuel : Nat} {hd : Bool} {v : Value} {d : DataW H} {p : List MemPlace}
    (hf : DataW.trod enc Tryd.prog W base (fun _ => true) hd fuel 41 [v] = some (d, p)) (hlt : ∀ x ∈ p, x.block < W.heap.size) : ∃ l, RdO W v l ∧ ∀ x ∈ l, x.path.length ∈ d.weights Tryd.prog 41 ∧ x.to.length ∈ d.weights Tryd.prog 41 := by
  rcases Go.Deep.open_slice Tryd.underlying41 hf with ⟨hcs, _⟩ | ⟨a, len, cap, m, n, D, Pl, hcs, _, hl, hm, hmm, hx, hi⟩
  · simp at hcs
    subst hcs
    exact ⟨[], RdF.nil W, fun x hx => by cases hx⟩
  · simp at hcs
    subst hcs
    simp only [if_true] at hmm
    subst hmm
    simp only [Prod.mk.injEq] at hx
    obtain ⟨hd0, rfl⟩ := hx
    have key : ∀ i : Nat, ∃ b : Opn, i < m → (∀ (j : Nat), j < 4 → W.cell? ((a.add (i * 4)).add j) = b.cells[j]?) ∧ D i = .agg [.lit (.int .i64 b.kind), .lit (.string b.path), .lit (.string b.to), .lit (.string b.data)] := by
      intro i
      by_cases him : i < m
      · obtain ⟨cs', hc, ht⟩ := hi i him
        rw [cells26] at hc
        obtain ⟨_, hcl, hat⟩ := World.cells?_some hc
        obtain ⟨b, rfl, hD⟩ := op_of ht
        exact ⟨b, fun _ => ⟨fun j hj => hat j (by omega), hD⟩⟩
      · exact ⟨⟨0, [], [], []⟩, fun h => absurd h him⟩
    obtain ⟨F, hF⟩ := Classical.axiomOfChoice key
    refine ⟨(List.range len).map F, ⟨some a, m, by simp, by simpa using hl, hm, fun h0 => ?_⟩, fun x hx => ?_⟩
    · have h0' : 0 < len := by simpa using h0
      obtain ⟨g, o, spot⟩ := a
      have hspot : spot = none := by
        have e := (hF 0 (by omega)).1 0 (by omega)
        have := World.cell?_spot (v := .int .i64 (F 0).kind) (e.trans rfl)
        simpa [Addr.add] using this
      subst hspot
      refine ⟨g, o, rfl, hlt (.cell g o) (List.mem_append_left _ (MemPlace.mem_row.2 ⟨0, by rw [cells26]; omega, by simp⟩)), fun j u hu => ?_⟩
      obtain ⟨q, r, hr, rfl⟩ : ∃ q r, r < 4 ∧ j = q * 4 + r := ⟨j / 4, j % 4, by omega, by omega⟩
      rw [flat4 _ q r hr, List.getElem?_map] at hu
      obtain ⟨b, hb, hbu⟩ := Option.bind_eq_some_iff.1 hu
      obtain ⟨i, hi1, rfl⟩ := Option.map_eq_some_iff.1 hb
      have hql : q < len := by simpa using (List.getElem?_eq_some_iff.1 hi1).1
      have e : i = q := by
        have := (List.getElem?_eq_some_iff.1 hi1).2
        simpa using this.symm
      subst e
      have hk := (hF i (by omega)).1 r hr
      rw [addr_add, addr_add, Nat.add_assoc] at hk
      rw [hk]
      exact hbu
    · obtain ⟨i, hi1, rfl⟩ := List.mem_map.1 hx
      have hil : i < len := List.mem_range.1 hi1
      have hD := (hF i (by omega)).2
      rw [hd0]
      simp only [DataW.weights, Tryd.underlying41, List.mem_cons, List.mem_append]
      refine ⟨.inr (.inl (weights_all (d := D i) (List.mem_map.2 ⟨i, hi1, rfl⟩) _ ?_)), .inr (.inl (weights_all (d := D i) (List.mem_map.2 ⟨i, hi1, rfl⟩) _ ?_))⟩
      · rw [hD]
        simp [DataW.weights, Tryd.underlying26, DataW.weightsEach]
      · rw [hD]
        simp [DataW.weights, Tryd.underlying26, DataW.weightsEach]

/-- The cells of a plain table's datum. -/
def litV : DataW Unit → Value
  | .lit (.int k z) => .int k z
  | .lit (.bool b) => .bool b
  | .lit (.string s) => .string ⟨s.toArray⟩
  | _ => .nilFunc
def rowV : DataW Unit → List Value
  | .agg l => l.map litV
  | d => [litV d]
def tabV : DataW Unit → List Value
  | .agg l => l.flatMap rowV
  | _ => []
/-- A WORLD FOR THE WITNESSES: the settled one, the tables laid into their variables. -/
noncomputable def laidWorld (os : Os) : World :=
  let w0 := World.holding Tryd.prog os ⟨#[], #[], []⟩
  let put (h : Array Obj) (g : Nat) (cs : List Value) : Array Obj := h.modify g fun
    | .cells _ t frozen => .cells cs.toArray t frozen
    | o => o
  { w0 with heap := put (put w0.heap 0 (tabV Rows.laid_puncheon_tree_root)) 1 (tabV Rows.laid_puncheon_tree_shapes) }
theorem laid_met (os : Os) (args : Array Value) : laidMet Tryd.prog Rows.treeOnceRow.laid ((laidWorld os).forCall (fun _ _ => 0) ⟨#[], args, []⟩).memory :=
  laidMet_of_run' 8 (by kernel_rfl) (by kernel_rfl)
noncomputable abbrev zeroTree : Value := .agg #[.slice none 0 0]
abbrev zeroTreeD {H : Type} : DataW H := .agg [.nil]
end Go.Proofs.YtemhdjplhafmiaaDoor
