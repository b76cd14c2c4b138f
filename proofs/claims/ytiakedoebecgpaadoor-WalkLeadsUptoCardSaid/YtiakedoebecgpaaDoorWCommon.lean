/- What the last steps of all Walk laws share: what the rows' list gives (the two roots), a world for the witnesses, and how trees that came in are opened. -/
import Derived.Test.YtiakedoebecgpaaDoorCards
import Derived.Test.YtiakedoebecgpaaDoorTie
import Derived.Test.YtiakedoebecgpaaDoorWWakes
import Derived.ProofKit
import Derived.OpenShut
import Derived.ShutString
import Derived.SizedLaws
import Derived.Lib.SmallJoins
import Derived.Lib.LaidTab
import Derived.Deep.DeepHandedRow
import Derived.LaidMore
import Derived.Lib.LaidU8
import Derived.Deep.Slices
import Derived.Deep.Strs
namespace Go.Proofs.YtiakedoebecgpaaDoor
open Go.ChangeShapes Go.WideShapes Go.ChangeAt Go.RowKit Go.Joins
open Go.ChangeMaps (open_string shut_string)

theorem own0 : ownKnob Tryd.prog.godebug = none := by kernel_rfl
theorem laidOut : laidOutB Tryd.prog = true := by kernel_rfl
theorem cells35 : Tryd.prog.cellsOf 35 = 3 := by kernel_rfl
theorem cells22 : Tryd.prog.cellsOf 22 = 1 := by kernel_rfl
theorem cells24 : Tryd.prog.cellsOf 24 = 1 := by kernel_rfl
theorem cells3 : Tryd.prog.cellsOf 3 = 1 := by kernel_rfl
theorem cells9 : Tryd.prog.cellsOf 9 = 1 := by kernel_rfl
theorem gTRoot : Tryd.prog.globalNamed "puncheon/tree.root" = some 0 := by kernel_rfl
theorem gWRoot : Tryd.prog.globalNamed "puncheon/walk.root" = some 2 := by kernel_rfl
theorem gTRootType : (Tryd.prog.globals[0]?).map (·.type) = some 35 := by kernel_rfl
theorem gWRootType : (Tryd.prog.globals[2]?).map (·.type) = some 35 := by kernel_rfl
theorem gAcc : Tryd.prog.globalNamed "unicode/utf8.acceptRanges" = some 5 := by kernel_rfl
theorem root_read {H : Type} {b : It} (h : (.agg [.lit (.string [47]), .lit (.int .i64 1), .lit (.string [])] : DataW H) = .agg [.lit (.string b.path), .lit (.int .i64 b.kind), .lit (.string b.data)]) : b = ⟨[47], 1, []⟩ := by
  obtain ⟨p, k, d⟩ := b
  simp at h
  obtain ⟨rfl, rfl, rfl⟩ := h
  rfl
theorem var_lt {P : Program} {W : World} {n : String} {g : Nat} {cs : Array Value} (hg : P.globalNamed n = some g) (h : W.var? P n = some cs) : g < W.heap.size := by
  unfold World.var? at h
  rw [hg, Option.bind_some] at h
  cases e : W.heap[g]? with
  | none => rw [e] at h; cases h
  | some o => exact (Array.getElem?_eq_some_iff.1 e).1
theorem list3 {α : Type} {l : List α} (h : l.length = 3) : ∃ a b c, l = [a, b, c] := by
  match l, h with
  | [a, b, c], _ => exact ⟨a, b, c, rfl⟩
theorem ba_toArray (s : ByteArray) : (⟨s.data.toList.toArray⟩ : ByteArray) = s := by cases s; rfl
set_option maxRecDepth 100000 in
/-- An item's cells, and its datum. -/
theorem it_of {H : Type} {enc : TypeId × Value → H} {W : World} {base fuel : Nat} {hd : Bool} {cs : List Value} {d : DataW H} {p : List MemPlace} (h : DataW.trod enc Tryd.prog W base (fun _ => true) hd fuel 35 cs = some (d, p)) :
    ∃ b : It, cs = b.cells ∧ d = .agg [.lit (.string b.path), .lit (.int .i64 b.kind), .lit (.string b.data)] := by
  obtain ⟨y0, y1, y2, n, hx, hl, t0, t1, t2⟩ := Go.Deep.trod_struct3 Tryd.underlying35 h
  rw [cells35] at hl
  rw [cells9] at t0 t2
  rw [cells3] at t1
  obtain ⟨s, e0, hy0, _⟩ := DataW.trod_string Tryd.underlying9 t0
  obtain ⟨m, e1, hy1, _⟩ := DataW.trod_int Tryd.underlying3 t1
  obtain ⟨z, e2, hy2, _⟩ := DataW.trod_string Tryd.underlying9 t2
  obtain ⟨q0, q1, q2, rfl⟩ := list3 hl
  simp at e0 e1 e2
  simp only [Prod.mk.injEq] at hx
  refine ⟨⟨s.data.toList, m, z.data.toList⟩, ?_, ?_⟩
  · rw [e0, e1, e2]
    show _ = [Value.string ⟨s.data.toList.toArray⟩, _, Value.string ⟨z.data.toList.toArray⟩]
    rw [ba_toArray, ba_toArray]
  · rw [hx.1, hy0, hy1, hy2]
theorem addr_add (g o j : Nat) : (⟨g, o, none⟩ : Addr).add j = ⟨g, o + j, none⟩ := add_to g o j
/-- WHAT THE ROWS' LIST GIVES, and the shape of the first world. -/
theorem tabs {W : World} (h : laidMetH Tryd.prog Rows.walkPlainRow.laid W) (hsh : W.ShapedOpen Tryd.prog) : Tabs W := by
  obtain ⟨ps, ⟨g0, t0, cs0, f0, p0, q0, hg0, ht0, hv0, hd0, ⟨g1, t1, cs1, f1, p1, q1, hg1, ht1, hv1, hd1, ⟨g2, t2, cs2, f2, p2, q2, hg2, ht2, hv2, hd2, _⟩, _⟩, _⟩, _⟩ := h
  obtain rfl := Option.some.inj (gTRoot.symm.trans hg1)
  obtain rfl := Option.some.inj (gTRootType.symm.trans ht1)
  obtain rfl := Option.some.inj (gWRoot.symm.trans hg2)
  obtain rfl := Option.some.inj (gWRootType.symm.trans ht2)
  obtain rfl := Option.some.inj (gAcc.symm.trans hg0)
  have l5 := var_lt gAcc hv0
  have e1 : ∀ i, W.cell? ⟨0, i, none⟩ = cs1[i]? := fun i => World.var?_cell gTRoot hv1 i
  have e2 : ∀ i, W.cell? ⟨2, i, none⟩ = cs2[i]? := fun i => World.var?_cell gWRoot hv2 i
  obtain ⟨b1, hc1, hb1⟩ := it_of hd1
  obtain ⟨b2, hc2, hb2⟩ := it_of hd2
  have r1 : b1 = ⟨[47], 1, []⟩ := root_read hb1
  have r2 : b2 = ⟨[47], 1, []⟩ := root_read hb2
  subst r1 r2
  have f1 : ∀ i, cs1[i]? = (It.cells ⟨[47], 1, []⟩)[i]? := fun i => by rw [← Array.getElem?_toList, hc1]
  have f2 : ∀ i, cs2[i]? = (It.cells ⟨[47], 1, []⟩)[i]? := fun i => by rw [← Array.getElem?_toList, hc2]
  exact ⟨by rw [e1, f1]; rfl, by rw [e1, f1]; rfl, by rw [e1, f1]; rfl, by rw [e2, f2]; rfl, by rw [e2, f2]; rfl, by rw [e2, f2]; rfl, Tryd.laysM146.s1_3 W hsh, by omega⟩

theorem reach_len {n : Nat} (h : n ≤ reachBytes) : n ≤ 140737488355328 := by
  have h2 := reachBytes_lt
  have e3 : (2 : Nat) ^ 47 = 140737488355328 := by decide
  omega
theorem reach_size (s : ByteArray) (h : s.data.toList.length ≤ reachBytes) : s.size ≤ 140737488355328 := reach_len h
theorem weights_all {H : Type} {P : Program} {e : TypeId} {d : DataW H} : ∀ {l : List (DataW H)}, d ∈ l → ∀ n ∈ d.weights P e, n ∈ DataW.weightsAll P e l
  | d0 :: l, h, n, hn => by
    simp only [DataW.weightsAll, List.mem_append]
    rcases List.mem_cons.1 h with rfl | h
    · exact .inl hn
    · exact .inr (weights_all h n hn)
  | [], h, _, _ => by cases h
set_option maxRecDepth 100000 in
/-- An argument that is a slice of items. -/
theorem argI_of {H : Type} {enc : TypeId × Value → H} {W : World} {base fuel : Nat} {hd : Bool} {v : Value} {d : DataW H} {p : List MemPlace}
    (hf : DataW.trod enc Tryd.prog W base (fun _ => true) hd fuel 22 [v] = some (d, p)) (hlt : ∀ x ∈ p, x.block < W.heap.size) : ∃ l, RdI W v l ∧ ∀ x ∈ l, x.path.length ∈ d.weights Tryd.prog 22 := by
  rcases Go.Deep.open_slice Tryd.underlying22 hf with ⟨hcs, _⟩ | ⟨a, len, cap, m, n, D, Pl, hcs, _, hl, hm, hmm, hx, hi⟩
  · simp at hcs
    subst hcs
    exact ⟨[], RdF.nil W, fun x hx => by cases hx⟩
  · simp at hcs
    subst hcs
    simp only [if_true] at hmm
    subst hmm
    simp only [Prod.mk.injEq] at hx
    obtain ⟨hd0, rfl⟩ := hx
    have key : ∀ i : Nat, ∃ b : It, i < m → (∀ (j : Nat), j < 3 → W.cell? ((a.add (i * 3)).add j) = b.cells[j]?) ∧ D i = .agg [.lit (.string b.path), .lit (.int .i64 b.kind), .lit (.string b.data)] := by
      intro i
      by_cases him : i < m
      · obtain ⟨cs', hc, ht⟩ := hi i him
        rw [cells35] at hc
        obtain ⟨_, hcl, hat⟩ := World.cells?_some hc
        obtain ⟨b, rfl, hD⟩ := it_of ht
        exact ⟨b, fun _ => ⟨fun j hj => hat j (by omega), hD⟩⟩
      · exact ⟨It.nil, fun h => absurd h him⟩
    obtain ⟨F, hF⟩ := Classical.axiomOfChoice key
    refine ⟨(List.range len).map F, ⟨some a, m, by simp, by simpa using hl, hm, fun h0 => ?_⟩, fun x hx => ?_⟩
    · have h0' : 0 < len := by simpa using h0
      obtain ⟨g, o, spot⟩ := a
      have hspot : spot = none := by
        have e := (hF 0 (by omega)).1 0 (by omega)
        have := World.cell?_spot (v := .string ⟨(F 0).path.toArray⟩) (e.trans rfl)
        simpa [Addr.add] using this
      subst hspot
      refine ⟨g, o, rfl, hlt (.cell g o) (List.mem_append_left _ (MemPlace.mem_row.2 ⟨0, by rw [cells35]; omega, by simp⟩)), fun j u hu => ?_⟩
      obtain ⟨q, r, hr, rfl⟩ : ∃ q r, r < 3 ∧ j = q * 3 + r := ⟨j / 3, j % 3, by omega, by omega⟩
      rw [flat3 _ q r hr, List.getElem?_map] at hu
      obtain ⟨b, hb, hbu⟩ := Option.bind_eq_some_iff.1 hu
      obtain ⟨i, hi1, rfl⟩ := Option.map_eq_some_iff.1 hb
      have hql : q < len := by simpa using (List.getElem?_eq_some_iff.1 hi1).1
      have e : i = q := by
        have := (List.getElem?_eq_some_iff.1 hi1).2
        simpa using this.symm
      subst e
      have hk := (hF i (by omega)).1 r hr
      rw [addr_add, addr_add, Nat.add_assoc] at hk
      rw [hk]
      exact hbu
    · obtain ⟨i, hi1, rfl⟩ := List.mem_map.1 hx
      have hil : i < len := List.mem_range.1 hi1
      have hD := (hF i (by omega)).2
      rw [hd0]
      simp only [DataW.weights, Tryd.underlying22, List.mem_cons, List.mem_append]
      refine .inr (.inl (weights_all (d := D i) (List.mem_map.2 ⟨i, hi1, rfl⟩) _ ?_))
      rw [hD]
      simp [DataW.weights, Tryd.underlying35, DataW.weightsEach]
set_option maxRecDepth 100000 in
/-- An argument that is a tree. -/
theorem argT_of {H : Type} {enc : TypeId × Value → H} {W : World} {base fuel : Nat} {hd : Bool} {cs : Array Value} {d : DataW H} {p : List MemPlace}
    (hf : DataW.trod enc Tryd.prog W base (fun _ => true) hd fuel 24 cs.toList = some (d, p)) (hlt : ∀ x ∈ p, x.block < W.heap.size) : ∃ x l, cs = #[x] ∧ RdI W x l ∧ ∀ y ∈ l, y.path.length ∈ d.weights Tryd.prog 24 := by
  obtain ⟨y0, n, hx, hl, t0⟩ := trod_struct1 Tryd.underlying24 hf
  rw [cells24] at hl
  rw [cells22] at t0
  obtain ⟨x, hcx⟩ : ∃ x, cs.toList = [x] := by
    match h : cs.toList, hl with
    | [x], _ => exact ⟨x, rfl⟩
  rw [hcx] at t0
  simp at t0
  simp only [Prod.mk.injEq] at hx
  obtain ⟨hd0, rfl⟩ := hx
  obtain ⟨l, h, hw⟩ := argI_of (d := y0.1) (p := y0.2) t0 hlt
  refine ⟨x, l, Array.ext' hcx, h, fun y hy => ?_⟩
  rw [hd0]
  simp only [DataW.weights, Tryd.underlying24]
  simp only [List.map, DataW.weightsEach, List.append_nil]
  exact hw y hy
set_option maxRecDepth 100000 in
theorem okWide_tree {r : Reach} {W : World} {b0 : Nat} {v : Value} (h : Value.okWide Tryd.prog W r b0 24 v) : ∃ cs : Array Value, v = .agg cs := by
  simp only [Value.okWide, Tryd.underlying24] at h
  obtain ⟨cs, h1, _⟩ := h
  exact ⟨cs, h1⟩

/-- The cells of a plain table's datum. -/
def litV : DataW Unit → Value
  | .lit (.int k z) => .int k z
  | .lit (.string s) => .string ⟨s.toArray⟩
  | _ => .nilFunc
def rowV : DataW Unit → List Value
  | .agg l => l.map litV
  | d => [litV d]
def tabV : DataW Unit → List Value
  | .agg l => l.flatMap rowV
  | _ => []
/-- A WORLD FOR THE WITNESSES: the settled one, the tables laid into their variables. -/
noncomputable def laidWorld (os : Os) : World :=
  let w0 := World.holding Tryd.prog os ⟨#[], #[], []⟩
  let put (h : Array Obj) (g : Nat) (cs : List Value) : Array Obj := h.modify g fun
    | .cells _ t frozen => .cells cs.toArray t frozen
    | o => o
  { w0 with heap := put (put (put (put w0.heap 4 (Lib.firstTab.map fun z => Value.int .u8 z)) 5 (tabV Rows.laid_unicode_utf8_acceptRanges)) 0 (tabV Rows.laid_puncheon_tree_root)) 2 (tabV Rows.laid_puncheon_walk_root) }
theorem laid_met (os : Os) (args : Array Value) : laidMet Tryd.prog Rows.walkPlainRow.laid ((laidWorld os).forCall (fun _ _ => 0) ⟨#[], args, []⟩).memory :=
  laidMet_of_run' 8 (by kernel_rfl) (by kernel_rfl)
noncomputable abbrev zeroTree : Value := .agg #[.slice none 0 0]
abbrev zeroTreeD {H : Type} : DataW H := .agg [.nil]
end Go.Proofs.YtiakedoebecgpaaDoor
