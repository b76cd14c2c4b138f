/- What the last steps of all laws of this seat share: a world for the witnesses, and how a case is opened. -/
import Derived.Test.YtophihnjlodmjaaDoorCards
import Derived.Test.YtophihnjlodmjaaDoorTie
import Derived.Test.YtophihnjlodmjaaDoorCase
import Derived.ProofKit
import Derived.OpenShut
import Derived.ShutString
import Derived.SizedLaws
import Derived.Lib.SmallJoins
import Derived.Lib.LaidTab
import Derived.Deep.DeepHandedRow
import Derived.LaidMore
import Derived.Lib.LaidU8
import Derived.Deep.Slices
import Derived.Deep.Strs
namespace Go.Proofs.YtophihnjlodmjaaDoor
open Go.ChangeShapes Go.WideShapes Go.ChangeAt Go.RowKit Go.Joins
open Go.ChangeMaps (open_string shut_string)
open Go.Deep (trod_struct3)

theorem own0 : ownKnob Tryd.prog.godebug = none := by kernel_rfl
theorem laidOut : laidOutB Tryd.prog = true := by kernel_rfl
theorem cells25 : Tryd.prog.cellsOf 25 = 3 := by kernel_rfl
theorem cells9 : Tryd.prog.cellsOf 9 = 1 := by kernel_rfl

theorem list3 {α : Type} {l : List α} (h : l.length = 3) : ∃ a b c, l = [a, b, c] := by
  match l, h with
  | [a, b, c], _ => exact ⟨a, b, c, rfl⟩
def Cs.cells (c : Cs) : List Value := [.string ⟨c.d.toArray⟩, .string ⟨c.f.toArray⟩, .string ⟨c.t.toArray⟩]
theorem Cs.arr_of {v : Cs} {cs : Array Value} (h : cs.toList = v.cells) : cs = v.arr := by
  apply Array.ext'
  rw [h]
  rfl
theorem bytes_list (s : ByteArray) : s = ⟨s.data.toList.toArray⟩ := by cases s; rfl

set_option maxRecDepth 100000 in
/-- Cells that are read as a case are one's. -/
theorem case_of {H : Type} {enc : TypeId × Value → H} {W : World} {base fuel : Nat} {hd : Bool} {cs : List Value} {x : DataW H × List MemPlace} (h : DataW.trod enc Tryd.prog W base (fun _ => true) hd fuel 25 cs = some x) :
    ∃ v : Cs, cs = v.cells := by
  obtain ⟨y0, y1, y2, n, _, hl, t0, t1, t2⟩ := trod_struct3 Tryd.underlying25 h
  rw [cells25] at hl
  rw [cells9] at t0 t1 t2
  obtain ⟨s0, e0, _, _⟩ := DataW.trod_string Tryd.underlying9 t0
  obtain ⟨s1, e1, _, _⟩ := DataW.trod_string Tryd.underlying9 t1
  obtain ⟨s2, e2, _, _⟩ := DataW.trod_string Tryd.underlying9 t2
  obtain ⟨q0, q1, q2, rfl⟩ := list3 hl
  simp at e0 e1 e2
  refine ⟨⟨s0.data.toList, s1.data.toList, s2.data.toList⟩, ?_⟩
  rw [e0, e1, e2]
  unfold Cs.cells
  rw [← bytes_list s0, ← bytes_list s1, ← bytes_list s2]

set_option maxRecDepth 100000 in
theorem okWide_case {r : Reach} {W : World} {b0 : Nat} {v : Value} (h : Value.okWide Tryd.prog W r b0 25 v) : ∃ cs : Array Value, v = .agg cs := by
  simp only [Value.okWide, Tryd.underlying25] at h
  obtain ⟨cs, h1, _⟩ := h
  exact ⟨cs, h1⟩

/-- The cells of a plain table's datum. -/
def litV : DataW Unit → Value
  | .lit (.int k z) => .int k z
  | _ => .nilFunc
def rowV : DataW Unit → List Value
  | .agg l => l.map litV
  | d => [litV d]
def tabV : DataW Unit → List Value
  | .agg l => l.flatMap rowV
  | _ => []
/-- A WORLD FOR THE WITNESSES: the settled one, the tables laid into their variables. -/
noncomputable def laidWorld (os : Os) : World :=
  let w0 := World.holding Tryd.prog os ⟨#[], #[], []⟩
  let put (h : Array Obj) (g : Nat) (cs : List Value) : Array Obj := h.modify g fun
    | .cells _ t frozen => .cells cs.toArray t frozen
    | o => o
  { w0 with heap := put (put w0.heap 1 (Lib.firstTab.map fun z => Value.int .u8 z)) 2 (tabV Rows.laid_unicode_utf8_acceptRanges) }
theorem laid_met (os : Os) (args : Array Value) : laidMet Tryd.prog Rows.relocTellsRow.laid ((laidWorld os).forCall (fun _ _ => 0) ⟨#[], args, []⟩).memory :=
  laidMet_of_run' 8 (by kernel_rfl) (by kernel_rfl)

set_option maxRecDepth 100000 in
/-- An argument that is a row of cases. -/
theorem argC_of {H : Type} {enc : TypeId × Value → H} {W : World} {base fuel : Nat} {hd : Bool} {a0 : Option Addr} {len cap : Nat} {d : DataW H} {p : List MemPlace}
    (hf : DataW.trod enc Tryd.prog W base (fun _ => true) hd fuel 22 [.slice a0 len cap] = some (d, p)) (hlt : ∀ x ∈ p, x.block < W.heap.size) : ∃ l, RdC W (.slice a0 len cap) l := by
  rcases Go.Deep.open_slice Tryd.underlying22 hf with ⟨hcs, _⟩ | ⟨a, len', cap', m, n, D, Pl, hcs, _, hl, hm, hmm, hx, hi⟩
  · simp at hcs
    obtain ⟨rfl, rfl, rfl⟩ := hcs
    exact ⟨[], RdC.nil W⟩
  · simp at hcs
    obtain ⟨rfl, rfl, rfl⟩ := hcs
    simp only [if_true] at hmm
    subst hmm
    simp only [Prod.mk.injEq] at hx
    obtain ⟨_, rfl⟩ := hx
    have key : ∀ i : Nat, ∃ v : Cs, i < m → ∀ (j : Nat), j < 3 → W.cell? ((a.add (i * 3)).add j) = v.cells[j]? := by
      intro i
      by_cases him : i < m
      · obtain ⟨cs', hc, ht⟩ := hi i him
        rw [cells25] at hc
        obtain ⟨_, hcl, hat⟩ := World.cells?_some hc
        obtain ⟨v, rfl⟩ := case_of ht
        exact ⟨v, fun _ j hj => hat j (by omega)⟩
      · exact ⟨Cs.nil, fun h => absurd h him⟩
    obtain ⟨F, hF⟩ := Classical.axiomOfChoice key
    refine ⟨(List.range len).map F, some a, m, by simp, by simpa using hl, hm, fun h0 => ?_⟩
    have h0' : 0 < len := by simpa using h0
    obtain ⟨g, o, spot⟩ := a
    have hspot : spot = none := by
      have e := hF 0 (by omega) 0 (by omega)
      have := World.cell?_spot (v := .string ⟨(F 0).d.toArray⟩) (e.trans rfl)
      simpa [Addr.add] using this
    subst hspot
    refine ⟨g, o, rfl, hlt (.cell g o) (List.mem_append_left _ (MemPlace.mem_row.2 ⟨0, by rw [cells25]; omega, by simp⟩)), fun j v hv => ?_⟩
    rw [List.getElem?_map] at hv
    obtain ⟨i, hi1, rfl⟩ := Option.map_eq_some_iff.1 hv
    have hj : j < len := by simpa using (List.getElem?_eq_some_iff.1 hi1).1
    have e : i = j := by
      have := (List.getElem?_eq_some_iff.1 hi1).2
      simpa using this.symm
    subst e
    have hk := hF i (by omega)
    have at' : ∀ t : Nat, ((⟨g, o, none⟩ : Addr).add (i * 3)).add t = ⟨g, o + i * 3 + t, none⟩ := fun t => by rw [addr_add, addr_add]
    refine ⟨?_, ?_, ?_⟩
    · have := hk 0 (by omega); rw [at'] at this; exact this
    · have := hk 1 (by omega); rw [at'] at this; exact this
    · have := hk 2 (by omega); rw [at'] at this; exact this
end Go.Proofs.YtophihnjlodmjaaDoor
