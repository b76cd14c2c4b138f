/- What an argument that is a slice of parts reads as, for the laws' last steps. -/
import Derived.Test.YtmamolhclohniaaDoorCommon
import Derived.Deep.Slices
namespace Go.Proofs.YtmamolhclohniaaDoor
open Go.ChangeShapes Go.WideShapes Go.ChangeAt Go.RowKit

theorem cells29 : Tryd.prog.cellsOf 29 = 3 := by kernel_rfl
theorem cells4 : Tryd.prog.cellsOf 4 = 1 := by kernel_rfl
theorem cells9 : Tryd.prog.cellsOf 9 = 1 := by kernel_rfl

theorem one_of {l : List Value} {v : Value} {k : Nat} (h : (l.drop k).take 1 = [v]) : l[k]? = some v := by
  have := congrArg (·[0]?) h
  simpa [List.getElem?_take, List.getElem?_drop] using this

/-- A part that is read, cell by cell. -/
theorem part_of {H : Type} {enc : TypeId × Value → H} {W : World} {base fuel : Nat} {hd : Bool} {cs : List Value} {x : DataW H × List MemPlace} (h : DataW.trod enc Tryd.prog W base (fun _ => true) hd fuel 29 cs = some x) :
    ∃ p : Part, cs[0]? = some (.bool p.isText) ∧ cs[1]? = some (.int .u64 p.num) ∧ cs[2]? = some (.string ⟨p.text.toArray⟩) ∧ p.num < 18446744073709551616 := by
  obtain ⟨xs, n, _, _, _, hl, hf⟩ := DataW.trod_struct Tryd.underlying29 h
  have f0 := hf 0 _ rfl
  have f1 := hf 1 _ rfl
  have f2 := hf 2 _ rfl
  rw [List.getElem?_eq_getElem (by rw [hl]; decide)] at f0 f1 f2
  obtain ⟨b, e0, _⟩ := DataW.trod_bool Tryd.underlying4 f0
  obtain ⟨m, e1, _, hm⟩ := DataW.trod_int Tryd.underlying27 f1
  obtain ⟨s, e2, _, _⟩ := DataW.trod_string Tryd.underlying9 f2
  have c4 := cells4
  have c27 := cells27
  have c9 := cells9
  have g0 : (cs.drop 0).take 1 = [.bool b] := by rw [← e0]; simp [c4]
  have g1 : (cs.drop 1).take 1 = [.int .u64 m] := by rw [← e1]; simp [c27]
  have g2 : (cs.drop 2).take 1 = [.string s] := by rw [← e2]; simp [c9]
  have hb := bounds_u64 hm
  refine ⟨⟨b, m.toNat, s.data.toList⟩, one_of g0, ?_, one_of g2, by show m.toNat < _; omega⟩
  rw [one_of g1]
  have : m = (m.toNat : Int) := by omega
  rw [← this]

theorem argP_of {H : Type} {enc : TypeId × Value → H} {W : World} {base fuel : Nat} {hd : Bool} {a0 : Option Addr} {len cap : Nat} {d : DataW H} {p : List MemPlace}
    (hf : DataW.trod enc Tryd.prog W base (fun _ => true) hd fuel 22 [.slice a0 len cap] = some (d, p)) (hlt : ∀ x ∈ p, x.block < W.heap.size) : ∃ l, RdP W (.slice a0 len cap) l ∧ ∀ q ∈ l, q.num < 18446744073709551616 := by
  rcases Go.Deep.open_slice Tryd.underlying22 hf with ⟨hcs, _⟩ | ⟨a, len', cap', m, n, D, Pl, hcs, _, hl, hm, hmm, hx, hi⟩
  · simp at hcs
    obtain ⟨rfl, rfl, rfl⟩ := hcs
    exact ⟨[], RdP.nil W, by simp⟩
  · simp at hcs
    obtain ⟨rfl, rfl, rfl⟩ := hcs
    simp only [if_true] at hmm
    subst hmm
    simp only [Prod.mk.injEq] at hx
    obtain ⟨_, rfl⟩ := hx
    have key : ∀ i : Nat, ∃ q : Part, i < m → (W.cell? (a.add (i * 3)) = some (.bool q.isText) ∧ W.cell? ((a.add (i * 3)).add 1) = some (.int .u64 q.num) ∧ W.cell? ((a.add (i * 3)).add 2) = some (.string ⟨q.text.toArray⟩) ∧ q.num < 18446744073709551616) := by
      intro i
      by_cases him : i < m
      · obtain ⟨cs', hc, ht⟩ := hi i him
        rw [cells29] at hc
        obtain ⟨_, hcl, hat⟩ := World.cells?_some hc
        obtain ⟨q, h0, h1, h2, h3⟩ := part_of ht
        refine ⟨q, fun _ => ⟨?_, ?_, ?_, h3⟩⟩
        · have := hat 0 (by omega)
          rw [h0] at this
          simpa [Addr.add] using this
        · rw [hat 1 (by omega), h1]
        · rw [hat 2 (by omega), h2]
      · exact ⟨part0, fun h => absurd h him⟩
    obtain ⟨F, hF⟩ := Classical.axiomOfChoice key
    refine ⟨(List.range len).map F, ⟨some a, m, by simp, by simpa using hl, hm, fun h0 => ?_⟩, fun q hq => ?_⟩
    · have h0' : 0 < len := by simpa using h0
      obtain ⟨g, o, spot⟩ := a
      have hspot : spot = none := by
        have := World.cell?_spot (hF 0 (by omega)).1
        simpa [Addr.add] using this
      subst hspot
      refine ⟨g, o, rfl, hlt (.cell g o) (List.mem_append_left _ (MemPlace.mem_row.2 ⟨0, by rw [cells29]; omega, by simp⟩)), fun j q hq => ?_⟩
      rw [List.getElem?_map] at hq
      obtain ⟨i, hi1, rfl⟩ := Option.map_eq_some_iff.1 hq
      have hj : j < len := by simpa using (List.getElem?_eq_some_iff.1 hi1).1
      have e : i = j := by
        have := (List.getElem?_eq_some_iff.1 hi1).2
        simpa using this.symm
      subst e
      obtain ⟨k0, k1, k2, _⟩ := hF i (by omega)
      rw [add_at] at k0 k1 k2
      rw [add_at] at k1 k2
      exact ⟨k0, k1, k2⟩
    · obtain ⟨i, hi1, rfl⟩ := List.mem_map.1 hq
      exact (hF i (by have := List.mem_range.1 hi1; omega)).2.2.2
end Go.Proofs.YtmamolhclohniaaDoor
