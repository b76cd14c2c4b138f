/- What an argument that is a slice of texts reads as, for the laws' last steps. -/
import Derived.Test.YtiakedoebecgpaaDoorWCommon
import Derived.Test.YtiakedoebecgpaaDoorRefC
import Derived.SliceStrings
namespace Go.Proofs.YtiakedoebecgpaaDoor
open Go.ChangeShapes Go.WideShapes Go.ChangeAt Go.RowKit

theorem argR_of {H : Type} {enc : TypeId × Value → H} {W : World} {base fuel : Nat} {hd : Bool} {a0 : Option Addr} {len cap : Nat} {d : DataW H} {p : List MemPlace}
    (hf : DataW.trod enc Tryd.prog W base (fun _ => true) hd fuel 46 [.slice a0 len cap] = some (d, p)) (hlt : ∀ x ∈ p, x.block < W.heap.size) : ∃ l, RdS W (.slice a0 len cap) l ∧ ∀ x ∈ l, x.length ∈ d.weights Tryd.prog 46 := by
  rcases open_strings Tryd.underlying46 Tryd.underlying9 cells9 hf with ⟨hcs, _⟩ | ⟨a, len', cap', ss, hcs, _, hl, hm, hz, hx, hcell, _⟩
  · simp at hcs
    obtain ⟨rfl, rfl, rfl⟩ := hcs
    exact ⟨[], RdS.nil W, fun x hx => by cases hx⟩
  · simp at hcs
    obtain ⟨rfl, rfl, rfl⟩ := hcs
    simp only [Prod.mk.injEq] at hx
    obtain ⟨hd0, rfl⟩ := hx
    simp only [if_true] at hz
    have hlen : ((ss.take len).map fun s => s.data.toList).length = len := by simp; omega
    refine ⟨(ss.take len).map fun s => s.data.toList, ⟨some a, cap, by rw [hlen], by rw [hlen]; exact hl, hm, fun h0 => ?_⟩, fun x hx => ?_⟩
    · rw [hlen] at h0
      obtain ⟨g, o, spot⟩ := a
      have hspot : spot = none := by
        have := World.cell?_spot (hcell 0 (by omega))
        simpa [Addr.add] using this
      subst hspot
      refine ⟨g, o, rfl, hlt (.cell g o) (MemPlace.mem_row.2 ⟨0, by omega, by simp⟩), fun j x hs => ?_⟩
      rw [List.getElem?_map] at hs
      obtain ⟨s, hs2, hsx⟩ := Option.map_eq_some_iff.1 hs
      subst hsx
      rw [List.getElem?_take] at hs2
      split at hs2
      · have hjl := (List.getElem?_eq_some_iff.1 hs2).1
        have := hcell j hjl
        rw [addr_add] at this
        rw [this]
        unfold encS
        rw [ba_toArray]
        simp [List.getD, hs2]
      · cases hs2
    · obtain ⟨s, hs, rfl⟩ := List.mem_map.1 hx
      rw [hd0]
      simp only [DataW.weights, Tryd.underlying46, List.mem_cons, List.mem_append]
      exact .inr (.inl (weights_all (d := .lit (.string s.data.toList)) (List.mem_map.2 ⟨s, hs, rfl⟩) _ (by simp [DataW.weights])))
end Go.Proofs.YtiakedoebecgpaaDoor
