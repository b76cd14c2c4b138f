/- What an argument that is a slice of numbers reads as, for the laws' last steps. -/
import Derived.Test.YtkenbppoldfecaaDoorArgB
namespace Go.Proofs.YtkenbppoldfecaaDoor
open Go.ChangeShapes Go.WideShapes Go.ChangeAt Go.RowKit

theorem cells3 : Tryd.prog.cellsOf 3 = 1 := by kernel_rfl
theorem argI_of {H : Type} {enc : TypeId × Value → H} {W : World} {base fuel : Nat} {hd : Bool} {a0 : Option Addr} {len cap : Nat} {d : DataW H} {p : List MemPlace}
    (hf : DataW.trod enc Tryd.prog W base (fun _ => true) hd fuel 49 [.slice a0 len cap] = some (d, p)) (hlt : ∀ x ∈ p, x.block < W.heap.size) : ∃ l : List Int, Rd W (.slice a0 len cap) (l.map (Value.int .i64)) := by
  rcases open_ints Tryd.underlying49 Tryd.underlying3 cells3 hf with ⟨hcs, _⟩ | ⟨a, len', cap', zs, hcs, _, hl, hm, hz, hx, hcell, _⟩
  · simp at hcs
    obtain ⟨rfl, rfl, rfl⟩ := hcs
    exact ⟨[], Rd.nil W⟩
  · simp at hcs
    obtain ⟨rfl, rfl, rfl⟩ := hcs
    simp only [Prod.mk.injEq] at hx
    obtain ⟨_, rfl⟩ := hx
    simp only [if_true] at hz
    have hlen : ((zs.take len).map (Value.int .i64)).length = len := by simp; omega
    refine ⟨zs.take len, some a, cap, by rw [hlen], by rw [hlen]; exact hl, hm, (fun h => by cases h), fun h0 => ?_⟩
    rw [hlen] at h0
    obtain ⟨g, o, spot⟩ := a
    have hspot : spot = none := by
      have := World.cell?_spot (hcell 0 (by omega))
      simpa [Addr.add] using this
    subst hspot
    refine ⟨g, o, rfl, hlt (.cell g o) (MemPlace.mem_row.2 ⟨0, by omega, by simp⟩), fun j x hs => ?_⟩
    rw [List.getElem?_map] at hs
    obtain ⟨z, hz1, rfl⟩ := Option.map_eq_some_iff.1 hs
    rw [List.getElem?_take] at hz1
    split at hz1
    · rename_i hj
      have hjl := (List.getElem?_eq_some_iff.1 hz1).1
      have hc := hcell j hjl
      rw [plus_at] at hc
      rw [hc]
      simp [List.getD, hz1]
    · cases hz1
end Go.Proofs.YtkenbppoldfecaaDoor
