/- What an argument that is a slice of bytes reads as, for the laws' last steps. -/
import Derived.Test.YtkenbppoldfecaaDoorArgs
import Derived.ChangeSlices
namespace Go.Proofs.YtkenbppoldfecaaDoor
open Go.ChangeShapes Go.WideShapes Go.ChangeAt Go.RowKit

theorem argB_of {H : Type} {enc : TypeId × Value → H} {W : World} {base fuel : Nat} {hd : Bool} {a0 : Option Addr} {len cap : Nat} {d : DataW H} {p : List MemPlace}
    (hf : DataW.trod enc Tryd.prog W base (fun _ => true) hd fuel 24 [.slice a0 len cap] = some (d, p)) (hlt : ∀ x ∈ p, x.block < W.heap.size) : ∃ l : Bytes, Rd W (.slice a0 len cap) (bytesV l) := by
  rcases open_ints Tryd.underlying24 Tryd.underlying5 cells5 hf with ⟨hcs, _⟩ | ⟨a, len', cap', zs, hcs, _, hl, hm, hz, hx, hcell, hws⟩
  · simp at hcs
    obtain ⟨rfl, rfl, rfl⟩ := hcs
    exact ⟨[], Rd.nil W⟩
  · simp at hcs
    obtain ⟨rfl, rfl, rfl⟩ := hcs
    simp only [Prod.mk.injEq] at hx
    obtain ⟨_, rfl⟩ := hx
    simp only [if_true] at hz
    have hlen : (bytesV ((zs.take len).map fun z => UInt8.ofNat z.toNat)).length = len := by rw [bytesV_len]; simp; omega
    refine ⟨(zs.take len).map fun z => UInt8.ofNat z.toNat, some a, cap, by rw [hlen], by rw [hlen]; exact hl, hm, (fun h => by cases h), fun h0 => ?_⟩
    rw [hlen] at h0
    obtain ⟨g, o, spot⟩ := a
    have hspot : spot = none := by
      have := World.cell?_spot (hcell 0 (by omega))
      simpa [Addr.add] using this
    subst hspot
    refine ⟨g, o, rfl, hlt (.cell g o) (MemPlace.mem_row.2 ⟨0, by omega, by simp⟩), fun j x hs => ?_⟩
    unfold bytesV at hs
    rw [List.map_map, List.getElem?_map] at hs
    obtain ⟨z, hz1, rfl⟩ := Option.map_eq_some_iff.1 hs
    rw [List.getElem?_take] at hz1
    split at hz1
    · rename_i hj
      have hjl := (List.getElem?_eq_some_iff.1 hz1).1
      have hc := hcell j hjl
      rw [plus_at] at hc
      obtain ⟨c, hcz⟩ := byte_wf (hws z (List.mem_of_getElem? hz1))
      rw [hc]
      simp [List.getD, hz1, hcz]
    · cases hz1
end Go.Proofs.YtkenbppoldfecaaDoor
