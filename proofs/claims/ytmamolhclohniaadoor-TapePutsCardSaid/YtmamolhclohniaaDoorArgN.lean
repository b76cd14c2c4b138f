/- What an argument that is a slice of numbers reads as, for the laws' last steps. -/
import Derived.Test.YtmamolhclohniaaDoorArgT
import Derived.Test.YtmamolhclohniaaDoorPuts
import Derived.ChangeSlices
namespace Go.Proofs.YtmamolhclohniaaDoor
open Go.ChangeShapes Go.WideShapes Go.ChangeAt Go.RowKit

theorem argN_of {H : Type} {enc : TypeId × Value → H} {W : World} {base fuel : Nat} {hd : Bool} {a0 : Option Addr} {len cap : Nat} {d : DataW H} {p : List MemPlace}
    (hf : DataW.trod enc Tryd.prog W base (fun _ => true) hd fuel 23 [.slice a0 len cap] = some (d, p)) (hlt : ∀ x ∈ p, x.block < W.heap.size) : ∃ l, RdN W (.slice a0 len cap) l := by
  rcases open_ints Tryd.underlying23 Tryd.underlying27 cells27 hf with ⟨hcs, _⟩ | ⟨a, len', cap', zs, hcs, _, hl, hm, hz, hx, hcell, hws⟩
  · simp at hcs
    obtain ⟨rfl, rfl, rfl⟩ := hcs
    exact ⟨[], none, 0, rfl, Nat.le_refl _, Nat.zero_le _, fun h => absurd h (Nat.lt_irrefl _)⟩
  · simp at hcs
    obtain ⟨rfl, rfl, rfl⟩ := hcs
    simp only [Prod.mk.injEq] at hx
    obtain ⟨_, rfl⟩ := hx
    simp only [if_true] at hz
    have hlen : ((zs.take len).map Int.toNat).length = len := by simp; omega
    refine ⟨(zs.take len).map Int.toNat, some a, cap, by rw [hlen], by rw [hlen]; exact hl, hm, fun h0 => ?_⟩
    rw [hlen] at h0
    obtain ⟨g, o, spot⟩ := a
    have hspot : spot = none := by
      have := World.cell?_spot (hcell 0 (by omega))
      simpa [Addr.add] using this
    subst hspot
    refine ⟨g, o, rfl, hlt (.cell g o) (MemPlace.mem_row.2 ⟨0, by omega, by simp⟩), fun j m hs => ?_⟩
    rw [List.getElem?_map] at hs
    obtain ⟨z, hz1, rfl⟩ := Option.map_eq_some_iff.1 hs
    rw [List.getElem?_take] at hz1
    split at hz1
    · rename_i hj
      have hjl := (List.getElem?_eq_some_iff.1 hz1).1
      have hc := hcell j hjl
      rw [add_at] at hc
      have hb := bounds_u64 (hws z (List.mem_of_getElem? hz1))
      have he : ((z.toNat : Nat) : Int) = z := by omega
      rw [hc, he]
      simp [List.getD, hz1]
    · cases hz1
end Go.Proofs.YtmamolhclohniaaDoor
