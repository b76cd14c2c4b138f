/- What an argument that is a slice of texts reads as, for the laws' last steps. -/
import Derived.Test.YtmamolhclohniaaDoorArgs
import Derived.Test.YtmamolhclohniaaDoorTakesLaw
import Derived.SliceStrings
namespace Go.Proofs.YtmamolhclohniaaDoor
open Go.ChangeShapes Go.WideShapes Go.ChangeAt Go.RowKit

theorem argT_of {H : Type} {enc : TypeId × Value → H} {W : World} {base fuel : Nat} {hd : Bool} {a0 : Option Addr} {len cap : Nat} {d : DataW H} {p : List MemPlace}
    (hf : DataW.trod enc Tryd.prog W base (fun _ => true) hd fuel 24 [.slice a0 len cap] = some (d, p)) (hlt : ∀ x ∈ p, x.block < W.heap.size) : ∃ l, RdT W (.slice a0 len cap) l := by
  rcases open_strings Tryd.underlying24 Tryd.underlying9 cells9 hf with ⟨hcs, _⟩ | ⟨a, len', cap', ss, hcs, _, hl, hm, hz, hx, hcell, hws⟩
  · simp at hcs
    obtain ⟨rfl, rfl, rfl⟩ := hcs
    exact ⟨[], none, 0, rfl, Nat.le_refl _, Nat.zero_le _, by simp, fun h => absurd h (Nat.lt_irrefl _)⟩
  · simp at hcs
    obtain ⟨rfl, rfl, rfl⟩ := hcs
    simp only [Prod.mk.injEq] at hx
    obtain ⟨_, rfl⟩ := hx
    simp only [if_true] at hz
    have hlen : (ss.take len).length = len := by simp; omega
    refine ⟨ss.take len, some a, cap, by rw [hlen], by rw [hlen]; exact hl, hm, fun s hs => hws s (List.mem_of_mem_take hs), fun h0 => ?_⟩
    rw [hlen] at h0
    obtain ⟨g, o, spot⟩ := a
    have hspot : spot = none := by
      have := World.cell?_spot (hcell 0 (by omega))
      simpa [Addr.add] using this
    subst hspot
    refine ⟨g, o, rfl, hlt (.cell g o) (MemPlace.mem_row.2 ⟨0, by omega, by simp⟩), fun j s hs => ?_⟩
    rw [List.getElem?_take] at hs
    split at hs
    · rename_i hj
      have hjl := (List.getElem?_eq_some_iff.1 hs).1
      have := hcell j hjl
      rw [add_at] at this
      rw [this]
      simp [List.getD, hs]
    · cases hs
end Go.Proofs.YtmamolhclohniaaDoor
