/- What an argument that is a slice of versions reads as, for the laws' last steps. -/
import Derived.Test.YtjekibhaabkecaaDoorCommon
import Derived.Test.YtjekibhaabkecaaDoorTells
import Derived.Deep.Slices
namespace Go.Proofs.YtjekibhaabkecaaDoor
open Go.ChangeShapes Go.WideShapes Go.ChangeAt Go.RowKit

theorem addr_add (g o j : Nat) : (⟨g, o, none⟩ : Addr).add j = ⟨g, o + j, none⟩ := by
  unfold Addr.add
  split <;> simp_all
set_option maxRecDepth 100000 in
theorem argV_of {H : Type} {enc : TypeId × Value → H} {W : World} {base fuel : Nat} {hd : Bool} {a0 : Option Addr} {len cap : Nat} {d : DataW H} {p : List MemPlace}
    (hf : DataW.trod enc Tryd.prog W base (fun _ => true) hd fuel 33 [.slice a0 len cap] = some (d, p)) (hlt : ∀ x ∈ p, x.block < W.heap.size) : ∃ l, RdV W (.slice a0 len cap) l := by
  rcases Go.Deep.open_slice Tryd.underlying33 hf with ⟨hcs, _⟩ | ⟨a, len', cap', m, n, D, Pl, hcs, _, hl, hm, hmm, hx, hi⟩
  · simp at hcs
    obtain ⟨rfl, rfl, rfl⟩ := hcs
    exact ⟨[], RdV.nil W⟩
  · simp at hcs
    obtain ⟨rfl, rfl, rfl⟩ := hcs
    simp only [if_true] at hmm
    subst hmm
    simp only [Prod.mk.injEq] at hx
    obtain ⟨_, rfl⟩ := hx
    have key : ∀ i : Nat, ∃ v : Ver, i < m → ∀ (j : Nat), j < 7 → W.cell? ((a.add (i * 7)).add j) = v.cells[j]? := by
      intro i
      by_cases him : i < m
      · obtain ⟨cs', hc, ht⟩ := hi i him
        rw [cells26] at hc
        obtain ⟨_, hcl, hat⟩ := World.cells?_some hc
        obtain ⟨v, rfl⟩ := ver_of ht
        exact ⟨v, fun _ j hj => hat j (by omega)⟩
      · exact ⟨Ver.zero, fun h => absurd h him⟩
    obtain ⟨F, hF⟩ := Classical.axiomOfChoice key
    refine ⟨(List.range len).map F, some a, m, by simp, by simpa using hl, hm, fun h0 => ?_⟩
    have h0' : 0 < len := by simpa using h0
    obtain ⟨g, o, spot⟩ := a
    have hspot : spot = none := by
      have e := hF 0 (by omega) 0 (by omega)
      have := World.cell?_spot (v := .int .i64 (F 0).n0) (e.trans rfl)
      simpa [Addr.add] using this
    subst hspot
    refine ⟨g, o, rfl, hlt (.cell g o) (List.mem_append_left _ (MemPlace.mem_row.2 ⟨0, by rw [cells26]; omega, by simp⟩)), fun j v hv => ?_⟩
    rw [List.getElem?_map] at hv
    obtain ⟨i, hi1, rfl⟩ := Option.map_eq_some_iff.1 hv
    have hj : j < len := by simpa using (List.getElem?_eq_some_iff.1 hi1).1
    have e : i = j := by
      have := (List.getElem?_eq_some_iff.1 hi1).2
      simpa using this.symm
    subst e
    have hk := hF i (by omega)
    have at' : ∀ t : Nat, ((⟨g, o, none⟩ : Addr).add (i * 7)).add t = ⟨g, o + i * 7 + t, none⟩ := fun t => by rw [addr_add, addr_add]
    refine ⟨?_, ?_, ?_, ?_, ?_, ?_, ?_⟩
    · have := hk 0 (by omega); rw [at'] at this; exact this
    · have := hk 1 (by omega); rw [at'] at this; exact this
    · have := hk 2 (by omega); rw [at'] at this; exact this
    · have := hk 3 (by omega); rw [at'] at this; exact this
    · have := hk 4 (by omega); rw [at'] at this; exact this
    · have := hk 5 (by omega); rw [at'] at this; exact this
    · have := hk 6 (by omega); rw [at'] at this; exact this
end Go.Proofs.YtjekibhaabkecaaDoor
