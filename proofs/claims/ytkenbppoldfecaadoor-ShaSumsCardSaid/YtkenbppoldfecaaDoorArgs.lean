/- What arguments that are a slice of digests, a slice of texts, or a slice of bytes read as, for the laws' last steps. -/
import Derived.Test.YtkenbppoldfecaaDoorCommon
import Derived.Test.YtkenbppoldfecaaDoorTexts
import Derived.Deep.Slices
import Derived.SliceStrings
namespace Go.Proofs.YtkenbppoldfecaaDoor
open Go.ChangeShapes Go.WideShapes Go.ChangeAt Go.RowKit

theorem cells9 : Tryd.prog.cellsOf 9 = 1 := by kernel_rfl
theorem plus_at (g o j : Nat) : (⟨g, o, none⟩ : Addr).add j = ⟨g, o + j, none⟩ := by
  rcases Nat.eq_zero_or_pos j with rfl | hj
  · rfl
  · simp [Addr.add]
    omega

/-- A slice of digests. -/
theorem argD_of {H : Type} {enc : TypeId × Value → H} {W : World} {base fuel : Nat} {hd : Bool} {a0 : Option Addr} {len cap : Nat} {d : DataW H} {p : List MemPlace}
    (hf : DataW.trod enc Tryd.prog W base (fun _ => true) hd fuel 39 [.slice a0 len cap] = some (d, p)) (hlt : ∀ x ∈ p, x.block < W.heap.size) : ∃ ds, RdD W (.slice a0 len cap) ds := by
  rcases Go.Deep.open_slice Tryd.underlying39 hf with ⟨hcs, _⟩ | ⟨a, len', cap', m, n, D, Pl, hcs, _, hl, hm, hmm, hx, hi⟩
  · simp at hcs
    obtain ⟨rfl, rfl, rfl⟩ := hcs
    exact ⟨[], none, 0, rfl, Nat.le_refl _, Nat.zero_le _, by simp, fun h => absurd h (Nat.lt_irrefl _)⟩
  · simp at hcs
    obtain ⟨rfl, rfl, rfl⟩ := hcs
    simp only [if_true] at hmm
    subst hmm
    simp only [Prod.mk.injEq] at hx
    obtain ⟨_, rfl⟩ := hx
    have key : ∀ i : Nat, ∃ b : Bytes, b.length = 32 ∧ (i < m → ∀ (j : Nat) (v : Value), (bytesV b)[j]? = some v → W.cell? ((a.add (i * 32)).add j) = some v) := by
      intro i
      by_cases him : i < m
      · obtain ⟨cs', hc, ht⟩ := hi i him
        rw [cells27] at hc
        obtain ⟨_, hcl, hat⟩ := World.cells?_some hc
        obtain ⟨b, rfl, hb⟩ := digest_of ht
        refine ⟨b, hb, fun _ j v hv => ?_⟩
        have hj := (List.getElem?_eq_some_iff.1 hv).1
        rw [bytesV_len, hb] at hj
        rw [hat j (by omega), hv]
      · exact ⟨zero32, rfl, fun h => absurd h him⟩
    obtain ⟨F, hF⟩ := Classical.axiomOfChoice key
    refine ⟨(List.range len).map F, some a, m, by simp, by simpa using hl, hm, fun b hb => ?_, fun h0 => ?_⟩
    · obtain ⟨i, _, rfl⟩ := List.mem_map.1 hb
      exact (hF i).1
    · have h0' : 0 < len := by simpa using h0
      obtain ⟨g, o, spot⟩ := a
      have hz : ∃ v, (bytesV (F 0))[0]? = some v := ⟨_, List.getElem?_eq_getElem (by rw [bytesV_len, (hF 0).1]; omega)⟩
      obtain ⟨v, hv⟩ := hz
      have hspot : spot = none := by
        have := World.cell?_spot ((hF 0).2 (by omega) 0 v hv)
        simpa [Addr.add] using this
      subst hspot
      refine ⟨g, o, rfl, hlt (.cell g o) (List.mem_append_left _ (MemPlace.mem_row.2 ⟨0, by rw [cells27]; omega, by simp⟩)), fun j b hb i v hv => ?_⟩
      rw [List.getElem?_map] at hb
      obtain ⟨q, hq1, rfl⟩ := Option.map_eq_some_iff.1 hb
      have hj : j < len := by simpa using (List.getElem?_eq_some_iff.1 hq1).1
      have e : q = j := by
        have := (List.getElem?_eq_some_iff.1 hq1).2
        simpa using this.symm
      subst e
      have := (hF q).2 (by omega) i v hv
      rw [plus_at, plus_at] at this
      exact this

/-- A slice of texts. -/
theorem argT_of {H : Type} {enc : TypeId × Value → H} {W : World} {base fuel : Nat} {hd : Bool} {a0 : Option Addr} {len cap : Nat} {d : DataW H} {p : List MemPlace}
    (hf : DataW.trod enc Tryd.prog W base (fun _ => true) hd fuel 40 [.slice a0 len cap] = some (d, p)) (hlt : ∀ x ∈ p, x.block < W.heap.size) : ∃ l : List ByteArray, Rd W (.slice a0 len cap) (l.map Value.string) ∧ ∀ s ∈ l, s.size ≤ maxLen := by
  rcases open_strings Tryd.underlying40 Tryd.underlying9 cells9 hf with ⟨hcs, _⟩ | ⟨a, len', cap', ss, hcs, _, hl, hm, hz, hx, hcell, hws⟩
  · simp at hcs
    obtain ⟨rfl, rfl, rfl⟩ := hcs
    exact ⟨[], Rd.nil W, by simp⟩
  · simp at hcs
    obtain ⟨rfl, rfl, rfl⟩ := hcs
    simp only [Prod.mk.injEq] at hx
    obtain ⟨_, rfl⟩ := hx
    simp only [if_true] at hz
    have hlen : ((ss.take len).map Value.string).length = len := by simp; omega
    refine ⟨ss.take len, ⟨some a, cap, by rw [hlen], by rw [hlen]; exact hl, hm, (fun h => by cases h), fun h0 => ?_⟩, fun s hs => hws s (List.mem_of_mem_take hs)⟩
    rw [hlen] at h0
    obtain ⟨g, o, spot⟩ := a
    have hspot : spot = none := by
      have := World.cell?_spot (hcell 0 (by omega))
      simpa [Addr.add] using this
    subst hspot
    refine ⟨g, o, rfl, hlt (.cell g o) (MemPlace.mem_row.2 ⟨0, by omega, by simp⟩), fun j x hx => ?_⟩
    rw [List.getElem?_map] at hx
    obtain ⟨s, hs, rfl⟩ := Option.map_eq_some_iff.1 hx
    rw [List.getElem?_take] at hs
    split at hs
    · rename_i hj
      have hjl := (List.getElem?_eq_some_iff.1 hs).1
      have := hcell j hjl
      rw [plus_at] at this
      rw [this]
      simp [List.getD, hs]
    · cases hs
end Go.Proofs.YtkenbppoldfecaaDoor
