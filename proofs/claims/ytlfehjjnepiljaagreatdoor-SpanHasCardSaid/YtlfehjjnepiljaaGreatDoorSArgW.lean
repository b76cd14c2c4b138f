/- What an argument that is a slice of versions reads as, and that these lie in memory as they may, for the last steps of laws that keep them as keys. -/
import Derived.Test.YtlfehjjnepiljaaGreatDoorSKey
import Derived.Deep.Slices
namespace Go.Proofs.YtlfehjjnepiljaaGreatDoor
open Go.ChangeShapes Go.WideShapes Go.ChangeAt Go.RowKit Go.Joins

theorem int_fits {H : Type} {enc : TypeId × Value → H} {W : World} {base fuel : Nat} {hd : Bool} {n : Int} {x : DataW H × List MemPlace} (h : DataW.trod enc Tryz.prog W base (fun _ => true) hd fuel 3 [.int .i64 n] = some x) : (Lit.int .i64 n).wf = true := by
  cases fuel with
  | zero => simp [DataW.trod] at h
  | succ f =>
    unfold DataW.trod at h
    simp only [Tryz.underlying3] at h
    split at h
    · rename_i h1; exact h1.2
    · cases h
theorem text_fits {H : Type} {enc : TypeId × Value → H} {W : World} {base fuel : Nat} {hd : Bool} {s : ByteArray} {x : DataW H × List MemPlace} (h : DataW.trod enc Tryz.prog W base (fun _ => true) hd fuel 9 [.string s] = some x) : s.size ≤ maxLen := by
  cases fuel with
  | zero => simp [DataW.trod] at h
  | succ f =>
    unfold DataW.trod at h
    simp only [Tryz.underlying9] at h
    split at h
    · assumption
    · cases h
set_option maxRecDepth 100000 in
theorem ver_fits {H : Type} {enc : TypeId × Value → H} {W : World} {base fuel : Nat} {hd : Bool} {v : Ver} {x : DataW H × List MemPlace} (h : DataW.trod enc Tryz.prog W base (fun _ => true) hd fuel 45 v.cells = some x) : v.Fits := by
  obtain ⟨y0, y1, y2, y3, n, _, hl, t0, t1, t2, t3⟩ := trod_struct4 Tryz.underlying45 h
  rw [cells43] at t0
  rw [cells3] at t1 t3
  rw [cells9] at t2
  obtain ⟨xs, m, _, _, hl0, hx, hi⟩ := DataW.trod_array Tryz.underlying43 t0
  have e0 : (v.cells.drop 0).take 4 = [.int .i64 v.n0, .int .i64 v.n1, .int .i64 v.n2, .int .i64 v.n3] := rfl
  have e1 : (v.cells.drop 4).take 1 = [.int .i64 v.many] := rfl
  have e2 : (v.cells.drop 5).take 1 = [.string v.tag] := rfl
  have e3 : (v.cells.drop 6).take 1 = [.int .i64 v.step] := rfl
  rw [e1] at t1
  rw [e2] at t2
  rw [e3] at t3
  rw [e0] at hi hl0
  rw [cells43] at hl0
  have one : ∀ i (n : Int), i < 4 → ([Value.int .i64 v.n0, .int .i64 v.n1, .int .i64 v.n2, .int .i64 v.n3].drop i).take 1 = [.int .i64 n] → (Lit.int .i64 n).wf = true := fun i n h4 e => by
    have h1 := hi i h4
    rw [cells3, Nat.mul_one, e, List.getElem?_eq_getElem (by omega)] at h1
    exact int_fits h1
  exact ⟨one 0 _ (by omega) rfl, one 1 _ (by omega) rfl, one 2 _ (by omega) rfl, one 3 _ (by omega) rfl, int_fits t1, text_fits t2, int_fits t3⟩

set_option maxRecDepth 100000 in
theorem argW_of {H : Type} {enc : TypeId × Value → H} {W : World} {base fuel : Nat} {hd : Bool} {a0 : Option Addr} {len cap : Nat} {d : DataW H} {p : List MemPlace}
    (hf : DataW.trod enc Tryz.prog W base (fun _ => true) hd fuel 41 [.slice a0 len cap] = some (d, p)) (hlt : ∀ x ∈ p, x.block < W.heap.size) : ∃ l, RdV W (.slice a0 len cap) l ∧ ∀ v ∈ l, v.Fits := by
  rcases Go.Deep.open_slice Tryz.underlying41 hf with ⟨hcs, _⟩ | ⟨a, len', cap', m, n, D, Pl, hcs, _, hl, hm, hmm, hx, hi⟩
  · simp at hcs
    obtain ⟨rfl, rfl, rfl⟩ := hcs
    exact ⟨[], RdV.nil W, fun v hv => (by cases hv)⟩
  · simp at hcs
    obtain ⟨rfl, rfl, rfl⟩ := hcs
    simp only [if_true] at hmm
    subst hmm
    simp only [Prod.mk.injEq] at hx
    obtain ⟨_, rfl⟩ := hx
    have key : ∀ i : Nat, ∃ v : Ver, v.Fits ∧ (i < m → ∀ (j : Nat), j < 7 → W.cell? ((a.add (i * 7)).add j) = v.cells[j]?) := by
      intro i
      by_cases him : i < m
      · obtain ⟨cs', hc, ht⟩ := hi i him
        rw [cells45] at hc
        obtain ⟨_, hcl, hat⟩ := World.cells?_some hc
        obtain ⟨v, rfl⟩ := ver_of ht
        exact ⟨v, ver_fits ht, fun _ j hj => hat j (by omega)⟩
      · exact ⟨Ver.zero, ⟨by decide, by decide, by decide, by decide, by decide, by decide, by decide⟩, fun h => absurd h him⟩
    obtain ⟨F, hF⟩ := Classical.axiomOfChoice key
    refine ⟨(List.range len).map F, ⟨some a, m, by simp, by simpa using hl, hm, fun h0 => ?_⟩, fun v hv => (by obtain ⟨i, _, rfl⟩ := List.mem_map.1 hv; exact (hF i).1)⟩
    have h0' : 0 < len := by simpa using h0
    obtain ⟨g, o, spot⟩ := a
    have hspot : spot = none := by
      have e := (hF 0).2 (by omega) 0 (by omega)
      have := World.cell?_spot (v := .int .i64 (F 0).n0) (e.trans rfl)
      simpa [Addr.add] using this
    subst hspot
    refine ⟨g, o, rfl, hlt (.cell g o) (List.mem_append_left _ (MemPlace.mem_row.2 ⟨0, by rw [cells45]; omega, by simp⟩)), fun j v hv => ?_⟩
    rw [List.getElem?_map] at hv
    obtain ⟨i, hi1, rfl⟩ := Option.map_eq_some_iff.1 hv
    have hj : j < len := by simpa using (List.getElem?_eq_some_iff.1 hi1).1
    have e : i = j := by
      have := (List.getElem?_eq_some_iff.1 hi1).2
      simpa using this.symm
    subst e
    have hk := (hF i).2 (by omega)
    have at' : ∀ t : Nat, ((⟨g, o, none⟩ : Addr).add (i * 7)).add t = ⟨g, o + i * 7 + t, none⟩ := fun t => by rw [addr_add, addr_add]
    refine ⟨?_, ?_, ?_, ?_, ?_, ?_, ?_⟩
    · have := hk 0 (by omega); rw [at'] at this; exact this
    · have := hk 1 (by omega); rw [at'] at this; exact this
    · have := hk 2 (by omega); rw [at'] at this; exact this
    · have := hk 3 (by omega); rw [at'] at this; exact this
    · have := hk 4 (by omega); rw [at'] at this; exact this
    · have := hk 5 (by omega); rw [at'] at this; exact this
    · have := hk 6 (by omega); rw [at'] at this; exact this
end Go.Proofs.YtlfehjjnepiljaaGreatDoor
