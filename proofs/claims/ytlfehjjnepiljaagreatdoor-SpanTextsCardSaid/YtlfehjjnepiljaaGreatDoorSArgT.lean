/- What arguments that are slices of spans and slices of texts read as, for the last step of SpanTexts. -/
import Derived.Test.YtlfehjjnepiljaaGreatDoorSTx4
import Derived.Deep.Slices
namespace Go.Proofs.YtlfehjjnepiljaaGreatDoor
open Go.ChangeShapes Go.WideShapes Go.ChangeAt Go.RowKit Go.Joins
open Go.ChangeMaps (open_string)

def RdL (w : World) (v : Value) (L : List (List (List Bd))) : Prop :=
  ∃ vs : List Value, RdF w v vs.length vs ∧ vs.length = L.length ∧ ∀ (i : Nat) (x : Value) (l : List (List Bd)), vs[i]? = some x → L[i]? = some l → RdR w x l
theorem RdL.on {w w' : World} {v : Value} {L : List (List (List Bd))} (h : RdL w v L) (hb : Below w.heap.size w w') : RdL w' v L := by
  obtain ⟨vs, h1, h2, h3⟩ := h
  exact ⟨vs, h1.on hb, h2, fun i x l hv hl => (h3 i x l hv hl).on hb⟩
theorem RdL.form {w : World} {v : Value} {L : List (List (List Bd))} (h : RdL w v L) : ∃ a c, v = .slice a L.length c ∧ L.length ≤ maxLen := by
  obtain ⟨vs, ⟨a, c, h1, h2, h3, h4⟩, hl, hr⟩ := h
  exact ⟨a, c, by rw [h1, hl], by omega⟩
theorem RdL.at {w : World} {a : Option Addr} {n c : Nat} {L : List (List (List Bd))} (h : RdL w (.slice a n c) L) {i : Nat} {l : List (List Bd)} (hl : L[i]? = some l) : ∃ g o x, a = some ⟨g, o, none⟩ ∧ w.cell? ⟨g, o + i, none⟩ = some x ∧ g < w.heap.size ∧ RdR w x l := by
  obtain ⟨vs, ⟨a, c, h1, h2, h3, h4⟩, hn, hr⟩ := h
  cases h1
  have hi := (List.getElem?_eq_some_iff.1 hl).1
  obtain ⟨g, o, e, hg, hc⟩ := h4 (by omega)
  have hv : vs[i]? = some vs[i] := List.getElem?_eq_getElem (by omega)
  exact ⟨g, o, _, e, hc i _ hv, hg, hr i _ l hv hl⟩
def RdT (w : World) (v : Value) (T : List ByteArray) : Prop := RdF w v T.length (T.map .string)
theorem RdT.on {w w' : World} {v : Value} {T : List ByteArray} (h : RdT w v T) (hb : Below w.heap.size w w') : RdT w' v T := RdF.on h hb
theorem RdT.form {w : World} {v : Value} {T : List ByteArray} (h : RdT w v T) : ∃ a c, v = .slice a T.length c ∧ T.length ≤ maxLen := by
  obtain ⟨a, c, h1, h2, h3, h4⟩ := h
  exact ⟨a, c, h1, by omega⟩
theorem RdT.at {w : World} {a : Option Addr} {n c : Nat} {T : List ByteArray} (h : RdT w (.slice a n c) T) {i : Nat} {s : ByteArray} (hs : T[i]? = some s) : ∃ g o, a = some ⟨g, o, none⟩ ∧ w.cell? ⟨g, o + i, none⟩ = some (.string s) ∧ g < w.heap.size := by
  obtain ⟨a, c, h1, h2, h3, h4⟩ := h
  cases h1
  have hi := (List.getElem?_eq_some_iff.1 hs).1
  obtain ⟨g, o, e, hg, hc⟩ := h4 (by omega)
  exact ⟨g, o, e, hc i _ (by rw [List.getElem?_map, hs]; rfl), hg⟩

set_option maxRecDepth 100000 in
theorem argL_of {H : Type} {enc : TypeId × Value → H} {W : World} {base fuel : Nat} {hd : Bool} {v : Value} {d : DataW H} {p : List MemPlace}
    (hf : DataW.trod enc Tryz.prog W base (fun _ => true) hd fuel 22 [v] = some (d, p)) (hlt : ∀ x ∈ p, x.block < W.heap.size) : ∃ L, RdL W v L := by
  rcases Go.Deep.open_slice1 Tryz.underlying22 cells27 hf with ⟨hcs, _⟩ | ⟨a, len, cap, m, n, V, D, Pl, hcs, _, hl, hm, hmm, hx, hc⟩
  · simp at hcs
    subst hcs
    exact ⟨[], [], RdF.nil W, rfl, fun i v l h => by cases h⟩
  · simp at hcs
    subst hcs
    simp only [if_true] at hmm
    subst hmm
    simp only [Prod.mk.injEq] at hx
    obtain ⟨_, rfl⟩ := hx
    have key : ∀ i : Nat, ∃ l : List (List Bd), i < m → RdR W (V i) l := by
      intro i
      by_cases him : i < m
      · obtain ⟨x, l, e, h⟩ := argS_of (cs := #[V i]) (hc i him).2 (fun x hx => hlt x (List.mem_append_right _ (List.mem_flatMap.2 ⟨i, List.mem_range.2 him, hx⟩)))
        cases e
        exact ⟨l, fun _ => h⟩
      · exact ⟨[], fun h => absurd h him⟩
    obtain ⟨F, hF⟩ := Classical.axiomOfChoice key
    refine ⟨(List.range len).map F, (List.range len).map V, ⟨some a, m, by simp, by simpa using hl, hm, fun h0 => ?_⟩, by simp, fun i v l hv hl2 => ?_⟩
    · have h0' : 0 < len := by simpa using h0
      obtain ⟨g, o, spot⟩ := a
      have hspot : spot = none := by
        have := World.cell?_spot (hc 0 (by omega)).1
        simpa [Addr.add] using this
      subst hspot
      refine ⟨g, o, rfl, hlt (.cell g o) (List.mem_append_left _ (MemPlace.mem_row.2 ⟨0, by omega, by simp⟩)), fun j u hu => ?_⟩
      rw [List.getElem?_map] at hu
      obtain ⟨i, hi1, rfl⟩ := Option.map_eq_some_iff.1 hu
      have hql : j < len := by simpa using (List.getElem?_eq_some_iff.1 hi1).1
      have e : i = j := by
        have := (List.getElem?_eq_some_iff.1 hi1).2
        simpa using this.symm
      subst e
      have := (hc i (by omega)).1
      rwa [addr_add] at this
    · rw [List.getElem?_map] at hv hl2
      obtain ⟨j, hj, rfl⟩ := Option.map_eq_some_iff.1 hv
      obtain ⟨j2, hj2, rfl⟩ := Option.map_eq_some_iff.1 hl2
      rw [hj] at hj2
      cases hj2
      have hql : i < len := by simpa using (List.getElem?_eq_some_iff.1 hj).1
      have e : j = i := by
        have := (List.getElem?_eq_some_iff.1 hj).2
        simpa using this.symm
      subst e
      exact hF j (by omega)
theorem is_string {H : Type} {enc : TypeId × Value → H} {W : World} {base fuel : Nat} {hd : Bool} {v : Value} {x : DataW H × List MemPlace} (h : DataW.trod enc Tryz.prog W base (fun _ => true) hd fuel 9 [v] = some x) : ∃ s, v = .string s := by
  cases fuel with
  | zero => simp [DataW.trod] at h
  | succ f =>
    unfold DataW.trod at h
    simp only [Tryz.underlying9] at h
    cases v <;> first | exact ⟨_, rfl⟩ | (simp at h)
set_option maxRecDepth 100000 in
theorem argT_of {H : Type} {enc : TypeId × Value → H} {W : World} {base fuel : Nat} {hd : Bool} {v : Value} {d : DataW H} {p : List MemPlace}
    (hf : DataW.trod enc Tryz.prog W base (fun _ => true) hd fuel 23 [v] = some (d, p)) (hlt : ∀ x ∈ p, x.block < W.heap.size) : ∃ T, RdT W v T := by
  rcases Go.Deep.open_slice1 Tryz.underlying23 cells9 hf with ⟨hcs, _⟩ | ⟨a, len, cap, m, n, V, D, Pl, hcs, _, hl, hm, hmm, hx, hc⟩
  · simp at hcs
    subst hcs
    exact ⟨[], RdF.nil W⟩
  · simp at hcs
    subst hcs
    simp only [if_true] at hmm
    subst hmm
    simp only [Prod.mk.injEq] at hx
    obtain ⟨_, rfl⟩ := hx
    have key : ∀ i : Nat, ∃ s : ByteArray, i < m → V i = .string s := by
      intro i
      by_cases him : i < m
      · obtain ⟨s, h⟩ := is_string (hc i him).2
        exact ⟨s, fun _ => h⟩
      · exact ⟨⟨#[]⟩, fun h => absurd h him⟩
    obtain ⟨F, hF⟩ := Classical.axiomOfChoice key
    refine ⟨(List.range len).map F, some a, m, by simp, by simpa using hl, hm, fun h0 => ?_⟩
    have h0' : 0 < len := by simpa using h0
    obtain ⟨g, o, spot⟩ := a
    have hspot : spot = none := by
      have := World.cell?_spot (hc 0 (by omega)).1
      simpa [Addr.add] using this
    subst hspot
    refine ⟨g, o, rfl, hlt (.cell g o) (List.mem_append_left _ (MemPlace.mem_row.2 ⟨0, by omega, by simp⟩)), fun j u hu => ?_⟩
    rw [List.getElem?_map, List.getElem?_map, Option.map_map] at hu
    obtain ⟨i, hi1, rfl⟩ := Option.map_eq_some_iff.1 hu
    have hql : j < len := by simpa using (List.getElem?_eq_some_iff.1 hi1).1
    have e : i = j := by
      have := (List.getElem?_eq_some_iff.1 hi1).2
      simpa using this.symm
    subst e
    have h1 := (hc i (by omega)).1
    rw [hF i (by omega)] at h1
    rwa [addr_add] at h1
end Go.Proofs.YtlfehjjnepiljaaGreatDoor
