/- Proved here: what arguments that are rows of claims, of leaves, and of rows of leaves read as, for the laws' last steps. -/
import Derived.Test.YtgmplpfbhcdofaaCSame
import Derived.ProofKit
import Derived.OpenShut
import Derived.ShutString
import Derived.SizedLaws
import Derived.Deep.Slices
import Derived.Deep.Strs
namespace Go.Proofs.Ytgmplpfbhcdofaa
open Go.ChangeShapes Go.WideShapes Go.ChangeAt Go.RowKit

theorem own0 : ownKnob Try.prog.godebug = none := by kernel_rfl
theorem laidOut : laidOutB Try.prog = true := by kernel_rfl
theorem cells9 : Try.prog.cellsOf 9 = 1 := by kernel_rfl
theorem cells4 : Try.prog.cellsOf 4 = 1 := by kernel_rfl
theorem cells3 : Try.prog.cellsOf 3 = 1 := by kernel_rfl
theorem cells33 : Try.prog.cellsOf 33 = 1 := by kernel_rfl
theorem cells35 : Try.prog.cellsOf 35 = 3 := by kernel_rfl
theorem cells41 : Try.prog.cellsOf 41 = 1 := by kernel_rfl
theorem cells43 : Try.prog.cellsOf 43 = 3 := by kernel_rfl
theorem list3 {α : Type} {l : List α} (h : l.length = 3) : ∃ a b c, l = [a, b, c] := by
  match l, h with
  | [a, b, c], _ => exact ⟨a, b, c, rfl⟩
theorem bytes_list (s : ByteArray) : s = ⟨s.data.toList.toArray⟩ := by cases s; rfl
/-- A row of numbers. -/
theorem argI_of {H : Type} {enc : TypeId × Value → H} {W : World} {base fuel : Nat} {hd : Bool} {v : Value} {d : DataW H} {p : List MemPlace}
    (hf : DataW.trod enc Try.prog W base (fun _ => true) hd fuel 41 [v] = some (d, p)) (hlt : ∀ x ∈ p, x.block < W.heap.size) : ∃ l, Rd W v (intsV l) := by
  rcases open_ints Try.underlying41 Try.underlying3 cells3 hf with ⟨hcs, _⟩ | ⟨a, len, cap, zs, hcs, _, hl, hm, hz, hx, hc, _⟩
  · simp at hcs
    subst hcs
    exact ⟨[], Rd.nil W⟩
  · simp at hcs
    subst hcs
    simp only [if_true] at hz
    simp only [Prod.mk.injEq] at hx
    obtain ⟨_, rfl⟩ := hx
    refine ⟨zs.take len, some a, cap, by rw [intsV_len, List.length_take]; congr 1; omega, by rw [intsV_len, List.length_take]; omega, hm, (by simp), fun h0 => ?_⟩
    rw [intsV_len, List.length_take] at h0
    obtain ⟨g, o, spot⟩ := a
    have hspot : spot = none := by
      have := World.cell?_spot (hc 0 (by omega))
      simpa [Addr.add] using this
    subst hspot
    refine ⟨g, o, rfl, hlt (.cell g o) (MemPlace.mem_row.2 ⟨0, by omega, by simp⟩), fun j x hx => ?_⟩
    unfold intsV at hx
    rw [List.getElem?_map] at hx
    obtain ⟨y, hy, rfl⟩ := Option.map_eq_some_iff.1 hx
    have hj : j < (zs.take len).length := (List.getElem?_eq_some_iff.1 hy).1
    rw [List.length_take] at hj
    have := hc j (by omega)
    rw [addr_add] at this
    rw [this, List.getD_eq_getElem?_getD]
    rw [List.getElem?_take_of_lt (by omega)] at hy
    rw [hy]
    rfl
set_option maxRecDepth 100000 in
/-- A claim's cells. -/
theorem cz_of {H : Type} {enc : TypeId × Value → H} {W : World} {base fuel : Nat} {hd : Bool} {cs : List Value} {d : DataW H} {p : List MemPlace} (h : DataW.trod enc Try.prog W base (fun _ => true) hd fuel 43 cs = some (d, p)) (hlt : ∀ x ∈ p, x.block < W.heap.size) :
    ∃ (b : Cz) (a : Option Addr) (c : Nat), cs = [.string ⟨b.p.toArray⟩, .bool b.dir, .slice a b.own.length c] ∧ Rd W (.slice a b.own.length c) (intsV b.own) := by
  obtain ⟨y0, y1, y2, n, hx, hl, t0, t1, t2⟩ := Go.Deep.trod_struct3 Try.underlying43 h
  rw [cells43] at hl
  rw [cells9] at t0
  rw [cells4] at t1
  rw [cells41] at t2
  obtain ⟨s, e0, _, _⟩ := DataW.trod_string Try.underlying9 t0
  obtain ⟨m, e1, _⟩ := DataW.trod_bool Try.underlying4 t1
  obtain ⟨q0, q1, q2, rfl⟩ := list3 hl
  simp at e0 e1 t2
  simp only [Prod.mk.injEq] at hx
  obtain ⟨l, hr⟩ := argI_of (d := y2.1) (p := y2.2) t2 (fun x hx' => hlt x (by rw [hx.2]; simp [hx']))
  obtain ⟨a, c, e2, _⟩ := id hr
  rw [intsV_len] at e2
  refine ⟨⟨s.data.toList, m, l⟩, a, c, ?_, by rw [← e2]; exact hr⟩
  rw [e0, e1, e2, ← bytes_list s]
set_option maxRecDepth 100000 in
/-- An argument that is a slice of claims. -/
theorem argC_of {H : Type} {enc : TypeId × Value → H} {W : World} {base fuel : Nat} {hd : Bool} {v : Value} {d : DataW H} {p : List MemPlace}
    (hf : DataW.trod enc Try.prog W base (fun _ => true) hd fuel 22 [v] = some (d, p)) (hlt : ∀ x ∈ p, x.block < W.heap.size) : ∃ l, RdC W v l := by
  rcases Go.Deep.open_slice Try.underlying22 hf with ⟨hcs, _⟩ | ⟨a, len, cap, m, n, D, Pl, hcs, _, hl, hm, hmm, hx, hi⟩
  · simp at hcs
    subst hcs
    exact ⟨[], none, 0, rfl, Nat.le_refl _, Nat.zero_le _, fun h => absurd h (Nat.lt_irrefl _)⟩
  · simp at hcs
    subst hcs
    simp only [if_true] at hmm
    subst hmm
    simp only [Prod.mk.injEq] at hx
    obtain ⟨_, rfl⟩ := hx
    have key : ∀ i : Nat, ∃ z : Cz × Option Addr × Nat, i < m → (∀ (j : Nat), j < 3 → W.cell? ((a.add (i * 3)).add j) = [Value.string ⟨z.1.p.toArray⟩, .bool z.1.dir, .slice z.2.1 z.1.own.length z.2.2][j]?) ∧ Rd W (.slice z.2.1 z.1.own.length z.2.2) (intsV z.1.own) := by
      intro i
      by_cases him : i < m
      · obtain ⟨cs', hc, ht⟩ := hi i him
        rw [cells43] at hc
        obtain ⟨_, hcl, hat⟩ := World.cells?_some hc
        obtain ⟨b, a', c', rfl, hr⟩ := cz_of ht (fun x hx => hlt x (List.mem_append_right _ (List.mem_flatMap.2 ⟨i, List.mem_range.2 him, hx⟩)))
        exact ⟨(b, a', c'), fun _ => ⟨fun j hj => hat j (by omega), hr⟩⟩
      · exact ⟨(⟨[], false, []⟩, none, 0), fun h => absurd h him⟩
    obtain ⟨F, hF⟩ := Classical.axiomOfChoice key
    refine ⟨(List.range len).map (fun i => (F i).1), some a, m, by simp, by simpa using hl, hm, fun h0 => ?_⟩
    have h0' : 0 < len := by simpa using h0
    obtain ⟨g, o, spot⟩ := a
    have hspot : spot = none := by
      have e := (hF 0 (by omega)).1 0 (by omega)
      have := World.cell?_spot (v := .string ⟨(F 0).1.p.toArray⟩) (e.trans rfl)
      simpa [Addr.add] using this
    subst hspot
    refine ⟨g, o, rfl, hlt (.cell g o) (List.mem_append_left _ (MemPlace.mem_row.2 ⟨0, by rw [cells43]; omega, by simp⟩)), fun j b hb => ?_⟩
    rw [List.getElem?_map] at hb
    obtain ⟨i, hi1, rfl⟩ := Option.map_eq_some_iff.1 hb
    have hql : j < len := by simpa using (List.getElem?_eq_some_iff.1 hi1).1
    have e : i = j := by
      have := (List.getElem?_eq_some_iff.1 hi1).2
      simpa using this.symm
    subst e
    obtain ⟨h1, h2⟩ := hF i (by omega)
    have at' : ∀ t : Nat, ((⟨g, o, none⟩ : Addr).add (i * 3)).add t = ⟨g, o + i * 3 + t, none⟩ := fun t => by rw [addr_add, addr_add]
    refine ⟨(F i).2.1, (F i).2.2, ?_, ?_, ?_, h2⟩
    · have := h1 0 (by omega); rw [at'] at this; exact this
    · have := h1 1 (by omega); rw [at'] at this; exact this
    · have := h1 2 (by omega); rw [at'] at this; exact this
set_option maxRecDepth 100000 in
/-- A leaf's cells. -/
theorem lf_of {H : Type} {enc : TypeId × Value → H} {W : World} {base fuel : Nat} {hd : Bool} {cs : List Value} {d : DataW H} {p : List MemPlace} (h : DataW.trod enc Try.prog W base (fun _ => true) hd fuel 35 cs = some (d, p)) :
    ∃ b : Lf, cs = b.cells := by
  obtain ⟨y0, y1, y2, n, hx, hl, t0, t1, t2⟩ := Go.Deep.trod_struct3 Try.underlying35 h
  rw [cells35] at hl
  rw [cells9] at t0 t2
  rw [cells4] at t1
  obtain ⟨s, e0, hy0, _⟩ := DataW.trod_string Try.underlying9 t0
  obtain ⟨m, e1, hy1⟩ := DataW.trod_bool Try.underlying4 t1
  obtain ⟨z, e2, hy2, _⟩ := DataW.trod_string Try.underlying9 t2
  obtain ⟨q0, q1, q2, rfl⟩ := list3 hl
  simp at e0 e1 e2
  refine ⟨⟨s.data.toList, m, z.data.toList⟩, ?_⟩
  rw [e0, e1, e2]
  show _ = [Value.string ⟨s.data.toList.toArray⟩, _, Value.string ⟨z.data.toList.toArray⟩]
  rw [← bytes_list s, ← bytes_list z]
set_option maxRecDepth 100000 in
/-- A slice of leaves. -/
theorem argL_of {H : Type} {enc : TypeId × Value → H} {W : World} {base fuel : Nat} {hd : Bool} {v : Value} {d : DataW H} {p : List MemPlace}
    (hf : DataW.trod enc Try.prog W base (fun _ => true) hd fuel 33 [v] = some (d, p)) (hlt : ∀ x ∈ p, x.block < W.heap.size) : ∃ l, RdL W v l := by
  rcases Go.Deep.open_slice Try.underlying33 hf with ⟨hcs, _⟩ | ⟨a, len, cap, m, n, D, Pl, hcs, _, hl, hm, hmm, hx, hi⟩
  · simp at hcs
    subst hcs
    exact ⟨[], RdX.nil W⟩
  · simp at hcs
    subst hcs
    simp only [if_true] at hmm
    subst hmm
    simp only [Prod.mk.injEq] at hx
    obtain ⟨hd0, rfl⟩ := hx
    have key : ∀ i : Nat, ∃ b : Lf, i < m → (∀ (j : Nat), j < 3 → W.cell? ((a.add (i * 3)).add j) = b.cells[j]?) := by
      intro i
      by_cases him : i < m
      · obtain ⟨cs', hc, ht⟩ := hi i him
        rw [cells35] at hc
        obtain ⟨_, hcl, hat⟩ := World.cells?_some hc
        obtain ⟨b, rfl⟩ := lf_of ht
        exact ⟨b, fun _ j hj => hat j (by omega)⟩
      · exact ⟨Lf.nil, fun h => absurd h him⟩
    obtain ⟨F, hF⟩ := Classical.axiomOfChoice key
    refine ⟨(List.range len).map F, some a, m, by simp, by simpa using hl, hm, fun h0 => ?_⟩
    have h0' : 0 < len := by simpa using h0
    obtain ⟨g, o, spot⟩ := a
    have hspot : spot = none := by
      have e := (hF 0 (by omega)) 0 (by omega)
      have := World.cell?_spot (v := .string ⟨(F 0).p.toArray⟩) (e.trans rfl)
      simpa [Addr.add] using this
    subst hspot
    refine ⟨g, o, rfl, hlt (.cell g o) (List.mem_append_left _ (MemPlace.mem_row.2 ⟨0, by rw [cells35]; omega, by simp⟩)), fun j u hu => ?_⟩
    obtain ⟨q, r, hr, rfl⟩ : ∃ q r, r < 3 ∧ j = q * 3 + r := ⟨j / 3, j % 3, by omega, by omega⟩
    rw [flat3L _ q r hr, List.getElem?_map] at hu
    obtain ⟨b, hb, hbu⟩ := Option.bind_eq_some_iff.1 hu
    obtain ⟨i, hi1, rfl⟩ := Option.map_eq_some_iff.1 hb
    have hql : q < len := by simpa using (List.getElem?_eq_some_iff.1 hi1).1
    have e : i = q := by
      have := (List.getElem?_eq_some_iff.1 hi1).2
      simpa using this.symm
    subst e
    have hk := (hF i (by omega)) r hr
    rw [addr_add, addr_add, Nat.add_assoc] at hk
    rw [hk]
    exact hbu
/-- An argument that is a slice of rows of leaves. -/
theorem argR_of {H : Type} {enc : TypeId × Value → H} {W : World} {base fuel : Nat} {hd : Bool} {v : Value} {d : DataW H} {p : List MemPlace}
    (hf : DataW.trod enc Try.prog W base (fun _ => true) hd fuel 25 [v] = some (d, p)) (hlt : ∀ x ∈ p, x.block < W.heap.size) : ∃ l, RdRs W v l := by
  rcases Go.Deep.open_slice1 Try.underlying25 cells33 hf with ⟨hcs, _⟩ | ⟨a, len, cap, m, n, V, D, Pl, hcs, _, hl, hm, hmm, hx, hc⟩
  · simp at hcs
    subst hcs
    exact ⟨[], RdRs.nil W⟩
  · simp at hcs
    subst hcs
    simp only [if_true] at hmm
    subst hmm
    simp only [Prod.mk.injEq] at hx
    obtain ⟨_, rfl⟩ := hx
    have key : ∀ i : Nat, ∃ r : List Lf, i < m → RdL W (V i) r := by
      intro i
      by_cases him : i < m
      · obtain ⟨_, h2⟩ := hc i him
        obtain ⟨r, hr⟩ := argL_of h2 (fun x hx => hlt x (List.mem_append_right _ (List.mem_flatMap.2 ⟨i, List.mem_range.2 him, hx⟩)))
        exact ⟨r, fun _ => hr⟩
      · exact ⟨[], fun h => absurd h him⟩
    obtain ⟨F, hF⟩ := Classical.axiomOfChoice key
    refine ⟨(List.range len).map F, some a, m, by simp, by simpa using hl, hm, fun h0 => ?_⟩
    have h0' : 0 < len := by simpa using h0
    obtain ⟨g, o, spot⟩ := a
    have hspot : spot = none := by
      have := World.cell?_spot (hc 0 (by omega)).1
      simpa [Addr.add] using this
    subst hspot
    refine ⟨g, o, rfl, hlt (.cell g o) (List.mem_append_left _ (MemPlace.mem_row.2 ⟨0, by omega, by simp⟩)), fun j r hr => ?_⟩
    rw [List.getElem?_map] at hr
    obtain ⟨i, hi1, rfl⟩ := Option.map_eq_some_iff.1 hr
    have hql : j < len := by simpa using (List.getElem?_eq_some_iff.1 hi1).1
    have e : i = j := by
      have := (List.getElem?_eq_some_iff.1 hi1).2
      simpa using this.symm
    subst e
    have h1 := (hc i (by omega)).1
    rw [addr_add] at h1
    exact ⟨V i, h1, hF i (by omega)⟩
end Go.Proofs.Ytgmplpfbhcdofaa
