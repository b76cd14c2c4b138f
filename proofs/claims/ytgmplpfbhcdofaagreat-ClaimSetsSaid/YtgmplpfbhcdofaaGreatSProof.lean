/- Proved here: what an argument that is a row of numbers reads as, for the law's last step. whatever row of numbers and row of numbers and two rows of texts ClaimSets of puncheonlaw16 is called with, the call returns true, and all read behind it as they read before (the statement Rows.ClaimSetsSaid). No condition of ours. -/
import Derived.Test.YtgmplpfbhcdofaaGreatGSet
import Derived.ProofKit
import Derived.OpenShut
import Derived.ShutString
import Derived.SizedLaws
import Derived.Deep.Slices
import Derived.Deep.Strs
import Derived.Test.YtgmplpfbhcdofaaGreatSLaw
namespace Go.Proofs.YtgmplpfbhcdofaaGreat
open Go.ChangeShapes Go.WideShapes Go.ChangeAt Go.RowKit

theorem own0 : ownKnob Tryz.prog.godebug = none := by kernel_rfl
theorem laidOut : laidOutB Tryz.prog = true := by kernel_rfl
theorem cells3 : Tryz.prog.cellsOf 3 = 1 := by kernel_rfl
/-- A row of numbers. -/
theorem argI_of {H : Type} {enc : TypeId × Value → H} {W : World} {base fuel : Nat} {hd : Bool} {v : Value} {d : DataW H} {p : List MemPlace}
    (hf : DataW.trod enc Tryz.prog W base (fun _ => true) hd fuel 22 [v] = some (d, p)) (hlt : ∀ x ∈ p, x.block < W.heap.size) : ∃ l, Rd W v (intsV l) := by
  rcases open_ints Tryz.underlying22 Tryz.underlying3 cells3 hf with ⟨hcs, _⟩ | ⟨a, len, cap, zs, hcs, _, hl, hm, hz, hx, hc, _⟩
  · simp at hcs
    subst hcs
    exact ⟨[], Rd.nil W⟩
  · simp at hcs
    subst hcs
    simp only [if_true] at hz
    simp only [Prod.mk.injEq] at hx
    obtain ⟨_, rfl⟩ := hx
    refine ⟨zs.take len, some a, cap, by rw [intsV_len, List.length_take]; congr 1; omega, by rw [intsV_len, List.length_take]; omega, hm, (by simp), fun h0 => ?_⟩
    rw [intsV_len, List.length_take] at h0
    obtain ⟨g, o, spot⟩ := a
    have hspot : spot = none := by
      have := World.cell?_spot (hc 0 (by omega))
      simpa [Addr.add] using this
    subst hspot
    refine ⟨g, o, rfl, hlt (.cell g o) (MemPlace.mem_row.2 ⟨0, by omega, by simp⟩), fun j x hx => ?_⟩
    unfold intsV at hx
    rw [List.getElem?_map] at hx
    obtain ⟨y, hy, rfl⟩ := Option.map_eq_some_iff.1 hx
    have hj : j < (zs.take len).length := (List.getElem?_eq_some_iff.1 hy).1
    rw [List.length_take] at hj
    have := hc j (by omega)
    rw [addr_add] at this
    rw [this, List.getD_eq_getElem?_getD]
    rw [List.getElem?_take_of_lt (by omega)] at hy
    rw [hy]
    rfl
end Go.Proofs.YtgmplpfbhcdofaaGreat

namespace Go.Proofs.YtgmplpfbhcdofaaGreat
open Go.ChangeShapes Go.WideShapes Go.ChangeAt Go.RowKit

theorem cells9 : Tryz.prog.cellsOf 9 = 1 := by kernel_rfl
theorem cells23 : Tryz.prog.cellsOf 23 = 1 := by kernel_rfl
theorem cells24 : Tryz.prog.cellsOf 24 = 2 := by kernel_rfl
set_option maxRecDepth 100000 in
theorem wide_pair {W : World} {base : Nat} {v : Value} (h : Value.okWide Tryz.prog W .any base 24 v) : ∃ x y, v = .agg #[x, y] := by
  simp only [Value.okWide, Tryz.underlying24] at h
  obtain ⟨cs, h1, h2, _⟩ := h
  rw [cells24] at h2
  obtain ⟨l⟩ := cs
  match l, h2 with
  | [x, y], _ => exact ⟨x, y, h1⟩
/-- A row of texts. -/
theorem argT_of {H : Type} {enc : TypeId × Value → H} {W : World} {base fuel : Nat} {hd : Bool} {v : Value} {d : DataW H} {p : List MemPlace}
    (hf : DataW.trod enc Tryz.prog W base (fun _ => true) hd fuel 23 [v] = some (d, p)) (hlt : ∀ x ∈ p, x.block < W.heap.size) : ∃ l, Rd W v (strsV l) := by
  rcases Go.Deep.open_strs Tryz.underlying23 Tryz.underlying9 cells9 hf with ⟨hcs, _⟩ | ⟨a, len, cap, m, Sx, hcs, _, hl, hm, hmm, hx, hc⟩
  · simp at hcs
    subst hcs
    exact ⟨[], Rd.nil W⟩
  · simp at hcs
    subst hcs
    simp only [if_true] at hmm
    subst hmm
    simp only [Prod.mk.injEq] at hx
    obtain ⟨_, rfl⟩ := hx
    refine ⟨(List.range len).map fun i => (Sx i).data.toList, some a, m, by simp [strsV], by simpa [strsV] using hl, hm, (by simp), fun h0 => ?_⟩
    have h0' : 0 < len := by simpa [strsV] using h0
    obtain ⟨g, o, spot⟩ := a
    have hspot : spot = none := by
      have := World.cell?_spot (hc 0 (by omega)).1
      simpa [Addr.add] using this
    subst hspot
    refine ⟨g, o, rfl, hlt (.cell g o) (MemPlace.mem_row.2 ⟨0, by omega, by simp⟩), fun j x hx => ?_⟩
    unfold strsV at hx
    rw [List.getElem?_map, List.getElem?_map] at hx
    by_cases hj : j < len
    · rw [List.getElem?_range hj] at hx
      have hx2 : encStr (Sx j).data.toList = x := by simpa using hx
      rw [← hx2]
      have h9 := (hc j (by omega)).1
      rw [addr_add] at h9
      have e1 : encStr (Sx j).data.toList = .string (Sx j) := by
        show Value.string ⟨(Sx j).data.toList.toArray⟩ = _
        simp
      rw [e1]
      exact h9
    · rw [List.getElem?_eq_none (by simpa using Nat.le_of_not_lt hj)] at hx
      cases hx
set_option maxRecDepth 100000 in
/-- Two rows of texts. -/
theorem argW_of {H : Type} {enc : TypeId × Value → H} {W : World} {base fuel : Nat} {hd : Bool} {x y : Value} {d : DataW H} {p : List MemPlace}
    (hf : DataW.trod enc Tryz.prog W base (fun _ => true) hd fuel 24 [x, y] = some (d, p)) (hlt : ∀ x ∈ p, x.block < W.heap.size) : ∃ l m, Rd W x (strsV l) ∧ Rd W y (strsV m) := by
  cases fuel with
  | zero => simp [DataW.trod] at hf
  | succ n =>
    unfold DataW.trod at hf
    rw [Tryz.underlying24] at hf
    have r2 : List.range 2 = [0, 1] := rfl
    simp [r2, cells23] at hf
    cases h0 : DataW.trod enc Tryz.prog W base (fun _ => true) hd n 23 [x] with
    | none => simp [h0] at hf
    | some y0 =>
      cases h1 : DataW.trod enc Tryz.prog W base (fun _ => true) hd n 23 [y] with
      | none => simp [h0, h1] at hf
      | some y1 =>
        simp [h0, h1] at hf
        obtain ⟨_, _, rfl⟩ := hf
        obtain ⟨l, hl⟩ := argT_of (d := y0.1) (p := y0.2) h0 (fun q hq => hlt q (List.mem_append_left _ hq))
        obtain ⟨m, hm⟩ := argT_of (d := y1.1) (p := y1.2) h1 (fun q hq => hlt q (List.mem_append_right _ hq))
        exact ⟨l, m, hl, hm⟩
end Go.Proofs.YtgmplpfbhcdofaaGreat
namespace Go.Proofs.YtgmplpfbhcdofaaGreat.ClaimSetsP
open Go.ChangeShapes Go.WideShapes Go.ChangeAt Go.RowKit

set_option maxRecDepth 100000 in
theorem lifted (os : Os) (started : os.Started) (H : Type) (enc : TypeId × Value → H) :
    ReturnsInHanded {} Tryz.checked os 3 .any (Rows.claimSetsSpec.pre6 enc Tryz.prog Tryz.f3 Rows.claimSetsRow.domain false) (Rows.claimSetsSpec.post enc Tryz.prog Tryz.f3 false true false false) := by
  refine returnsInHanded_of_change (C := Tryz.checked) own0 started (by kernel_rfl) Tryz.func3
    (ChangeSpec.witness6 (enc := enc) (C := Tryz.checked) false ⟨#[], #[.slice none 0 0, .slice none 0 0, .agg #[.slice none 0 0, .slice none 0 0]], []⟩ 8 (by kernel_rfl) (by kernel_rfl) (by kernel_rfl) (by kernel_rfl)) ?_
  intro W base args ds gs before hval0 hW _ _
  have hval : ∀ (j : Nat) t v, Tryz.f3.params[j]? = some t → args[j]? = some v → Value.okWide Tryz.prog W .any base t v := hval0
  have hW' := hW
  obtain ⟨p, q, hA0, hV, rfl, _, _⟩ := hW
  have hA : DataW.TrodAll enc Tryz.prog W 0 (fun _ => true) true Tryz.f3.params.toList args.toList ds p := hA0
  rw [Tryz.params3] at hA hval
  obtain ⟨v0, v1, v2, d0, d1, d2, p0, p1, p2, rfl, rfl, rfl, h0, h1, h2⟩ := trodAll_three hA
  obtain ⟨rfl, rfl⟩ := trodVars_none hV
  obtain ⟨a0, len0, cap0, rfl⟩ := okWide_slice Tryz.underlying22 (hval 0 22 v0 rfl rfl)
  obtain ⟨a1, len1, cap1, rfl⟩ := okWide_slice Tryz.underlying22 (hval 1 22 v1 rfl rfl)
  obtain ⟨x2, y2, rfl⟩ := wide_pair (hval 2 24 v2 rfl rfl)
  have h0k := h0
  have h1k := h1
  have h2k := h2
  obtain ⟨fuel0, hf0⟩ := h0
  obtain ⟨fuel1, hf1⟩ := h1
  obtain ⟨fuel2, hf2⟩ := h2
  clear hA0 hval0
  simp only [List.append_nil] at hW'
  have hlt : ∀ x ∈ p0 ++ p1 ++ p2, x.block < W.heap.size := fun x hx => by simpa using hW'.lt x hx
  have hlt0 : ∀ x ∈ p0, x.block < W.heap.size := fun x hx => hlt x (List.mem_append_left _ (List.mem_append_left _ hx))
  have hlt1 : ∀ x ∈ p1, x.block < W.heap.size := fun x hx => hlt x (List.mem_append_left _ (List.mem_append_right _ hx))
  have hlt2 : ∀ x ∈ p2, x.block < W.heap.size := fun x hx => hlt x (List.mem_append_right _ hx)
  obtain ⟨l0, hl0⟩ := argI_of (by simpa [Value.cells] using hf0) hlt0
  obtain ⟨l1, hl1⟩ := argI_of (by simpa [Value.cells] using hf1) hlt1
  obtain ⟨l2, l3, hl2, hl3⟩ := argW_of (by simpa [Value.cells] using hf2) hlt2
  refine (sets_law l0 l1 l2 l3 _ _ _ _ W hl0 hl1 hl2 hl3).mono fun e W' ⟨he, hb⟩ => ?_
  subst he
  exact ⟨_, rfl, _, _, _, [], p0 ++ p1 ++ p2, [], hW', (trodAll_cons_mk (shut_bool Tryz.underlying4 _) trodAll_mk0),
    (by have hm := trodAll_mk3 (Below.trod laidOut (by kernel_rfl) (of_decide_eq_true (by kernel_rfl)) h0k hb hlt0) (Below.trod laidOut (by kernel_rfl) (of_decide_eq_true (by kernel_rfl)) h1k hb hlt1) (Below.trod laidOut (by kernel_rfl) (of_decide_eq_true (by kernel_rfl)) h2k hb hlt2); rw [← List.append_assoc] at hm; exact hm), rfl, hb.frame _, fun h => by cases h⟩

theorem over : Rows.claimSetsRow.holds Tryz.pinned (OpenSpec.ofChange Rows.claimSetsSpec) :=
  OpenClaim.holds_of_wide 3 Tryz.f3 rfl rfl rfl rfl rfl rfl rfl ⟨rfl, rfl, rfl, rfl, rfl⟩ rfl rfl rfl rfl rfl (by kernel_rfl) Tryz.func3 (by kernel_rfl)
    (of_decide_eq_true (by kernel_rfl)) (by unfold Func.isWrapper; first | (rw [if_pos (by decide +kernel)]; kernel_rfl) | (rw [if_neg (by decide +kernel)]; exact ⟨rfl, rfl⟩))
    (fun os started H enc _ => lifted os started H enc)
end Go.Proofs.YtgmplpfbhcdofaaGreat.ClaimSetsP
namespace Go.Proofs.YtgmplpfbhcdofaaGreat
theorem claimSets_holds : Rows.ClaimSetsSaid := ClaimSetsP.over
#print axioms claimSets_holds
end Go.Proofs.YtgmplpfbhcdofaaGreat
