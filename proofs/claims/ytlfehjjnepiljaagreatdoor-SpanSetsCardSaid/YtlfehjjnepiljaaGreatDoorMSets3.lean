/- What an argument that is a slice of versions reads as, for the laws' last steps. | Proved: whatever two spans and row of versions SpanSets of puncheonlaw05 is called with, the call returns true, and all read behind it as they read before (the statement Rows.SpanSetsCardSaid). No condition of ours: the tables of the library stand as the program's text lays them (the card ties them), and the form's own reach. -/
import Derived.Deep.Slices
import Derived.Test.YtlfehjjnepiljaaGreatDoorMSets2
namespace Go.Proofs.YtlfehjjnepiljaaGreatDoor
open Go.ChangeShapes Go.WideShapes Go.ChangeAt Go.RowKit

set_option maxRecDepth 100000 in
theorem argV_of {H : Type} {enc : TypeId × Value → H} {W : World} {base fuel : Nat} {hd : Bool} {a0 : Option Addr} {len cap : Nat} {d : DataW H} {p : List MemPlace}
    (hf : DataW.trod enc Tryz.prog W base (fun _ => true) hd fuel 41 [.slice a0 len cap] = some (d, p)) (hlt : ∀ x ∈ p, x.block < W.heap.size) : ∃ l, RdV W (.slice a0 len cap) l := by
  rcases Go.Deep.open_slice Tryz.underlying41 hf with ⟨hcs, _⟩ | ⟨a, len', cap', m, n, D, Pl, hcs, _, hl, hm, hmm, hx, hi⟩
  · simp at hcs
    obtain ⟨rfl, rfl, rfl⟩ := hcs
    exact ⟨[], RdV.nil W⟩
  · simp at hcs
    obtain ⟨rfl, rfl, rfl⟩ := hcs
    simp only [if_true] at hmm
    subst hmm
    simp only [Prod.mk.injEq] at hx
    obtain ⟨_, rfl⟩ := hx
    have key : ∀ i : Nat, ∃ v : Ver, i < m → ∀ (j : Nat), j < 7 → W.cell? ((a.add (i * 7)).add j) = v.cells[j]? := by
      intro i
      by_cases him : i < m
      · obtain ⟨cs', hc, ht⟩ := hi i him
        rw [cells45] at hc
        obtain ⟨_, hcl, hat⟩ := World.cells?_some hc
        obtain ⟨v, rfl⟩ := ver_of ht
        exact ⟨v, fun _ j hj => hat j (by omega)⟩
      · exact ⟨Ver.zero, fun h => absurd h him⟩
    obtain ⟨F, hF⟩ := Classical.axiomOfChoice key
    refine ⟨(List.range len).map F, some a, m, by simp, by simpa using hl, hm, fun h0 => ?_⟩
    have h0' : 0 < len := by simpa using h0
    obtain ⟨g, o, spot⟩ := a
    have hspot : spot = none := by
      have e := hF 0 (by omega) 0 (by omega)
      have := World.cell?_spot (v := .int .i64 (F 0).n0) (e.trans rfl)
      simpa [Addr.add] using this
    subst hspot
    refine ⟨g, o, rfl, hlt (.cell g o) (List.mem_append_left _ (MemPlace.mem_row.2 ⟨0, by rw [cells45]; omega, by simp⟩)), fun j v hv => ?_⟩
    rw [List.getElem?_map] at hv
    obtain ⟨i, hi1, rfl⟩ := Option.map_eq_some_iff.1 hv
    have hj : j < len := by simpa using (List.getElem?_eq_some_iff.1 hi1).1
    have e : i = j := by
      have := (List.getElem?_eq_some_iff.1 hi1).2
      simpa using this.symm
    subst e
    have hk := hF i (by omega)
    have at' : ∀ t : Nat, ((⟨g, o, none⟩ : Addr).add (i * 7)).add t = ⟨g, o + i * 7 + t, none⟩ := fun t => by rw [addr_add, addr_add]
    refine ⟨?_, ?_, ?_, ?_, ?_, ?_, ?_⟩
    · have := hk 0 (by omega); rw [at'] at this; exact this
    · have := hk 1 (by omega); rw [at'] at this; exact this
    · have := hk 2 (by omega); rw [at'] at this; exact this
    · have := hk 3 (by omega); rw [at'] at this; exact this
    · have := hk 4 (by omega); rw [at'] at this; exact this
    · have := hk 5 (by omega); rw [at'] at this; exact this
    · have := hk 6 (by omega); rw [at'] at this; exact this
end Go.Proofs.YtlfehjjnepiljaaGreatDoor

namespace Go.Proofs.YtlfehjjnepiljaaGreatDoor.SpanSetsP
open Go.ChangeShapes Go.WideShapes Go.ChangeAt Go.RowKit Go.Joins Go.Deep
open Go.ChangeMaps (open_string shut_string)

theorem met (os : Os) : laidMet Tryz.prog Rows.spanSetsRow.laid ((laidWorld os).forCall (fun _ _ => 0) ⟨#[], #[zeroSpan, zeroSpan, .slice none 0 0], []⟩).memory :=
  laid_met os _
theorem reads (os : Os) {H : Type} (enc : TypeId × Value → H) : ∃ places, DataW.whole enc Tryz.prog ((laidWorld os).forCall (fun _ _ => 0) ⟨#[], #[zeroSpan, zeroSpan, .slice none 0 0], []⟩).memory Tryz.f7.params.toList Rows.spanSetsSpec.vars false #[zeroSpan, zeroSpan, Value.slice none 0 0].toList 8 = some ([zeroSpanD, zeroSpanD, .nil], [], places) :=
  ⟨[], by kernel_rfl⟩

set_option maxRecDepth 100000 in
theorem lifted (os : Os) (started : os.Started) (H : Type) (enc : TypeId × Value → H) (F : Stop.Interp) :
    ReturnsInHanded {} Tryz.checked os 7 .any ((OpenSpec.ofChange Rows.spanSetsSpec).preRow enc Tryz.prog Tryz.f7 Rows.spanSetsRow.domain false Rows.spanSetsRow.laid) (((OpenSpec.ofChange Rows.spanSetsSpec).at F).post enc Tryz.prog Tryz.f7 false true false false) := by
  obtain ⟨places, hx⟩ := reads os enc
  refine returnsInHanded_of_row (C := Tryz.checked) (s := OpenSpec.ofChange Rows.spanSetsSpec) own0 started (by kernel_rfl) Tryz.func7
    (witness_row_at (enc := enc) (C := Tryz.checked) false (laidWorld os) #[zeroSpan, zeroSpan, .slice none 0 0] rfl (by kernel_rfl) (by kernel_rfl) (by kernel_rfl)
      (OpenSpec.preRow_of_cond 8 hx (by kernel_rfl) (fun k hk => by cases hk) (by kernel_rfl) (met os))) ?_
  intro W base args ds gs before hval0 hW _ _ _ hL hsh _
  have hval : ∀ (j : Nat) t v, Tryz.f7.params[j]? = some t → args[j]? = some v → Value.okWide Tryz.prog W .any base t v := hval0
  have hW' := hW
  obtain ⟨p, q, hA0, hV, rfl, hfz, hnd⟩ := hW
  have hA : DataW.TrodAll enc Tryz.prog W 0 (fun _ => true) true Tryz.f7.params.toList args.toList ds p := hA0
  rw [Tryz.params7] at hA hval
  obtain ⟨v0, vs0, d0, ds0, p0, q0, hargs, rfl, rfl, h0, r0⟩ := trodAll_cons hA
  obtain ⟨v1, vs1, d1, ds1, p1, q1, rfl, rfl, rfl, h1, r1⟩ := trodAll_cons r0
  obtain ⟨v2, vs2, d2, ds2, p2, q2, rfl, rfl, rfl, h2, r2⟩ := trodAll_cons r1
  obtain ⟨rfl, rfl, rfl⟩ := trodAll_nil r2
  obtain rfl : args = #[v0, v1, v2] := by cases args; simp_all
  obtain ⟨rfl, rfl⟩ := trodVars_none hV
  obtain ⟨cs0, rfl⟩ := okWide_span (hval 0 27 v0 rfl rfl)
  obtain ⟨cs1, rfl⟩ := okWide_span (hval 1 27 v1 rfl rfl)
  obtain ⟨a2, n2, c2, rfl⟩ := okWide_slice Tryz.underlying41 (hval 2 41 v2 rfl rfl)
  have h0k := h0
  obtain ⟨fuel0, hf0⟩ := h0
  have h1k := h1
  obtain ⟨fuel1, hf1⟩ := h1
  have h2k := h2
  obtain ⟨fuel2, hf2⟩ := h2
  clear hA0 hval0
  simp only [List.append_nil] at hW'
  have hlt0 : ∀ x ∈ p0, x.block < W.heap.size := fun x hx => by simpa using hW'.lt x (by simp [hx])
  have hlt1 : ∀ x ∈ p1, x.block < W.heap.size := fun x hx => by simpa using hW'.lt x (by simp [hx])
  have hlt2 : ∀ x ∈ p2, x.block < W.heap.size := fun x hx => by simpa using hW'.lt x (by simp [hx])
  obtain ⟨x0, l0, rfl, hr0⟩ := argS_of (by simpa [Value.cells] using hf0) hlt0
  obtain ⟨x1, l1, rfl, hr1⟩ := argS_of (by simpa [Value.cells] using hf1) hlt1
  obtain ⟨l2, hr2⟩ := argV_of (by simpa [Value.cells] using hf2) hlt2
  refine (sets_law l0 l1 l2 x0 x1 _ W hr0 hr1 hr2 (tabs hL hsh)).mono fun e W' ⟨he, hb⟩ => ?_
  subst he
  exact ⟨_, rfl, _, _, _, [], _, [], hW', (trodAll_cons_mk (shut_bool Tryz.underlying4 _) trodAll_mk0), (trodAll_cons_mk (Below.trod laidOut (by kernel_rfl) (of_decide_eq_true (by kernel_rfl)) h0k hb hlt0) (trodAll_cons_mk (Below.trod laidOut (by kernel_rfl) (of_decide_eq_true (by kernel_rfl)) h1k hb hlt1) (trodAll_cons_mk (Below.trod laidOut (by kernel_rfl) (of_decide_eq_true (by kernel_rfl)) h2k hb hlt2) trodAll_mk0))), rfl, hb.frame _, fun h => by cases h⟩

theorem said : Rows.SpanSetsSaid :=
  OpenClaim.holds_of_cond 7 Tryz.f7 rfl rfl rfl rfl rfl rfl rfl ⟨rfl, rfl, rfl, rfl, rfl⟩ rfl rfl rfl rfl rfl (by kernel_rfl) Tryz.func7 (by kernel_rfl)
    (of_decide_eq_true (by kernel_rfl)) (by unfold Func.isWrapper; first | (rw [if_pos (by decide +kernel)]; kernel_rfl) | (rw [if_neg (by decide +kernel)]; exact ⟨rfl, rfl⟩))
    (fun os started H enc _ F => by rw [OpenClaim.pre_eq_preRow]; exact lifted os started H enc F)

/-- No parameter wants a stand-in; the program's own looks are off: what the card asks. -/
theorem plain (f : FuncId) (fn : Func) (hf : Tryz.pinned.checked.prog.funcNamed "puncheon/puncheonlaw05.SpanSets" = some f) (hfn : Tryz.pinned.checked.prog.funcs[f]? = some fn) :
    false = Tryz.pinned.checked.prog.looks [] ∧ ∀ (j : Nat) t, fn.params[j]? = some t → Tryz.pinned.checked.prog.wantsStandIn t = false := by
  obtain rfl : f = 7 := Option.some.inj ((show Tryz.prog.funcNamed "puncheon/puncheonlaw05.SpanSets" = some 7 by kernel_rfl).symm.trans hf) |>.symm
  obtain rfl : fn = Tryz.f7 := (Option.some.inj (Tryz.func7.symm.trans hfn)).symm
  refine ⟨by kernel_rfl, fun j t ht => ?_⟩
  rw [Tryz.params7] at ht
  have hm : t ∈ [27, 27, 41] := by simpa using Array.mem_of_getElem? ht
  have hall : ([27, 27, 41].all fun u => !Tryz.prog.wantsStandIn u) = true := by kernel_rfl
  exact (show Tryz.prog.wantsStandIn t = false by simpa using List.all_eq_true.1 hall t hm)
end Go.Proofs.YtlfehjjnepiljaaGreatDoor.SpanSetsP
namespace Go.Proofs.YtlfehjjnepiljaaGreatDoor
theorem spanSets_card : Rows.SpanSetsCardSaid :=
  Claim7.holds_tied_plain_at .later [] _ _ _ _ SpanSetsP.said (fun _ h => by cases h) (by kernel_rfl) (fun _ h => by cases h) spanSets_row_tie rfl ⟨rfl, rfl⟩ (by kernel_rfl) rfl SpanSetsP.plain (by kernel_rfl)
#print axioms spanSets_card
end Go.Proofs.YtlfehjjnepiljaaGreatDoor
