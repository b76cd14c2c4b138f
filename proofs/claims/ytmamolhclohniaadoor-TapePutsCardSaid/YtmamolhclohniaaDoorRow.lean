/- Proved here: slices.Clone and slices.Equal at rows of parts, few and cut of puncheonlaw02. -/
import Derived.Test.YtmamolhclohniaaDoorTake
import Derived.Lib.SliceRun
namespace Go.Proofs.YtmamolhclohniaaDoor
open Go.RowKit Go.Shelf

def flatP (l : List Part) : List Value := l.flatMap encP
theorem flatP_cons (p : Part) (l : List Part) : flatP (p :: l) = encP p ++ flatP l := rfl
theorem flatP_append (a b : List Part) : flatP (a ++ b) = flatP a ++ flatP b := List.flatMap_append
theorem flatP_len (l : List Part) : (flatP l).length = l.length * 3 := by
  induction l with
  | nil => rfl
  | cons p l ih => rw [flatP_cons, List.length_append, ih, List.length_cons]; simp [encP]; omega
theorem flat3 (l : List Part) (j r : Nat) (hr : r < 3) : (flatP l)[j * 3 + r]? = (l[j]?).bind fun p => (encP p)[r]? := by
  induction l generalizing j with
  | nil => simp [flatP]
  | cons p l ih =>
    cases j with
    | zero =>
      rw [flatP_cons, Nat.zero_mul, Nat.zero_add, List.getElem?_append_left (by simpa [encP] using hr)]
      rfl
    | succ j =>
      have e : (encP p).length = 3 := rfl
      rw [flatP_cons, List.getElem?_append_right (by rw [e]; omega), e, show (j + 1) * 3 + r - 3 = j * 3 + r by omega, ih]
      rfl
theorem flat_one (l : List Part) : ∀ u ∈ flatP l, u.oneCell' = true := by
  intro u hu
  obtain ⟨p, _, hp⟩ := List.mem_flatMap.1 hu
  simp [encP] at hp
  rcases hp with rfl | rfl | rfl <;> rfl

theorem add_at (g o j : Nat) : (⟨g, o, none⟩ : Addr).add j = ⟨g, o + j, none⟩ := by
  unfold Addr.add
  by_cases hj : j = 0
  · simp [hj]
  · simp [hj]

/-- A row that reads as parts reads so cell by cell. -/
theorem RdP.flat {w : World} {v : Value} {l : List Part} (h : RdP w v l) : ∃ (a : Option Addr) (cap : Nat), v = .slice a l.length cap ∧ l.length ≤ cap ∧ cap ≤ maxLen ∧ (0 < l.length → ∃ g o, a = some ⟨g, o, none⟩ ∧ g < w.heap.size ∧ ∀ (j : Nat) (u : Value), (flatP l)[j]? = some u → w.cell? ⟨g, o + j, none⟩ = some u) := by
  obtain ⟨a, cap, h1, h2, h3, h4⟩ := h
  refine ⟨a, cap, h1, h2, h3, fun h0 => ?_⟩
  obtain ⟨g, o, e, hg, hc⟩ := h4 h0
  refine ⟨g, o, e, hg, fun j u hu => ?_⟩
  obtain ⟨q, r, hr, rfl⟩ : ∃ q r, r < 3 ∧ j = q * 3 + r := ⟨j / 3, j % 3, by omega, by omega⟩
  rw [flat3 l q r hr] at hu
  obtain ⟨p, hp, hu⟩ := Option.bind_eq_some_iff.1 hu
  obtain ⟨c0, c1, c2⟩ := hc q p hp
  rcases (by omega : r = 0 ∨ r = 1 ∨ r = 2) with rfl | rfl | rfl
  · simp [encP] at hu; rw [← hu]; exact c0
  · simp [encP] at hu; rw [← hu]; exact c1
  · simp [encP] at hu; rw [← hu]; exact c2
theorem RdP.of_flat {w : World} {l : List Part} {a : Option Addr} {cap : Nat} (h2 : l.length ≤ cap) (h3 : cap ≤ maxLen) (h4 : 0 < l.length → ∃ g o, a = some ⟨g, o, none⟩ ∧ g < w.heap.size ∧ ∀ (j : Nat) (u : Value), (flatP l)[j]? = some u → w.cell? ⟨g, o + j, none⟩ = some u) : RdP w (.slice a l.length cap) l := by
  refine ⟨a, cap, rfl, h2, h3, fun h0 => ?_⟩
  obtain ⟨g, o, e, hg, hc⟩ := h4 h0
  refine ⟨g, o, e, hg, fun j p hp => ⟨hc (j * 3) _ ?_, ?_, ?_⟩⟩
  · have := flat3 l j 0 (by omega); rw [hp] at this; exact this
  · have := flat3 l j 1 (by omega); rw [hp] at this; exact hc (j * 3 + 1) _ this
  · have := flat3 l j 2 (by omega); rw [hp] at this; exact hc (j * 3 + 2) _ this
theorem RdP.of_own {w : World} {B : Nat} {v : Value} {l : List Part} (h : w.ownsRow B 29 3 v l.length (flatP l)) : RdP w v l := by
  have hx := h
  rcases h.2 with ⟨rfl, h0⟩ | ⟨g, cap, cur, rfl, _, hg, h2, h3, _⟩
  · have : l = [] := List.eq_nil_of_length_eq_zero h0
    subst this
    exact RdP.nil w
  · exact RdP.of_flat h2 h3 fun _ => ⟨g, 0, rfl, (hx.lt g rfl).2, fun j u hu => by
      have := hx.cells (g := g) rfl j u hu
      rw [add_at] at this
      exact this⟩

theorem info29 : (Tryd.prog.info? 29).map (fun i => (i.zero, i.size, i.bytes)) = some (some (.agg #[.bool false, .int .u64 0, .string ⟨#[]⟩]), 3, 32) := by kernel_rfl

set_option maxRecDepth 100000 in
set_option maxHeartbeats 2000000 in
theorem clone_any (l : List Part) (v : Value) (w : World) (hv : RdP w v l) (hl : l.length ≤ 1000000) :
    Calls Tryd.prog 12 #[v] w fun e w' => ∃ v', e = .returned v' ∧ w'.ownsRow w.heap.size 29 3 v' l.length (flatP l) ∧ Below w.heap.size w w' := by
  obtain ⟨a, cap, rfl, hlc, hcm, hcell⟩ := hv.flat
  obtain ⟨i0, hi, hz0, hz1, hz2⟩ := info_parts info29
  have q22 : ∀ (w : World) (a : Option Addr) (n c n' c' : Nat), (binOp .eql 22 (.slice a n c) (.slice none n' c')).run Tryd.prog w = .ok (.bool a.isNone) w := fun w a n c n' c' => Lib.run_eql_slice_nil w _ _ a n c n' c' Tryd.underlying22
  cases a with
  | none =>
    have h0 : l.length = 0 := by
      rcases Nat.eq_zero_or_pos l.length with h | h
      · exact h
      · obtain ⟨g, o, e, _⟩ := hcell h; cases e
    have : l = [] := List.eq_nil_of_length_eq_zero h0
    subst this
    clear hcell hv
    go_enter Tryd.func12, Tryd.ntmps12
    go_wp2
    go_ret
    exact ⟨_, rfl, World.ownsRow_nil _ _ _ _, Below.refl _ _⟩
  | some ad =>
    have hnews : ∀ (j : Nat) (u : Value), (flatP l)[j]? = some u → (w.alloc (.cells #[] 29)).cell? (ad.add j) = some u := fun j u hu => by
      have h0 : 0 < l.length := by
        have := (List.getElem?_eq_some_iff.1 hu).1
        rw [flatP_len] at this
        omega
      obtain ⟨g, o, e, hg, hc⟩ := hcell h0
      cases e
      rw [add_at]
      exact Lib.cell?_alloc_some _ (hc j u hu)
    obtain ⟨n, hn⟩ : ∃ n, n = l.length := ⟨_, rfl⟩
    have hfl := flatP_len l
    rw [← hn] at hfl hl hlc
    rw [← hn]
    have HFL := Lib.hid hfl
    have HNW := Lib.hid hnews
    clear hcell hv hn hfl hnews
    go_enter Tryd.func12, Tryd.ntmps12
    go_wp2_with (at_builtin; refine wpList_append_own _ rfl _ _ 22 rfl w.heap.size 29 i0 (.agg #[.bool false, .int .u64 0, .string ⟨#[]⟩]) 3 32 Tryd.underlying22 hi hz0 hz1 hz2 rfl (by decide) _ _ _ rfl (World.ownsRow_made w #[] 0 (Nat.le_refl _) (Nat.zero_le _) rfl) ad n cap (flatP l) rfl HFL.out HNW.out (flat_one l) (by unfold maxLen; omega) (by omega) (by simp) ?_)
    intro v' w1 hown hgrow _
    go_wp2
    go_ret
    refine ⟨v', rfl, by simpa using hown, ?_⟩
    exact ((Below.refl _ w).alloc (Nat.le_refl _) _).grown hgrow (by simp) (by intro k hk; simp [Value.ownBlock] at hk; omega)
end Go.Proofs.YtmamolhclohniaaDoor
