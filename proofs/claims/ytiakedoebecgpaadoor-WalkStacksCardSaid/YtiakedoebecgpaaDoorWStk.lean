/- Proved here: what WalkStacks asks, of lists alone; and cut of puncheonlaw07 over a row that may be read. -/
import Derived.Test.YtiakedoebecgpaaDoorWWakes
import Derived.Test.YtiakedoebecgpaaDoorFew
namespace Go.Proofs.YtiakedoebecgpaaDoor
open Go.RowKit Go.Shelf

theorem lookF_ok {l : List It} {s : Str} : ∀ {ds : List Str} {k i : Nat} {x : It}, lookF l s ds k = .ok (i, x) → k ≤ i ∧ i - k < ds.length ∧ (∀ j d, ds[j]? = some d → j + k < i → ∃ z, leadM l d s true = .error z) ∧ ∀ d, ds[i - k]? = some d → ∃ n, leadM l d s true = .ok (x, n)
  | [], k, i, x, h => by cases h
  | d0 :: ds, k, i, x, h => by
    unfold lookF at h
    cases e : leadM l d0 s true with
    | ok r =>
      rw [e] at h
      simp only [Except.ok.injEq, Prod.mk.injEq] at h
      obtain ⟨rfl, rfl⟩ := h
      refine ⟨Nat.le_refl _, by simp, fun j d hj hlt => by omega, fun d hd => ?_⟩
      rw [Nat.sub_self] at hd
      cases hd
      exact ⟨r.2, e⟩
    | error z =>
      rw [e] at h
      obtain ⟨h1, h2, h3, h4⟩ := lookF_ok h
      refine ⟨by omega, by rw [List.length_cons]; omega, fun j d hj hlt => ?_, fun d hd => ?_⟩
      · cases j with
        | zero => cases hj; exact ⟨z, e⟩
        | succ j => exact h3 j d hj (by omega)
      · rw [show i - k = (i - (k + 1)) + 1 by omega] at hd
        exact h4 d hd
theorem lookF_err {l : List It} {s : Str} : ∀ {ds : List Str} {k : Nat} {z : Int}, lookF l s ds k = .error z → z = 4 ∧ ∀ d ∈ ds, ∃ y, leadM l d s true = .error y
  | [], k, z, h => by cases h; exact ⟨rfl, fun d hd => by cases hd⟩
  | d0 :: ds, k, z, h => by
    unfold lookF at h
    cases e : leadM l d0 s true with
    | ok r => rw [e] at h; cases h
    | error y =>
      rw [e] at h
      obtain ⟨h1, h2⟩ := lookF_err h
      refine ⟨h1, fun d hd => ?_⟩
      rcases List.mem_cons.1 hd with rfl | hd
      · exact ⟨y, e⟩
      · exact h2 d hd
/-- The first place, one further on. -/
def oneOn : Except Int (Nat × It) → Except Int (Nat × It)
  | .ok r => .ok (r.1 + 1, r.2)
  | .error z => .error z
theorem lookF_succ (l : List It) (s : Str) : ∀ (ds : List Str) (k : Nat), lookF l s ds (k + 1) = oneOn (lookF l s ds k)
  | [], _ => rfl
  | d0 :: ds, k => by
    unfold lookF
    cases e : leadM l d0 s true with
    | ok r => rfl
    | error z => exact lookF_succ l s ds (k + 1)
def noPath : Str := [110, 111, 32, 112, 97, 116, 104]
theorem noPath_bad : validB noPath = false := by decide
theorem look_more (l : List It) (ds : List Str) (s : Str) : lookM l (noPath :: ds) s = oneOn (lookM l ds s) := by
  unfold lookM
  split
  · rfl
  · split
    · rfl
    · rw [← lookF_succ]
      have : leadM l noPath s true = .error 110 := by
        unfold leadM
        rw [if_pos noPath_bad]
      rw [lookF, this]
/-- What a round of the law finds. -/
def RoundOk (E I : Int) (y : It) (k : Nat) (r : Except Int (It × Nat)) : Prop :=
  (E ≠ 0 ∧ I = -1 ∧ ∃ z, r = .error z) ∨ (E = 0 ∧ (k : Int) < I ∧ ∃ z, r = .error z) ∨ (E = 0 ∧ (k : Int) = I ∧ ∃ n, r = .ok (y, n)) ∨ (E = 0 ∧ I < (k : Int))
theorem look_rounds {l : List It} {ds : List Str} {s : Str} {R : Except Int (Nat × It)} (h : lookM l ds s = R) (hR : R = .error 4 ∨ ∃ r, R = .ok r) :
    ∀ k d, ds[k]? = some d → RoundOk (errL R) (placeL R) (itL R) k (walkM l d s true) := by
  intro k d hd
  have hw : lookM l ds s = lookF l s ds 0 ∧ walkM l d s true = leadM l d s true := by
    unfold lookM at h ⊢
    unfold walkM
    cases hv : validT l with
    | false => rw [hv, if_pos rfl] at h; rcases hR with h4 | ⟨r, h4⟩ <;> rw [h4] at h <;> cases h
    | true =>
      rw [hv, if_neg (by decide)] at h
      by_cases hs : 2000 < s.length
      · rw [if_pos hs] at h; rcases hR with h4 | ⟨r, h4⟩ <;> rw [h4] at h <;> cases h
      · rw [if_neg (by decide), if_neg hs, if_neg (by decide), if_neg hs]; exact ⟨rfl, rfl⟩
  rw [hw.2]
  rw [hw.1] at h
  rcases hR with rfl | ⟨⟨i, x⟩, rfl⟩
  · exact .inl ⟨by decide, rfl, (lookF_err h).2 d (List.mem_of_getElem? hd)⟩
  · obtain ⟨-, h2, h3, h4⟩ := lookF_ok h
    rcases Nat.lt_trichotomy k i with hlt | rfl | hgt
    · exact .inr (.inl ⟨rfl, by show (k : Int) < (i : Int); omega, h3 k d hd (by omega)⟩)
    · exact .inr (.inr (.inl ⟨rfl, rfl, h4 d (by rw [Nat.sub_zero]; exact hd)⟩))
    · exact .inr (.inr (.inr ⟨rfl, by show (i : Int) < (k : Int); omega⟩))
theorem look_place {l : List It} {ds : List Str} {s : Str} {i : Nat} {x : It} (h : lookM l ds s = .ok (i, x)) : i < ds.length := by
  unfold lookM at h
  split at h
  · cases h
  · split at h
    · cases h
    · have := (lookF_ok h).2.1; omega
theorem look_ne {l : List It} {ds : List Str} {s : Str} {z : Int} (h : lookM l ds s = .error z) : z ≠ 0 := by
  unfold lookM at h
  split at h
  · cases h; decide
  · split at h
    · cases h; decide
    · rw [(lookF_err h).1]; decide

theorem txt_of (ds : List Str) : txt (ds.map fun x => (⟨x.toArray⟩ : ByteArray)) = ds := by
  unfold txt
  rw [List.map_map]
  induction ds with
  | nil => rfl
  | cons d ds ih => rw [List.map_cons, ih]; simp
theorem cut7_any (ds : List Str) (dv : Value) (w : World) (hd : RdS w dv ds) (hs : ∀ x ∈ ds, x.length ≤ 140737488355328) :
    Calls Tryd.prog 22 #[dv] w fun e w' => ∃ v, e = .returned v ∧ w'.ownsRow w.heap.size 9 1 v (fewL ds).length ((fewL ds).map encS) ∧ Below w.heap.size w w' := by
  obtain ⟨a, cap, rfl, h1, h2, h3⟩ := hd
  rcases Nat.eq_zero_or_pos ds.length with h0 | h0
  · have : ds = [] := List.eq_nil_of_length_eq_zero h0
    subst this
    exact few_none a cap h2 w
  · obtain ⟨g, o, rfl, hg, hc⟩ := h3 h0
    have hl : (ds.map fun x => (⟨x.toArray⟩ : ByteArray)).length = ds.length := List.length_map _
    have := few_loop g o ds.length cap (ds.map fun x => (⟨x.toArray⟩ : ByteArray)) w h0 (by rw [hl]; exact Nat.le_refl _) h1 (fun s hs' => by
      obtain ⟨x, hx, rfl⟩ := List.mem_map.1 hs'
      have := hs x hx
      show x.toArray.size ≤ maxLen
      unfold maxLen
      rw [List.size_toArray]; omega) (fun j hj => by
      rw [hl] at hj
      have e : ds[j]? = some ds[j] := List.getElem?_eq_getElem hj
      rw [hc j _ e, List.getD_eq_getElem?_getD, List.getElem?_map, e]
      rfl)
    rw [List.take_of_length_le (by rw [hl]; exact Nat.le_refl _), txt_of] at this
    exact this
theorem rdS_own {w : World} {B : Nat} {v : Value} {l : List Str} (h : w.ownsRow B 9 1 v l.length (l.map encS)) : RdS w v l := by
  obtain ⟨a, c, h1, h2, h3, h4⟩ := RdF.of_own h
  refine ⟨a, c, h1, h2, h3, fun h0 => ?_⟩
  obtain ⟨g, o, e, hg, hc⟩ := h4 h0
  exact ⟨g, o, e, hg, fun j x hj => hc j _ (by rw [List.getElem?_map, hj]; rfl)⟩
end Go.Proofs.YtiakedoebecgpaaDoor
