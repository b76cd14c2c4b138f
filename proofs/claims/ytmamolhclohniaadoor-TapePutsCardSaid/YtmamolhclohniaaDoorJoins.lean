/- Proved here: TapeJoins of puncheonlaw02 returns true, whatever two rows of parts it is called with. -/
import Derived.Test.YtmamolhclohniaaDoorFirst
import Derived.Laws.AppendOwnNone
namespace Go.Proofs.YtmamolhclohniaaDoor
open Go.RowKit Go.Shelf

theorem owns_below3 {w w' : World} {base n : Nat} {v : Value} {xs : List Value} (h : w.ownsRow base 29 3 v n xs) (hb : Below w.heap.size w w') : w'.ownsRow base 29 3 v n xs :=
  h.kept (row := none) ⟨hb.os, hb.tape, hb.output, hb.size, fun k hk _ => hb.block k hk⟩ (Classical.em _)

/-- 'append(v, x...)', both in memory of the call's own, nil or not. -/
theorem wpList_append_both {w : World} {ops : Array Oper} {rest : List Oper} {o : Oper} {a : Act} {Q : Exit → Act → World → Prop} (hgd : o.guard = none) (s x : Operand)
    (ho : o.op = .call { callee := .builtin .append, args := #[s, x], argTypes := #[22, 22] }) (base base2 : Nat) (v vx : Value) (l m : List Part) (hs : a.eval s = v) (hown : w.ownsRow base 29 3 v l.length (flatP l)) (hx : a.eval x = vx) (hsrc : w.ownsRow base2 29 3 vx m.length (flatP m))
    (hb : base ≤ w.heap.size) (hl : l.length + m.length ≤ 100000)
    (h : ∀ v' w', w'.ownsRow base 29 3 v' (l ++ m).length (flatP (l ++ m)) → Below base w w' → wpList Tryd.prog ops Q rest (a.put o.dst v') w') : wpList Tryd.prog ops Q (o :: rest) a w := by
  obtain ⟨i0, hi, hz0, hz1, hz2⟩ := info_parts info29
  rcases id hsrc with ⟨hlen, ⟨rfl, h0⟩ | ⟨g, cap, cur, rfl, hg, hh, r⟩⟩
  · have : m = [] := List.eq_nil_of_length_eq_zero h0
    subst this
    refine wpList_append_own_none hgd s x 22 ho base 29 i0 3 Tryd.underlying22 hi v _ _ hs hown hx (h v w ?_ (Below.refl _ _))
    rw [List.append_nil]
    exact hown
  · refine wpList_append_own _ hgd s x 22 ho base 29 i0 (.agg #[.bool false, .int .u64 0, .string ⟨#[]⟩]) 3 32 Tryd.underlying22 hi hz0 hz1 hz2 rfl (by decide) v _ _ hs hown ⟨g, 0, none⟩ m.length cap (flatP m) hx (flatP_len m) (hsrc.cells (g := g) rfl) (flat_one m) (by unfold maxLen; omega) (by omega) hb ?_
    intro v' w' ho' hgr _
    refine h v' w' (by rw [List.length_append, flatP_append]; exact ho') ((Below.refl _ w).grown hgr hb (fun k hk => (hown.lt k hk).1))

theorem few_right (l : List Part) (h : l.length ≤ 20000) : (fewL l).length ≤ 100 ∧ (rowL (fewL l)).length ≤ 400 * (fewL l).length ∨ ¬ (∀ p ∈ l, p.num < 18446744073709551616) := by
  by_cases hf : ∀ p ∈ l, p.num < 18446744073709551616
  · left
    have e : fewL l = (l.take 100).map cutT := by unfold fewL; rw [if_neg (by omega)]
    rw [e]
    refine ⟨by simp; omega, ?_⟩
    have hf2 : ∀ p ∈ l.take 100, p.num < 18446744073709551616 := fun p hp => hf p (List.mem_of_mem_take hp)
    generalize l.take 100 = k at hf2
    induction k with
    | nil => simp [rowL]
    | cons p k ih =>
      have h1 := ih (fun q hq => hf2 q (by simp [hq]))
      have h2 := says_len (cutT p) (hf2 p (by simp)) (cutT_len p)
      rw [List.map_cons, rowL_cons, List.length_append, List.length_cons]
      omega
  · exact .inr hf

theorem few_num (l : List Part) (h : ∀ p ∈ l, p.num < 18446744073709551616) : ∀ p ∈ fewL l, p.num < 18446744073709551616 := by
  unfold fewL
  split
  · exact fun p hp => h p (List.mem_of_mem_take hp)
  · intro p hp
    obtain ⟨q, hq, rfl⟩ := List.mem_map.1 hp
    exact h q (List.mem_of_mem_take hq)

/-- Of few's parts: at most a hundred, of few bytes; or more than the row may have. -/
theorem few_len (l : List Part) (h : ∀ p ∈ l, p.num < 18446744073709551616) : ((fewL l).length ≤ 100 ∧ (rowL (fewL l)).length ≤ 40000) ∨ (20000 < (fewL l).length ∧ (fewL l).length ≤ 20001) := by
  by_cases hl : 20000 < l.length
  · right
    unfold fewL
    rw [if_pos hl]
    simp
    omega
  · left
    rcases few_right l (by omega) with ⟨h1, h2⟩ | h1
    · exact ⟨h1, by omega⟩
    · exact absurd h h1

theorem putRes_cases (l : List Part) : (putRes l = (rowL l, 0) ∧ l.all rightB = true ∧ l.length ≤ 20000) ∨ ∃ e, putRes l = ([], e) ∧ (e = 2 ∨ e = 3) ∧ (l.all rightB = false ∨ 20000 < l.length) := by
  unfold putRes
  cases h : l.all rightB with
  | false => exact .inr ⟨2, rfl, .inl rfl, .inl rfl⟩
  | true =>
    by_cases hl : 20000 < l.length
    · exact .inr ⟨3, by simp [hl], .inr rfl, .inr hl⟩
    · exact .inl ⟨by simp [hl], rfl, by omega⟩

theorem joins_math (a b : List Part) (ha : a.length ≤ 100 ∨ 20000 < a.length) (hb : b.length ≤ 100 ∨ 20000 < b.length) :
    (putRes a = (rowL a, 0) ∧ putRes b = (rowL b, 0) ∧ putRes (a ++ b) = (rowL a ++ rowL b, 0) ∧ a.length ≤ 100 ∧ b.length ≤ 100) ∨
    ∃ (x y : Str) (e f g : Int), putRes a = (x, e) ∧ putRes b = (y, f) ∧ putRes (a ++ b) = ([], g) ∧ (e = 2 ∨ e = 3 ∨ (e = 0 ∧ (f = 2 ∨ f = 3))) ∧ (g = 2 ∨ g = 3) := by
  rcases putRes_cases a with ⟨h1, h2, h3⟩ | ⟨e, h1, he, h2⟩
  · rcases putRes_cases b with ⟨k1, k2, k3⟩ | ⟨f, k1, hf, k2⟩
    · left
      refine ⟨h1, k1, ?_, by omega, by omega⟩
      rw [putRes_good (by simp [h2, k2]) (by rw [List.length_append]; omega), rowL_append]
    · right
      rcases putRes_cases (a ++ b) with ⟨q1, q2, q3⟩ | ⟨g, q1, hg, _⟩
      · exfalso
        rw [List.all_append, h2, Bool.true_and] at q2
        rw [List.length_append] at q3
        rcases k2 with k2 | k2
        · rw [k2] at q2; cases q2
        · omega
      · exact ⟨_, _, 0, f, g, h1, k1, q1, .inr (.inr ⟨rfl, hf⟩), hg⟩
  · right
    rcases putRes_cases (a ++ b) with ⟨q1, q2, q3⟩ | ⟨g, q1, hg, _⟩
    · exfalso
      rw [List.all_append, Bool.and_eq_true] at q2
      rw [List.length_append] at q3
      rcases h2 with h2 | h2
      · rw [h2] at q2; cases q2.1
      · omega
    · rcases putRes_cases b with ⟨k1, _⟩ | ⟨f, k1, _⟩
      · exact ⟨_, _, e, 0, g, h1, k1, q1, by omega, hg⟩
      · exact ⟨_, _, e, f, g, h1, k1, q1, by omega, hg⟩
end Go.Proofs.YtmamolhclohniaaDoor
