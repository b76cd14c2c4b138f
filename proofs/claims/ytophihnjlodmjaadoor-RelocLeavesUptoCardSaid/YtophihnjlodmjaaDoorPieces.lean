/- Proved here: strings.Split at one nought gives the pieces between noughts. -/
import Derived.Test.YtophihnjlodmjaaDoorOwn
import Derived.Lib.Split
import Derived.Lib.CountLaws
namespace Go.Proofs.YtophihnjlodmjaaDoor
open Go.RowKit Go.Shelf

theorem idx_none : ∀ {r : Bs}, 0 ∉ r → Lib.index r [0] = -1
  | [], _ => rfl
  | c :: r, h => by
    have h1 : (0 : UInt8) ≠ c := fun e => h (by rw [← e]; exact List.mem_cons_self)
    have ih := idx_none (r := r) fun x => h (List.mem_cons_of_mem _ x)
    unfold Lib.index
    rw [ih]
    have e : List.isPrefixOf [(0 : UInt8)] (c :: r) = false := by simp [List.isPrefixOf, h1]
    rw [e]; rfl
theorem idx_some : ∀ {r : Bs} (x : Bs), 0 ∉ r → Lib.index (r ++ 0 :: x) [0] = (r.length : Int)
  | [], x, _ => by unfold Lib.index; simp [List.isPrefixOf]
  | c :: r, x, h => by
    have h1 : (0 : UInt8) ≠ c := fun e => h (by rw [← e]; exact List.mem_cons_self)
    have ih := idx_some (r := r) x fun y => h (List.mem_cons_of_mem _ y)
    rw [List.cons_append]
    unfold Lib.index
    rw [ih]
    have e : List.isPrefixOf [(0 : UInt8)] (c :: (r ++ 0 :: x)) = false := by simp [List.isPrefixOf, h1]
    have e2 : (((r.length : Int)) == -1) = false := by rw [beq_eq_false_iff_ne]; omega
    rw [e, e2]
    simp
theorem cut_at : ∀ (l : Bs), 0 ∈ l → ∃ r x, l = r ++ 0 :: x ∧ 0 ∉ r
  | [], h => by simp at h
  | c :: l, h => by
    by_cases hc : c = 0
    · exact ⟨[], l, by rw [hc]; rfl, by simp⟩
    · have h' : 0 ∈ l := by
        rcases List.mem_cons.1 h with h | h
        · exact absurd h.symm hc
        · exact h
      obtain ⟨r, x, e, h2⟩ := cut_at l h'
      exact ⟨c :: r, x, by rw [e]; rfl, by simp only [List.mem_cons, not_or]; exact ⟨fun e => hc e.symm, h2⟩⟩
theorem split_zpcs : ∀ (n : Nat) (l : Bs), l.length ≤ n → Lib.splitK [0] 0 (Lib.count l [0]) l = zpcs l := by
  intro n
  induction n with
  | zero =>
    intro l hl
    have : l = [] := List.length_eq_zero_iff.1 (by omega)
    subst this
    rfl
  | succ n ih =>
    intro l hl
    by_cases h0 : 0 ∈ l
    · obtain ⟨r, x, rfl, hr⟩ := cut_at l h0
      have hi := idx_some x hr
      rw [Lib.count_hit (by decide) hi, Nat.add_comm 1, Lib.splitK, hi]
      have e2 : (((r.length : Int)) == -1) = false := by rw [beq_eq_false_iff_ne]; omega
      rw [e2]
      have hd : (r ++ 0 :: x).drop (r.length + [(0 : UInt8)].length) = x := by
        rw [← List.drop_drop, List.drop_left' rfl]; rfl
      have ht : (r ++ 0 :: x).take r.length = r := List.take_left' rfl
      simp only [Int.toNat_natCast, Nat.add_zero, Bool.false_eq_true, if_false]
      rw [hd, ht, (zpcs_run hr).2, ih x (by simp at hl; omega)]
    · have hi := idx_none h0
      rw [Lib.count_miss hi, Lib.splitK, (zpcs_run h0).1]
/-- The pieces, as texts. -/
theorem pieces_of (l : Bs) : Lib.splitB ⟨#[0]⟩ 0 (Lib.countB ⟨l.toArray⟩ ⟨#[0]⟩) ⟨l.toArray⟩ = (zpcs l).map fun r => (⟨r.toArray⟩ : ByteArray) := by
  have h := Lib.splitB_data ⟨#[0]⟩ 0 (Lib.countB ⟨l.toArray⟩ ⟨#[0]⟩) ⟨l.toArray⟩
  have h2 := split_zpcs l.length l (Nat.le_refl _)
  have e : Lib.splitB ⟨#[0]⟩ 0 (Lib.countB ⟨l.toArray⟩ ⟨#[0]⟩) ⟨l.toArray⟩ = ((Lib.splitB ⟨#[0]⟩ 0 (Lib.countB ⟨l.toArray⟩ ⟨#[0]⟩) ⟨l.toArray⟩).map (·.data.toList)).map fun r => (⟨r.toArray⟩ : ByteArray) := by
    rw [List.map_map]
    exact (List.map_id _).symm.trans (List.map_congr_left fun s _ => by cases s; rfl)
  rw [e, h]
  exact congrArg _ h2
end Go.Proofs.YtophihnjlodmjaaDoor
