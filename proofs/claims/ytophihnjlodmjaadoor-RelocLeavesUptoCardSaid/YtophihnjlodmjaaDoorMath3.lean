/- Plain words on what stands instead of a prefix, place by place. Nothing of the program stands here. -/
import Derived.Test.YtophihnjlodmjaaDoorMath2
namespace Go.Proofs.YtophihnjlodmjaaDoor

theorem gaps_le {n L : Nat} : ∀ {ps : List Nat} {d : Nat}, Gaps n L d ps → d ≤ L := by
  intro ps d h
  cases ps with
  | nil => exact h
  | cons i ps => have := h.1; have := h.2.1; omega
theorem cut_take (l to : Bs) (n : Nat) (ps : List Nat) {k : Nat} (hk : k < ps.length) : cutF l to n (ps.take (k + 1)) = stepC l to n (cutF l to n (ps.take k)) ps[k] := by
  rw [List.take_succ_eq_append_getElem hk, cutF_snoc]
theorem cut_gaps (l to : Bs) (n : Nat) (ps : List Nat) (h : Gaps n l.length 0 ps) : ∀ k, k ≤ ps.length → Gaps n l.length (cutF l to n (ps.take k)).last (ps.drop k) := by
  intro k
  induction k with
  | zero => intro _; exact h
  | succ k ih =>
    intro hk
    have := ih (by omega)
    rw [List.drop_eq_getElem_cons (show k < ps.length by omega)] at this
    rw [cut_take l to n ps (show k < ps.length by omega)]
    exact this.2.2
theorem cut_next (l to : Bs) (n : Nat) (ps : List Nat) (h : Gaps n l.length 0 ps) {k : Nat} (hk : k < ps.length) : (cutF l to n (ps.take k)).last ≤ ps[k] ∧ ps[k] + n ≤ l.length := by
  have := cut_gaps l to n ps h k (by omega)
  rw [List.drop_eq_getElem_cons hk] at this
  exact ⟨this.1, this.2.1⟩
theorem cut_size (l to : Bs) (n : Nat) (ps : List Nat) (h : Gaps n l.length 0 ps) : ∀ k, k ≤ ps.length → (cutF l to n (ps.take k)).last ≤ l.length ∧ (cutF l to n (ps.take k)).out.length + k * n = (cutF l to n (ps.take k)).last + k * to.length ∧ (cutF l to n (ps.take k)).ats.length = k := by
  intro k
  induction k with
  | zero => intro _; exact ⟨Nat.zero_le _, by simp [cutF], rfl⟩
  | succ k ih =>
    intro hk
    obtain ⟨h1, h2, h3⟩ := ih (by omega)
    have hg := cut_gaps l to n ps h (k + 1) hk
    have hn := cut_next l to n ps h (show k < ps.length by omega)
    refine ⟨gaps_le hg, ?_, ?_⟩
    · rw [cut_take l to n ps (show k < ps.length by omega)]
      have hl := take_len l (cutF l to n (ps.take k)).last ps[k] (by omega)
      simp only [stepC, List.length_append, hl, Nat.succ_mul]
      omega
    · rw [cut_take l to n ps (show k < ps.length by omega)]
      simp only [stepC, List.length_append, h3, List.length_cons, List.length_nil]
/-- At the end. -/
theorem cut_all (fr to l : Bs) : cutF l to fr.length ((plcs fr l).take (plcs fr l).length) = cutF l to fr.length (plcs fr l) := by rw [List.take_length]
theorem plcs_count (p l : Bs) (hp : 1 ≤ p.length) : (plcs p l).length ≤ l.length := by
  have := (plcs_gaps p l).count
  have h2 : (plcs p l).length * 1 ≤ (plcs p l).length * p.length := Nat.mul_le_mul_left _ hp
  omega
/-- What is made is not too long. -/
theorem cut_room {l tt : Bs} {n : Nat} {ps : List Nat} (h : Gaps n l.length 0 ps) (hl : l.length ≤ 1000000) (ht : tt.length ≤ 1000) (hps : ps.length ≤ l.length) {k : Nat} (hk : k ≤ ps.length) : (cutF l tt n (ps.take k)).out.length ≤ 1001000000 := by
  obtain ⟨h1, h2, _⟩ := cut_size l tt n ps h k hk
  have h3 : k * tt.length ≤ 1000000 * 1000 := Nat.mul_le_mul (by omega) ht
  omega
theorem atR_end (l to : Bs) (n : Nat) : ∀ (ps : List Nat) (off d : Nat), Gaps n l.length d ps → ∀ i ∈ atR n to.length off d ps, i ≤ off + (putR l to n d ps).length := by
  intro ps
  induction ps with
  | nil => intro off d _ i hi; cases hi
  | cons j ps ih =>
    intro off d h i hi
    have hl := take_len l d j (by have := h.2.1; omega)
    simp only [putR, List.length_append, hl]
    rcases List.mem_cons.1 hi with rfl | hi
    · omega
    · have := ih _ _ h.2.2 i hi; omega
theorem putA_le (fr to l : Bs) : ∀ i ∈ putA fr to l, i ≤ (putO fr to l).length := by
  intro i hi
  rw [putA_eq] at hi
  rw [putO_eq]
  have := atR_end l to fr.length (plcs fr l) 0 0 (plcs_gaps fr l) i hi
  omega
end Go.Proofs.YtophihnjlodmjaaDoor
