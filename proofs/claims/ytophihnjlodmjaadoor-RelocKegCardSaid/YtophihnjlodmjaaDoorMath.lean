/- Plain words on bytes in which a prefix stands: its places, what stands there instead, runs and noughts, and the way back. Nothing of the program stands here. -/
namespace Go.Proofs.YtophihnjlodmjaaDoor

abbrev Bs := List UInt8

/-! ### Places -/
/-- Does p stand in l at i? -/
def standsB (p l : Bs) (i : Nat) : Bool := (l.drop i).take p.length == p
/-- The places of p in l from a on. -/
def plF (p l : Bs) : Nat → Nat → List Nat
  | 0, _ => []
  | f + 1, a => if a + p.length ≤ l.length then (if standsB p l a = true then a :: plF p l f (a + p.length) else plF p l f (a + 1)) else []
def plcs (p l : Bs) : List Nat := plF p l (l.length + 1) 0

/-- Rising places of n bytes each, from d on, none over another one. -/
def Gaps (n L : Nat) : Nat → List Nat → Prop
  | d, [] => d ≤ L
  | d, i :: ps => d ≤ i ∧ i + n ≤ L ∧ Gaps n L (i + n) ps

theorem plF_gaps (p l : Bs) : ∀ (f a d : Nat), d ≤ a → d ≤ l.length → Gaps p.length l.length d (plF p l f a) := by
  intro f
  induction f with
  | zero => intro a d _ h; exact h
  | succ f ih =>
    intro a d hd hl
    rw [plF]
    by_cases h : a + p.length ≤ l.length
    · rw [if_pos h]
      by_cases hs : standsB p l a = true
      · rw [if_pos hs]; exact ⟨hd, h, ih _ _ (Nat.le_refl _) h⟩
      · rw [if_neg hs]; exact ih _ _ (by omega) hl
    · rw [if_neg h]; exact hl
theorem plcs_gaps (p l : Bs) : Gaps p.length l.length 0 (plcs p l) := plF_gaps p l _ _ _ (Nat.le_refl _) (Nat.zero_le _)
theorem plF_stands (p l : Bs) : ∀ (f a : Nat), ∀ i ∈ plF p l f a, standsB p l i = true := by
  intro f
  induction f with
  | zero => intro a i hi; cases hi
  | succ f ih =>
    intro a i hi
    rw [plF] at hi
    by_cases h : a + p.length ≤ l.length
    · rw [if_pos h] at hi
      by_cases hs : standsB p l a = true
      · rw [if_pos hs] at hi
        rcases List.mem_cons.1 hi with rfl | hi
        · exact hs
        · exact ih _ _ hi
      · rw [if_neg hs] at hi; exact ih _ _ hi
    · rw [if_neg h] at hi; cases hi
theorem plcs_stands (p l : Bs) : ∀ i ∈ plcs p l, standsB p l i = true := plF_stands p l _ _
theorem plcs_empty (p : Bs) (hp : 1 ≤ p.length) : plcs p [] = [] := by
  unfold plcs
  rw [plF, if_neg (by simp; exact List.ne_nil_of_length_pos hp)]
theorem Gaps.count {n L : Nat} : ∀ {ps : List Nat} {d : Nat}, Gaps n L d ps → d + ps.length * n ≤ L := by
  intro ps
  induction ps with
  | nil => intro d h; have h : d ≤ L := h; simpa using h
  | cons i ps ih =>
    intro d h
    have := ih h.2.2
    have h1 := h.1
    simp only [List.length_cons, Nat.succ_mul]
    omega
theorem Gaps.mem {n L : Nat} : ∀ {ps : List Nat} {d : Nat}, Gaps n L d ps → ∀ i ∈ ps, d ≤ i ∧ i + n ≤ L := by
  intro ps
  induction ps with
  | nil => intro d _ i hi; cases hi
  | cons j ps ih =>
    intro d h i hi
    rcases List.mem_cons.1 hi with rfl | hi
    · exact ⟨h.1, h.2.1⟩
    · have := ih h.2.2 i hi; have := h.1; omega

/-! ### What stands there instead -/
structure Cut where
  out : Bs
  ats : List Nat
  last : Nat
def stepC (l to : Bs) (n : Nat) (s : Cut) (i : Nat) : Cut :=
  ⟨s.out ++ (l.drop s.last).take (i - s.last) ++ to, s.ats ++ [(s.out ++ (l.drop s.last).take (i - s.last)).length], i + n⟩
def cutF (l to : Bs) (n : Nat) (ps : List Nat) : Cut := ps.foldl (stepC l to n) ⟨[], [], 0⟩
theorem cutF_snoc (l to : Bs) (n : Nat) (ps : List Nat) (i : Nat) : cutF l to n (ps ++ [i]) = stepC l to n (cutF l to n ps) i := by
  unfold cutF; rw [List.foldl_append]; rfl
def putO (fr to l : Bs) : Bs := (cutF l to fr.length (plcs fr l)).out ++ l.drop (cutF l to fr.length (plcs fr l)).last
def putA (fr to l : Bs) : List Nat := (cutF l to fr.length (plcs fr l)).ats

def putR (l to : Bs) (n : Nat) : Nat → List Nat → Bs
  | d, [] => l.drop d
  | d, i :: ps => (l.drop d).take (i - d) ++ to ++ putR l to n (i + n) ps
def atR (n m : Nat) : Nat → Nat → List Nat → List Nat
  | _, _, [] => []
  | off, d, i :: ps => (off + (i - d)) :: atR n m (off + (i - d) + m) (i + n) ps

theorem fold_putR (l to : Bs) (n : Nat) : ∀ (ps : List Nat) (s : Cut), (ps.foldl (stepC l to n) s).out ++ l.drop (ps.foldl (stepC l to n) s).last = s.out ++ putR l to n s.last ps := by
  intro ps
  induction ps with
  | nil => intro s; rfl
  | cons i ps ih =>
    intro s
    rw [List.foldl_cons, ih]
    simp [stepC, putR]
theorem putO_eq (fr to l : Bs) : putO fr to l = putR l to fr.length 0 (plcs fr l) := by
  unfold putO cutF; rw [fold_putR]; rfl
theorem take_len (l : Bs) (d i : Nat) (h : i ≤ l.length) : ((l.drop d).take (i - d)).length = i - d := by
  rw [List.length_take, List.length_drop]; omega
theorem fold_atR (l to : Bs) (n : Nat) : ∀ (ps : List Nat) (s : Cut), Gaps n l.length s.last ps → (ps.foldl (stepC l to n) s).ats = s.ats ++ atR n to.length s.out.length s.last ps := by
  intro ps
  induction ps with
  | nil => intro s _; simp [atR]
  | cons i ps ih =>
    intro s h
    rw [List.foldl_cons, ih _ h.2.2]
    have hl := take_len l s.last i (by have := h.2.1; omega)
    simp only [stepC, atR, List.length_append, hl, List.append_assoc, List.cons_append, List.nil_append, Nat.add_assoc]
theorem putA_eq (fr to l : Bs) : putA fr to l = atR fr.length to.length 0 0 (plcs fr l) := by
  unfold putA cutF; rw [fold_atR _ _ _ _ _ (plcs_gaps fr l)]; rfl

theorem atR_len (n m : Nat) : ∀ (ps : List Nat) (off d : Nat), (atR n m off d ps).length = ps.length := by
  intro ps
  induction ps with
  | nil => intros; rfl
  | cons i ps ih => intro off d; simp only [atR, List.length_cons, ih]
theorem putA_len (fr to l : Bs) : (putA fr to l).length = (plcs fr l).length := by rw [putA_eq, atR_len]
theorem putR_len (l to : Bs) (n : Nat) : ∀ (ps : List Nat) (d : Nat), Gaps n l.length d ps → (putR l to n d ps).length + d + ps.length * n = l.length + ps.length * to.length := by
  intro ps
  induction ps with
  | nil => intro d h; unfold Gaps at h; simp [putR]; omega
  | cons i ps ih =>
    intro d h
    have e := ih (i + n) h.2.2
    have hl := take_len l d i (by have := h.2.1; omega)
    have h1 := h.1
    simp only [putR, List.length_append, hl, List.length_cons, Nat.succ_mul]
    omega
theorem putO_len (fr to l : Bs) : (putO fr to l).length + (plcs fr l).length * fr.length = l.length + (plcs fr l).length * to.length := by
  have := putR_len l to fr.length (plcs fr l) 0 (plcs_gaps fr l)
  rw [putO_eq]; omega
theorem putO_none (fr to l : Bs) (h : plcs fr l = []) : putO fr to l = l := by rw [putO_eq, h]; simp [putR]

/-- Where a text stands, what is ahead of it, it, and what is behind it are what is from there on. -/
theorem stands_split {p l : Bs} {i : Nat} (d : Nat) (h : standsB p l i = true) (hd : d ≤ i) : (l.drop d).take (i - d) ++ (p ++ l.drop (i + p.length)) = l.drop d := by
  have e : (l.drop i).take p.length = p := by simpa [standsB] using h
  have e2 : p ++ l.drop (i + p.length) = l.drop i := by
    conv => rhs; rw [← List.take_append_drop p.length (l.drop i), e]
    rw [List.drop_drop]
  rw [e2]
  conv => rhs; rw [← List.take_append_drop (i - d) (l.drop d)]
  rw [List.drop_drop]
  congr 2
  omega
theorem putR_self (l p : Bs) : ∀ (ps : List Nat) (d : Nat), Gaps p.length l.length d ps → (∀ i ∈ ps, standsB p l i = true) → putR l p p.length d ps = l.drop d := by
  intro ps
  induction ps with
  | nil => intros; rfl
  | cons i ps ih =>
    intro d h hs
    rw [putR, ih _ h.2.2 (fun j hj => hs j (List.mem_cons_of_mem _ hj)), List.append_assoc]
    exact stands_split d (hs i List.mem_cons_self) h.1
theorem putO_self (p l : Bs) : putO p p l = l := by
  rw [putO_eq, putR_self l p _ 0 (plcs_gaps p l) (plcs_stands p l), List.drop_zero]
/-- What was put is put back. -/
theorem putR_back (l fr to : Bs) : ∀ (ps : List Nat) (d : Nat) (pre : Bs), Gaps fr.length l.length d ps → (∀ i ∈ ps, standsB fr l i = true) →
    putR (pre ++ putR l to fr.length d ps) fr to.length pre.length (atR fr.length to.length pre.length d ps) = l.drop d := by
  intro ps
  induction ps with
  | nil => intro d pre _ _; simp [putR, atR]
  | cons i ps ih =>
    intro d pre h hs
    have hl := take_len l d i (by have := h.2.1; omega)
    have e := ih (i + fr.length) (pre ++ (l.drop d).take (i - d) ++ to) h.2.2 (fun j hj => hs j (List.mem_cons_of_mem _ hj))
    have en : (pre ++ (l.drop d).take (i - d) ++ to).length = pre.length + (i - d) + to.length := by simp only [List.length_append, hl]
    rw [en] at e
    simp only [atR, putR]
    have e1 : pre ++ (List.take (i - d) (List.drop d l) ++ to ++ putR l to fr.length (i + fr.length) ps) = pre ++ (l.drop d).take (i - d) ++ to ++ putR l to fr.length (i + fr.length) ps := by simp only [List.append_assoc]
    rw [e1, e]
    have e2 : (List.drop pre.length (pre ++ (l.drop d).take (i - d) ++ to ++ putR l to fr.length (i + fr.length) ps)).take (pre.length + (i - d) - pre.length) = (l.drop d).take (i - d) := by
      have e3 : pre.length + (i - d) - pre.length = ((l.drop d).take (i - d)).length := by rw [hl]; omega
      rw [e3, List.append_assoc, List.append_assoc, List.drop_left, List.take_left]
    rw [e2, List.append_assoc]
    exact stands_split d (hs i List.mem_cons_self) h.1
theorem putO_back (fr to l : Bs) (h : plcs to (putO fr to l) = putA fr to l) : putO to fr (putO fr to l) = l := by
  rw [putO_eq to, h, putA_eq, putO_eq fr]
  have := putR_back l fr to (plcs fr l) 0 [] (plcs_gaps fr l) (plcs_stands fr l)
  simpa using this
theorem atR_le (n m : Nat) : ∀ (ps : List Nat) (off d : Nat), ∀ i ∈ atR n m off d ps, off ≤ i := by
  intro ps
  induction ps with
  | nil => intro off d i hi; cases hi
  | cons j ps ih =>
    intro off d i hi
    rcases List.mem_cons.1 hi with rfl | hi
    · omega
    · have := ih _ _ i hi; omega
/-- Where the second one was put it stands. -/
theorem putR_at (l fr to : Bs) : ∀ (ps : List Nat) (d : Nat) (pre : Bs), Gaps fr.length l.length d ps →
    ∀ i ∈ atR fr.length to.length pre.length d ps, to <+: (pre ++ putR l to fr.length d ps).drop i := by
  intro ps
  induction ps with
  | nil => intro d pre _ i hi; cases hi
  | cons j ps ih =>
    intro d pre h i hi
    have hl := take_len l d j (by have := h.2.1; omega)
    have en : (pre ++ (l.drop d).take (j - d) ++ to).length = pre.length + (j - d) + to.length := by simp only [List.length_append, hl]
    have e1 : pre ++ putR l to fr.length d (j :: ps) = pre ++ (l.drop d).take (j - d) ++ to ++ putR l to fr.length (j + fr.length) ps := by simp only [putR, List.append_assoc]
    rw [e1]
    rcases List.mem_cons.1 hi with rfl | hi
    · have e3 : pre.length + (j - d) = (pre ++ (l.drop d).take (j - d)).length := by rw [List.length_append, hl]
      rw [e3, List.append_assoc (pre ++ _), List.drop_left]
      exact List.prefix_append _ _
    · have := ih (j + fr.length) (pre ++ (l.drop d).take (j - d) ++ to) h.2.2 i (by rw [en]; exact hi)
      exact this
theorem putA_at (fr to l : Bs) : ∀ i ∈ putA fr to l, to <+: (putO fr to l).drop i := by
  intro i hi
  rw [putA_eq] at hi
  rw [putO_eq]
  have := putR_at l fr to (plcs fr l) 0 [] (plcs_gaps fr l) i (by simpa using hi)
  simpa using this
theorem putR_zero {l fr to : Bs} (hl : 0 ∉ l) (ht : 0 ∉ to) : ∀ (ps : List Nat) (d : Nat), 0 ∉ putR l to fr.length d ps := by
  intro ps
  induction ps with
  | nil => intro d h; exact hl (List.mem_of_mem_drop h)
  | cons i ps ih =>
    intro d h
    simp only [putR, List.mem_append] at h
    rcases h with (h | h) | h
    · exact hl (List.mem_of_mem_drop (List.mem_of_mem_take h))
    · exact ht h
    · exact ih _ h
theorem putO_zero {l fr to : Bs} (hl : 0 ∉ l) (ht : 0 ∉ to) : 0 ∉ putO fr to l := by rw [putO_eq]; exact putR_zero hl ht _ _
theorem putO_nil (fr to : Bs) (h : 1 ≤ fr.length) : putO fr to [] = [] := by rw [putO_none _ _ _ (plcs_empty fr h)]
theorem putO_ne {fr to l : Bs} (ht : 1 ≤ to.length) (hl : l ≠ []) : putO fr to l ≠ [] := by
  rw [putO_eq]
  cases h : plcs fr l with
  | nil => simpa [putR] using hl
  | cons i ps =>
    intro e
    simp only [putR, List.append_eq_nil_iff] at e
    rw [e.1.2] at ht
    simp at ht
end Go.Proofs.YtophihnjlodmjaaDoor
