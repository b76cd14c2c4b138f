/- Plain words on binary bytes in which a prefix stands: runs and noughts, what they become, and the way back. Nothing of the program stands here. -/
import Derived.Test.YtophihnjlodmjaaDoorMath
namespace Go.Proofs.YtophihnjlodmjaaDoor

def nz (c : UInt8) : Bool := c != 0
def zz (c : UInt8) : Bool := c == 0
def zer (k : Nat) : Bs := List.replicate k 0
theorem zer_len (k : Nat) : (zer k).length = k := by simp [zer]
theorem zer_add (a b : Nat) : zer a ++ zer b = zer (a + b) := by simp [zer]

/-- Runs, each with how many noughts stand behind it. -/
def segF : Nat → Bs → List (Bs × Nat)
  | 0, _ => []
  | _ + 1, [] => []
  | f + 1, c :: l => ((c :: l).takeWhile nz, (((c :: l).dropWhile nz).takeWhile zz).length) :: segF f (((c :: l).dropWhile nz).dropWhile zz)
def segs (l : Bs) : List (Bs × Nat) := segF l.length l
def flat : List (Bs × Nat) → Bs
  | [] => []
  | (r, k) :: t => r ++ zer k ++ flat t
theorem tw_zz (l : Bs) : l.takeWhile zz = zer (l.takeWhile zz).length := by
  unfold zer
  refine List.eq_replicate_iff.2 ⟨rfl, fun b hb => ?_⟩
  induction l with
  | nil => cases hb
  | cons c l ih =>
    rw [List.takeWhile_cons] at hb
    by_cases hc : zz c = true
    · rw [if_pos hc] at hb
      rcases List.mem_cons.1 hb with rfl | hb
      · simpa [zz] using hc
      · exact ih hb
    · rw [if_neg hc] at hb; cases hb
theorem seg_split (l : Bs) : l.takeWhile nz ++ zer ((l.dropWhile nz).takeWhile zz).length ++ (l.dropWhile nz).dropWhile zz = l := by
  rw [← tw_zz, List.append_assoc, List.takeWhile_append_dropWhile, List.takeWhile_append_dropWhile]
theorem seg_rest_len (c : UInt8) (l : Bs) : (((c :: l).dropWhile nz).dropWhile zz).length ≤ l.length := by
  by_cases h : nz c = true
  · rw [List.dropWhile_cons_of_pos h]
    exact Nat.le_trans ((List.dropWhile_sublist _).length_le) ((List.dropWhile_sublist _).length_le)
  · rw [List.dropWhile_cons_of_neg h, List.dropWhile_cons_of_pos (by simpa [zz, nz] using h)]
    exact (List.dropWhile_sublist _).length_le
theorem segF_fuel : ∀ (f g : Nat) (l : Bs), l.length ≤ f → l.length ≤ g → segF f l = segF g l := by
  intro f
  induction f with
  | zero => intro g l h _; obtain rfl : l = [] := List.length_eq_zero_iff.1 (by omega); cases g <;> rfl
  | succ f ih =>
    intro g l h hg
    cases l with
    | nil => cases g <;> rfl
    | cons c l =>
      cases g with
      | zero => simp at hg
      | succ g =>
        have := seg_rest_len c l
        simp only [List.length_cons] at h hg
        rw [segF, segF, ih g _ (by omega) (by omega)]
theorem segs_cons (l : Bs) (h : l ≠ []) : segs l = (l.takeWhile nz, ((l.dropWhile nz).takeWhile zz).length) :: segs ((l.dropWhile nz).dropWhile zz) := by
  cases l with
  | nil => exact absurd rfl h
  | cons c l =>
    unfold segs
    have := seg_rest_len c l
    rw [List.length_cons, segF, segF_fuel _ (((c :: l).dropWhile nz).dropWhile zz).length _ this (Nat.le_refl _)]
theorem segs_nil : segs [] = [] := rfl
theorem segs_flat : ∀ (n : Nat) (l : Bs), l.length ≤ n → flat (segs l) = l := by
  intro n
  induction n with
  | zero => intro l h; obtain rfl : l = [] := List.length_eq_zero_iff.1 (by omega); rfl
  | succ n ih =>
    intro l h
    cases l with
    | nil => rfl
    | cons c l =>
      have := seg_rest_len c l
      simp only [List.length_cons] at h
      rw [segs_cons _ (by simp), flat, ih _ (by omega), seg_split]
theorem segs_flat' (l : Bs) : flat (segs l) = l := segs_flat _ l (Nat.le_refl _)

/-- Runs as they stand in bytes: none of them has a nought, none but the first is empty, and noughts stand behind each but the last. -/
def Good : Bool → List (Bs × Nat) → Prop
  | _, [] => True
  | b, (r, k) :: t => 0 ∉ r ∧ (b = false → r ≠ []) ∧ (r = [] → k ≠ 0) ∧ (t ≠ [] → k ≠ 0) ∧ Good false t
theorem tw_nz (l : Bs) : 0 ∉ l.takeWhile nz := by
  intro h
  induction l with
  | nil => cases h
  | cons c l ih =>
    rw [List.takeWhile_cons] at h
    by_cases hc : nz c = true
    · rw [if_pos hc] at h
      rcases List.mem_cons.1 h with e | h
      · subst e; simp [nz] at hc
      · exact ih h
    · rw [if_neg hc] at h; cases h
theorem dw_head (f : UInt8 → Bool) (l : Bs) : ∀ c t, l.dropWhile f = c :: t → f c = false := by
  induction l with
  | nil => intro c t h; cases h
  | cons d l ih =>
    intro c t h
    rw [List.dropWhile_cons] at h
    by_cases hd : f d = true
    · rw [if_pos hd] at h; exact ih _ _ h
    · rw [if_neg hd] at h
      injection h with h1 h2
      subst h1
      simpa using hd
theorem segs_good : ∀ (n : Nat) (l : Bs), l.length ≤ n → ∀ b : Bool, (b = false → ∃ c t, l = c :: t ∧ nz c = true) ∨ l = [] → Good b (segs l) := by
  intro n
  induction n with
  | zero => intro l h b _; obtain rfl : l = [] := List.length_eq_zero_iff.1 (by omega); exact trivial
  | succ n ih =>
    intro l h b hb
    cases l with
    | nil => exact trivial
    | cons c l =>
      have hr := seg_rest_len c l
      simp only [List.length_cons] at h
      rw [segs_cons _ (by simp)]
      refine ⟨tw_nz _, fun e => ?_, fun e => ?_, fun e => ?_, ?_⟩
      · rcases hb with hb | hb
        · obtain ⟨d, t, e1, e2⟩ := hb e
          injection e1 with e1 e3
          subst e1
          rw [List.takeWhile_cons, if_pos e2]
          exact List.cons_ne_nil _ _
        · cases hb
      · have hc : nz c = false := by
          cases hc : nz c with
          | false => rfl
          | true => rw [List.takeWhile_cons, if_pos hc] at e; cases e
        rw [List.dropWhile_cons_of_neg (by simp [hc]), List.takeWhile_cons_of_pos (by simpa [nz, zz] using hc)]
        simp
      · intro e0
        cases hd : (c :: l).dropWhile nz with
        | nil => rw [hd] at e; exact e rfl
        | cons d t =>
          have := dw_head _ _ d t hd
          rw [hd, List.takeWhile_cons_of_pos (by simpa [nz, zz] using this)] at e0
          simp at e0
      · refine ih _ (by omega) false ?_
        cases hd : ((c :: l).dropWhile nz).dropWhile zz with
        | nil => exact .inr rfl
        | cons d t => exact .inl fun _ => ⟨d, t, rfl, by have := dw_head _ _ d t hd; simpa [nz, zz] using this⟩
theorem segs_good' (l : Bs) : Good true (segs l) := segs_good _ l (Nat.le_refl _) true (.inl fun h => by cases h)
theorem tw_app {r x : Bs} (hr : 0 ∉ r) (hx : x = [] ∨ ∃ t, x = 0 :: t) : (r ++ x).takeWhile nz = r ∧ (r ++ x).dropWhile nz = x := by
  induction r with
  | nil => rcases hx with rfl | ⟨t, rfl⟩ <;> simp [nz]
  | cons c r ih =>
    have hc : nz c = true := by
      simp only [List.mem_cons, not_or] at hr
      simpa [nz] using fun e => hr.1 e.symm
    have h2 := ih (fun h => hr (List.mem_cons_of_mem _ h))
    rw [List.cons_append, List.takeWhile_cons_of_pos hc, List.dropWhile_cons_of_pos hc, h2.1, h2.2]
    exact ⟨rfl, rfl⟩
theorem zz_app {k : Nat} {x : Bs} (hx : x = [] ∨ ∃ c t, x = c :: t ∧ c ≠ 0) : ((zer k ++ x).takeWhile zz).length = k ∧ (zer k ++ x).dropWhile zz = x := by
  induction k with
  | zero =>
    rcases hx with rfl | ⟨c, t, rfl, hc⟩
    · exact ⟨rfl, rfl⟩
    · simp [zer, zz, hc]
  | succ k ih =>
    have e : zer (k + 1) ++ x = 0 :: (zer k ++ x) := by simp [zer, List.replicate_succ]
    rw [e, List.takeWhile_cons_of_pos (by simp [zz]), List.dropWhile_cons_of_pos (by simp [zz])]
    exact ⟨by rw [List.length_cons, ih.1], ih.2⟩
theorem flat_head {t : List (Bs × Nat)} (h : Good false t) : flat t = [] ∨ ∃ c s, flat t = c :: s ∧ c ≠ 0 := by
  cases t with
  | nil => exact .inl rfl
  | cons x t =>
    obtain ⟨r, k⟩ := x
    obtain ⟨h1, h2, _⟩ := h
    cases r with
    | nil => exact absurd rfl (h2 rfl)
    | cons c r =>
      refine .inr ⟨c, r ++ zer k ++ flat t, by simp [flat], fun e => h1 (by rw [e]; exact List.mem_cons_self)⟩
theorem flat_ne {b : Bool} {r : Bs} {k : Nat} {t : List (Bs × Nat)} (h : Good b ((r, k) :: t)) : flat ((r, k) :: t) ≠ [] := by
  intro e
  simp only [flat, List.append_eq_nil_iff] at e
  have hk := h.2.2.1 e.1.1
  have := congrArg List.length e.1.2
  rw [zer_len] at this
  exact hk this
/-- Runs that stand so are those of their bytes. -/
theorem flat_segs : ∀ (t : List (Bs × Nat)) (b : Bool), Good b t → segs (flat t) = t := by
  intro t
  induction t with
  | nil => intros; rfl
  | cons x t ih =>
    intro b h
    obtain ⟨r, k⟩ := x
    have hne := flat_ne h
    obtain ⟨h1, h2, h3, h4, h5⟩ := h
    have hz := zz_app (k := k) (flat_head h5)
    have ht : (zer k ++ flat t) = [] ∨ ∃ s, zer k ++ flat t = 0 :: s := by
      cases k with
      | zero =>
        have : t = [] := by
          cases t with
          | nil => rfl
          | cons y t => exact absurd rfl (h4 (by simp))
        subst this
        exact .inl rfl
      | succ k => exact .inr ⟨zer k ++ flat t, by simp [zer, List.replicate_succ]⟩
    have hn := tw_app h1 ht
    rw [segs_cons _ hne]
    have e : flat ((r, k) :: t) = r ++ (zer k ++ flat t) := by simp [flat]
    rw [e, hn.1, hn.2, hz.1, hz.2, ih false h5]

/-! ### Binary bytes moved -/
def movF (fr to : Bs) : List (Bs × Nat) → Bs × List Nat → Option (Bs × List Nat)
  | [], s => some s
  | (r, k) :: t, (o, a) =>
    if (putO fr to r).length + (if t = [] then 0 else 1) ≤ r.length + k then
      movF fr to t (o ++ putO fr to r ++ zer (r.length + k - (putO fr to r).length), a ++ (putA fr to r).map (o.length + ·))
    else none
def movB (fr to l : Bs) : Option (Bs × List Nat) :=
  match movF fr to (segs l) ([], []) with
  | some (o, a) => if 0 ∈ o then some (o, a) else none
  | none => none
def movL (fr to l : Bs) : Option (Bs × List Nat) := if 0 ∈ l then movB fr to l else some (putO fr to l, putA fr to l)

/-- What the runs become, and where in all the second prefix was put. -/
def newS (fr to : Bs) : List (Bs × Nat) → List (Bs × Nat)
  | [] => []
  | (r, k) :: t => (putO fr to r, r.length + k - (putO fr to r).length) :: newS fr to t
def newA (fr to : Bs) : Nat → List (Bs × Nat) → List Nat
  | _, [] => []
  | off, (r, k) :: t => (putA fr to r).map (off + ·) ++ newA fr to (off + (r.length + k)) t
def Fits (fr to : Bs) : List (Bs × Nat) → Prop
  | [] => True
  | (r, k) :: t => (putO fr to r).length + (if t = [] then 0 else 1) ≤ r.length + k ∧ Fits fr to t
theorem flat_cons (r : Bs) (k : Nat) (t : List (Bs × Nat)) : flat ((r, k) :: t) = r ++ zer k ++ flat t := rfl
theorem movF_some (fr to : Bs) : ∀ (t : List (Bs × Nat)) (o : Bs) (a : List Nat), Fits fr to t → movF fr to t (o, a) = some (o ++ flat (newS fr to t), a ++ newA fr to o.length t) := by
  intro t
  induction t with
  | nil => intro o a _; simp [movF, flat, newS, newA]
  | cons x t ih =>
    intro o a h
    obtain ⟨r, k⟩ := x
    rw [movF, if_pos h.1, ih _ _ h.2]
    have e : (o ++ putO fr to r ++ zer (r.length + k - (putO fr to r).length)).length = o.length + (r.length + k) := by
      have := h.1
      simp only [List.length_append, zer_len]; omega
    rw [e]
    simp only [newS, newA, flat, List.append_assoc]
theorem movF_none (fr to : Bs) : ∀ (t : List (Bs × Nat)) (s : Bs × List Nat), ¬ Fits fr to t → movF fr to t s = none := by
  intro t
  induction t with
  | nil => intro s h; exact absurd trivial h
  | cons x t ih =>
    intro s h
    obtain ⟨r, k⟩ := x
    obtain ⟨o, a⟩ := s
    rw [movF]
    by_cases h1 : (putO fr to r).length + (if t = [] then 0 else 1) ≤ r.length + k
    · rw [if_pos h1, ih _ (fun h2 => h ⟨h1, h2⟩)]
    · rw [if_neg h1]
theorem movB_ok {fr to l o : Bs} {a : List Nat} (h : movB fr to l = some (o, a)) : Fits fr to (segs l) ∧ o = flat (newS fr to (segs l)) ∧ a = newA fr to 0 (segs l) ∧ 0 ∈ o := by
  unfold movB at h
  by_cases hf : Fits fr to (segs l)
  · rw [movF_some _ _ _ _ _ hf] at h
    simp only [List.nil_append, List.length_nil] at h
    by_cases h0 : 0 ∈ flat (newS fr to (segs l))
    · rw [if_pos h0] at h
      injection h with h
      injection h with h1 h2
      subst h1; subst h2
      exact ⟨hf, rfl, rfl, h0⟩
    · rw [if_neg h0] at h; cases h
  · rw [movF_none _ _ _ _ hf] at h; cases h
theorem movB_of {fr to l : Bs} (hf : Fits fr to (segs l)) (h0 : 0 ∈ flat (newS fr to (segs l))) : movB fr to l = some (flat (newS fr to (segs l)), newA fr to 0 (segs l)) := by
  unfold movB
  rw [movF_some _ _ _ _ _ hf]
  simp only [List.nil_append, List.length_nil]
  rw [if_pos h0]
theorem newS_ne (fr to : Bs) (t : List (Bs × Nat)) : newS fr to t = [] ↔ t = [] := by
  cases t with
  | nil => simp [newS]
  | cons x t => obtain ⟨r, k⟩ := x; simp [newS]
theorem newS_len (fr to : Bs) : ∀ t, Fits fr to t → (flat (newS fr to t)).length = (flat t).length := by
  intro t
  induction t with
  | nil => intro _; rfl
  | cons x t ih =>
    intro h
    obtain ⟨r, k⟩ := x
    have h1 := h.1
    simp only [newS, flat, List.length_append, zer_len, ih h.2]
    omega
theorem newS_good {fr to : Bs} (ht : 1 ≤ to.length) (h0 : 0 ∉ to) : ∀ (t : List (Bs × Nat)) (b : Bool), Good b t → Fits fr to t → Good b (newS fr to t) := by
  intro t
  induction t with
  | nil => intros; trivial
  | cons x t ih =>
    intro b h hx
    obtain ⟨r, k⟩ := x
    obtain ⟨h1, h2, h3, h4, h5⟩ := h
    obtain ⟨g1, g2⟩ := hx
    refine ⟨putO_zero h1 h0, fun e => putO_ne ht (h2 e), fun e => ?_, fun e => ?_, ih false h5 g2⟩
    · have hr : r = [] := Decidable.byContradiction fun hr => putO_ne ht hr e
      have := h3 hr
      subst hr
      rw [e]; simpa using this
    · have e2 : t ≠ [] := fun e2 => e ((newS_ne fr to t).2 e2)
      rw [if_neg e2] at g1
      omega

/-- The places of a prefix, in each run by itself. -/
def plA (p : Bs) : Nat → List (Bs × Nat) → List Nat
  | _, [] => []
  | off, (r, k) :: t => (plcs p r).map (off + ·) ++ plA p (off + (r.length + k)) t
theorem newA_len (fr to : Bs) : ∀ (t : List (Bs × Nat)) (off off' : Nat), (newA fr to off t).length = (plA fr off' t).length := by
  intro t
  induction t with
  | nil => intros; rfl
  | cons x t ih =>
    intro off off'
    obtain ⟨r, k⟩ := x
    simp only [newA, plA, List.length_append, List.length_map, putA_len, ih _ (off' + (r.length + k))]
theorem newS_self (p : Bs) : ∀ t, newS p p t = t := by
  intro t
  induction t with
  | nil => rfl
  | cons x t ih => obtain ⟨r, k⟩ := x; simp only [newS, putO_self, ih, Nat.add_sub_cancel_left]
theorem fits_self (p : Bs) : ∀ (t : List (Bs × Nat)) (b : Bool), Good b t → Fits p p t := by
  intro t
  induction t with
  | nil => intros; trivial
  | cons x t ih =>
    intro b h
    obtain ⟨r, k⟩ := x
    obtain ⟨h1, h2, h3, h4, h5⟩ := h
    refine ⟨?_, ih false h5⟩
    rw [putO_self]
    by_cases ht : t = []
    · rw [if_pos ht]; omega
    · rw [if_neg ht]; have := h4 ht; omega
theorem movL_self (p l : Bs) : ∃ a, movL p p l = some (l, a) := by
  unfold movL
  by_cases h : 0 ∈ l
  · rw [if_pos h]
    refine ⟨newA p p 0 (segs l), ?_⟩
    have := movB_of (fr := p) (to := p) (l := l) (fits_self p _ true (segs_good' l)) (by rw [newS_self, segs_flat']; exact h)
    rw [this, newS_self, segs_flat']
  · rw [if_neg h, putO_self]; exact ⟨_, rfl⟩
theorem putO_shrink {fr to l : Bs} (h : to.length ≤ fr.length) : (putO fr to l).length ≤ l.length := by
  have := putO_len fr to l
  have h2 := Nat.mul_le_mul_left (plcs fr l).length h
  omega
theorem fits_shrink {fr to : Bs} (h : to.length ≤ fr.length) : ∀ (t : List (Bs × Nat)) (b : Bool), Good b t → Fits fr to t := by
  intro t
  induction t with
  | nil => intros; trivial
  | cons x t ih =>
    intro b hg
    obtain ⟨r, k⟩ := x
    obtain ⟨h1, h2, h3, h4, h5⟩ := hg
    refine ⟨?_, ih false h5⟩
    have hl := putO_shrink (l := r) h
    by_cases ht : t = []
    · rw [if_pos ht]; omega
    · rw [if_neg ht]; have := h4 ht; omega
theorem zer_mem {k : Nat} (h : k ≠ 0) : (0 : UInt8) ∈ zer k := by cases k with | zero => exact absurd rfl h | succ k => simp [zer, List.replicate_succ]
theorem zero_flat : ∀ (t : List (Bs × Nat)) (b : Bool), Good b t → (0 ∈ flat t ↔ ∃ x ∈ t, x.2 ≠ 0) := by
  intro t
  induction t with
  | nil => intro b _; simp [flat]
  | cons x t ih =>
    intro b h
    obtain ⟨r, k⟩ := x
    obtain ⟨h1, _, _, _, h5⟩ := h
    simp only [flat, List.mem_append, List.mem_cons, ih false h5]
    constructor
    · rintro ((h | h) | ⟨y, hy, h⟩)
      · exact absurd h h1
      · refine ⟨(r, k), .inl rfl, fun e => ?_⟩
        have e : k = 0 := e
        subst e
        simp [zer] at h
      · exact ⟨y, .inr hy, h⟩
    · rintro ⟨y, rfl | hy, h⟩
      · exact .inl (.inr (zer_mem h))
      · exact .inr ⟨y, hy, h⟩
theorem shrink_zero {fr to : Bs} (h : to.length ≤ fr.length) : ∀ t : List (Bs × Nat), (∃ x ∈ t, x.2 ≠ 0) → ∃ x ∈ newS fr to t, x.2 ≠ 0 := by
  intro t
  induction t with
  | nil => rintro ⟨x, hx, _⟩; cases hx
  | cons y t ih =>
    obtain ⟨r, k⟩ := y
    rintro ⟨x, hx, h0⟩
    rcases List.mem_cons.1 hx with rfl | hx
    · have := putO_shrink (l := r) h
      have h0 : k ≠ 0 := h0
      exact ⟨_, List.mem_cons_self, by show r.length + k - (putO fr to r).length ≠ 0; omega⟩
    · obtain ⟨z, hz, h1⟩ := ih ⟨x, hx, h0⟩
      exact ⟨z, List.mem_cons_of_mem _ hz, h1⟩
/-- What does not grow can be moved. -/
theorem movL_shrink {fr to l : Bs} (ht : 1 ≤ to.length) (h0 : 0 ∉ to) (h : to.length ≤ fr.length) : movL fr to l ≠ none := by
  unfold movL
  by_cases h1 : 0 ∈ l
  · rw [if_pos h1]
    have hg := segs_good' l
    have hfit := fits_shrink h (segs l) true hg
    rw [movB_of hfit ?_]
    · simp
    · rw [zero_flat _ true (newS_good ht h0 _ _ hg hfit)]
      refine shrink_zero h _ ((zero_flat _ true hg).1 ?_)
      rw [segs_flat']; exact h1
  · rw [if_neg h1]; simp
theorem plA_none (p : Bs) : ∀ (t : List (Bs × Nat)) (off : Nat), plA p off t = [] → ∀ to, newS p to t = t := by
  intro t
  induction t with
  | nil => intros; rfl
  | cons x t ih =>
    intro off h to
    obtain ⟨r, k⟩ := x
    simp only [plA, List.append_eq_nil_iff, List.map_eq_nil_iff] at h
    simp only [newS, putO_none _ _ _ h.1, ih _ h.2, Nat.add_sub_cancel_left]

/-- The places of a prefix in bytes, of binary ones in each run by itself. -/
def runPl (p l : Bs) : List Nat := if 0 ∈ l then plA p 0 (segs l) else plcs p l
theorem movL_count {fr to l o : Bs} {a : List Nat} (h : movL fr to l = some (o, a)) : a.length = (runPl fr l).length := by
  unfold movL at h
  unfold runPl
  by_cases h1 : 0 ∈ l
  · rw [if_pos h1] at h ⊢
    rw [(movB_ok h).2.2.1, newA_len _ _ _ _ 0]
  · rw [if_neg h1] at h ⊢
    injection h with h
    injection h with h2 h3
    rw [← h3, putA_len]
theorem movL_same {fr to l o : Bs} {a : List Nat} (h : movL fr to l = some (o, a)) (ha : a = []) : o = l := by
  unfold movL at h
  by_cases h1 : 0 ∈ l
  · rw [if_pos h1] at h
    obtain ⟨_, e1, e2, _⟩ := movB_ok h
    have e3 : (plA fr 0 (segs l)).length = 0 := by rw [← newA_len fr to _ 0, ← e2, ha]; rfl
    rw [e1, plA_none _ _ _ (List.length_eq_zero_iff.1 e3), segs_flat']
  · rw [if_neg h1] at h
    injection h with h
    injection h with h2 h3
    rw [← h2, putO_none]
    have := putA_len fr to l
    rw [h3, ha] at this
    exact List.length_eq_zero_iff.1 this.symm
theorem movL_len {fr to l o : Bs} {a : List Nat} (h : movL fr to l = some (o, a)) : (0 ∈ l → o.length = l.length) ∧ (0 ∉ l → o.length + a.length * fr.length = l.length + a.length * to.length) := by
  unfold movL at h
  refine ⟨fun h1 => ?_, fun h1 => ?_⟩
  · rw [if_pos h1] at h
    obtain ⟨e0, e1, _, _⟩ := movB_ok h
    rw [e1, newS_len _ _ _ e0, segs_flat']
  · rw [if_neg h1] at h
    injection h with h
    injection h with h2 h3
    rw [← h2, ← h3, putA_len]
    exact putO_len fr to l
theorem movL_bin {fr to l o : Bs} {a : List Nat} (h0 : 0 ∉ to) (h : movL fr to l = some (o, a)) : 0 ∈ o ↔ 0 ∈ l := by
  unfold movL at h
  by_cases h1 : 0 ∈ l
  · rw [if_pos h1] at h
    exact ⟨fun _ => h1, fun _ => (movB_ok h).2.2.2⟩
  · rw [if_neg h1] at h
    injection h with h
    injection h with h2 h3
    rw [← h2]
    exact ⟨fun h => absurd h (putO_zero h1 h0), fun h => absurd h h1⟩
theorem newA_at (fr to : Bs) : ∀ (t : List (Bs × Nat)) (pre : Bs), Fits fr to t → ∀ i ∈ newA fr to pre.length t, to <+: (pre ++ flat (newS fr to t)).drop i := by
  intro t
  induction t with
  | nil => intro pre _ i hi; cases hi
  | cons x t ih =>
    intro pre h i hi
    obtain ⟨r, k⟩ := x
    have h1 := h.1
    simp only [newA, List.mem_append, List.mem_map] at hi
    have e : pre ++ flat (newS fr to ((r, k) :: t)) = pre ++ putO fr to r ++ zer (r.length + k - (putO fr to r).length) ++ flat (newS fr to t) := by simp [newS, flat]
    rw [e]
    rcases hi with ⟨j, hj, rfl⟩ | hi
    · have hp := putA_at fr to r j hj
      have hl := hp.length_le
      rw [List.append_assoc, List.append_assoc, List.drop_append]
      rw [List.drop_eq_nil_of_le (by omega), List.nil_append, Nat.add_sub_cancel_left]
      by_cases hjl : j ≤ (putO fr to r).length
      · rw [List.drop_append_of_le_length hjl]
        exact hp.trans (List.prefix_append _ _)
      · rw [List.drop_eq_nil_of_le (by omega)] at hp
        rw [List.prefix_nil.1 hp]
        exact List.nil_prefix
    · have e2 : (pre ++ putO fr to r ++ zer (r.length + k - (putO fr to r).length)).length = pre.length + (r.length + k) := by
        simp only [List.length_append, zer_len]; omega
      rw [← e2] at hi
      exact ih _ h.2 i hi
theorem movL_at {fr to l o : Bs} {a : List Nat} (h : movL fr to l = some (o, a)) : ∀ i ∈ a, to <+: o.drop i := by
  unfold movL at h
  by_cases h1 : 0 ∈ l
  · rw [if_pos h1] at h
    obtain ⟨e0, e1, e2, _⟩ := movB_ok h
    intro i hi
    rw [e2] at hi
    rw [e1]
    exact newA_at fr to (segs l) [] e0 i hi
  · rw [if_neg h1] at h
    injection h with h
    injection h with h2 h3
    rw [← h2, ← h3]
    exact putA_at fr to l
theorem split_at {B : Nat} {a b c d : List Nat} (ha : ∀ x ∈ a, x < B) (hc : ∀ x ∈ c, x < B) (hb : ∀ x ∈ b, B ≤ x) (hd : ∀ x ∈ d, B ≤ x) (h : a ++ b = c ++ d) : a = c ∧ b = d := by
  have fl : ∀ l : List Nat, (∀ x ∈ l, x < B) → l.filter (fun x => decide (x < B)) = l := fun l hl => List.filter_eq_self.2 fun x hx => decide_eq_true (hl x hx)
  have fh : ∀ l : List Nat, (∀ x ∈ l, B ≤ x) → l.filter (fun x => decide (x < B)) = [] := fun l hl => List.filter_eq_nil_iff.2 fun x hx => by have := hl x hx; simp; omega
  have e := congrArg (List.filter (fun x => decide (x < B))) h
  rw [List.filter_append, List.filter_append, fl a ha, fl c hc, fh b hb, fh d hd, List.append_nil, List.append_nil] at e
  subst e
  exact ⟨rfl, List.append_cancel_left h⟩
theorem plA_ge (p : Bs) : ∀ (t : List (Bs × Nat)) (off : Nat), ∀ x ∈ plA p off t, off ≤ x := by
  intro t
  induction t with
  | nil => intro off x hx; cases hx
  | cons y t ih =>
    intro off x hx
    obtain ⟨r, k⟩ := y
    simp only [plA, List.mem_append, List.mem_map] at hx
    rcases hx with ⟨j, _, rfl⟩ | hx
    · omega
    · have := ih _ x hx; omega
theorem newA_ge (fr to : Bs) : ∀ (t : List (Bs × Nat)) (off : Nat), ∀ x ∈ newA fr to off t, off ≤ x := by
  intro t
  induction t with
  | nil => intro off x hx; cases hx
  | cons y t ih =>
    intro off x hx
    obtain ⟨r, k⟩ := y
    simp only [newA, List.mem_append, List.mem_map] at hx
    rcases hx with ⟨j, _, rfl⟩ | hx
    · omega
    · have := ih _ x hx; omega
/-- Put where the second one stands, in each run by itself, the first one gives back the runs. -/
theorem back_segs {fr to : Bs} (ht : 1 ≤ to.length) : ∀ (t : List (Bs × Nat)) (off : Nat), Fits fr to t → plA to off (newS fr to t) = newA fr to off t → newS to fr (newS fr to t) = t := by
  intro t
  induction t with
  | nil => intros; rfl
  | cons x t ih =>
    intro off h he
    obtain ⟨r, k⟩ := x
    have h1 := h.1
    have hk : (putO fr to r).length + (r.length + k - (putO fr to r).length) = r.length + k := by omega
    simp only [newS, plA, newA, hk] at he
    have key : (plcs to (putO fr to r)).map (off + ·) = (putA fr to r).map (off + ·) ∧ plA to (off + (r.length + k)) (newS fr to t) = newA fr to (off + (r.length + k)) t := by
      refine split_at (B := off + (r.length + k)) ?_ ?_ (plA_ge _ _ _) (newA_ge _ _ _ _) he
      · intro x hx
        obtain ⟨j, hj, rfl⟩ := List.mem_map.1 hx
        have := (plcs_gaps to (putO fr to r)).mem j hj
        omega
      · intro x hx
        obtain ⟨j, hj, rfl⟩ := List.mem_map.1 hx
        have hp := (putA_at fr to r j hj).length_le
        rw [List.length_drop] at hp
        omega
    have hinj : plcs to (putO fr to r) = putA fr to r := (List.map_inj_right (fun a b hab => by omega)).1 key.1
    have e2 := putO_back fr to r hinj
    simp only [newS, e2, hk, ih _ h.2 key.2]
    congr 2
    omega
theorem fits_back {fr to : Bs} : ∀ (t : List (Bs × Nat)) (b : Bool), Good b t → Fits fr to t → newS to fr (newS fr to t) = t → Fits to fr (newS fr to t) := by
  intro t
  induction t with
  | nil => intros; trivial
  | cons x t ih =>
    intro b hg h e
    obtain ⟨r, k⟩ := x
    obtain ⟨_, _, _, h4, h5⟩ := hg
    have h1 := h.1
    simp only [newS] at e
    injection e with e1 e2
    injection e1 with e3 e4
    refine ⟨?_, ih false h5 h.2 e2⟩
    rw [e3]
    by_cases ht : t = []
    · rw [if_pos ((newS_ne fr to t).2 ht)]; omega
    · rw [if_neg (fun hh => ht ((newS_ne fr to t).1 hh))]; have := h4 ht; omega
/-- If the second prefix stands just where it was put, moved back the bytes are as they were. -/
theorem movL_back {fr to l o : Bs} {a : List Nat} (ht : 1 ≤ to.length) (h0 : 0 ∉ to) (h : movL fr to l = some (o, a)) (hr : runPl to o = a) : ∃ b, movL to fr o = some (l, b) := by
  have hbin := movL_bin h0 h
  unfold movL at h ⊢
  unfold runPl at hr
  by_cases h1 : 0 ∈ l
  · rw [if_pos h1] at h
    rw [if_pos (hbin.2 h1)] at hr ⊢
    obtain ⟨e0, e1, e2, _⟩ := movB_ok h
    have hg := newS_good ht h0 _ true (segs_good' l) e0
    have es : segs o = newS fr to (segs l) := by rw [e1]; exact flat_segs _ true hg
    rw [es, e2] at hr
    have eb := back_segs ht _ 0 e0 hr
    have hf := fits_back _ true (segs_good' l) e0 eb
    refine ⟨newA to fr 0 (segs o), ?_⟩
    have := movB_of (fr := to) (to := fr) (l := o) (by rw [es]; exact hf) (by rw [es, eb, segs_flat']; exact h1)
    rw [this, es, eb, segs_flat']
  · rw [if_neg h1] at h
    rw [if_neg (fun hh => h1 (hbin.1 hh))] at hr ⊢
    injection h with h
    injection h with h2 h3
    subst h2
    subst h3
    exact ⟨_, by rw [putO_back _ _ _ hr]⟩

/-! ### The same runs, cut at each nought -/
/-- The pieces between noughts, each with where it begins. -/
def splA (p : Bs) : Nat → List Bs → List Nat
  | _, [] => []
  | off, r :: t => (plcs p r).map (off + ·) ++ splA p (off + r.length + 1) t
def zpcs : Bs → List Bs
  | [] => [[]]
  | c :: l => if c = 0 then [] :: zpcs l else match zpcs l with
    | r :: t => (c :: r) :: t
    | [] => [[c]]
theorem zpcs_ne (l : Bs) : ∃ r t, zpcs l = r :: t := by
  cases l with
  | nil => exact ⟨_, _, rfl⟩
  | cons c l =>
    rw [zpcs]
    by_cases h : c = 0
    · rw [if_pos h]; exact ⟨_, _, rfl⟩
    · rw [if_neg h]; cases zpcs l <;> exact ⟨_, _, rfl⟩
theorem zpcs_run {r : Bs} (hr : 0 ∉ r) : zpcs r = [r] ∧ ∀ x, zpcs (r ++ 0 :: x) = r :: zpcs x := by
  induction r with
  | nil => exact ⟨rfl, fun x => by rw [List.nil_append, zpcs, if_pos rfl]⟩
  | cons c r ih =>
    have hc : c ≠ 0 := fun e => hr (by rw [e]; exact List.mem_cons_self)
    have h2 := ih (fun h => hr (List.mem_cons_of_mem _ h))
    refine ⟨by rw [zpcs, if_neg hc, h2.1], fun x => by rw [List.cons_append, zpcs, if_neg hc, h2.2]⟩
theorem zpcs_zer (p : Bs) (hp : 1 ≤ p.length) : ∀ (k : Nat) (x : Bs) (off : Nat), splA p off (zpcs (zer k ++ x)) = splA p (off + k) (zpcs x) := by
  intro k
  induction k with
  | zero => intro x off; rfl
  | succ k ih =>
    intro x off
    have e : zer (k + 1) ++ x = 0 :: (zer k ++ x) := by simp [zer, List.replicate_succ]
    rw [e, zpcs, if_pos rfl, splA, plcs_empty p hp, ih]
    simp only [List.map_nil, List.nil_append, List.length_nil]
    congr 1
    omega
theorem zpcs_segs (p : Bs) (hp : 1 ≤ p.length) : ∀ (t : List (Bs × Nat)) (b : Bool) (off : Nat), Good b t → splA p off (zpcs (flat t)) = plA p off t := by
  intro t
  induction t with
  | nil =>
    intro b off _
    show splA p off [[]] = []
    simp only [splA, plcs_empty p hp, List.map_nil, List.append_nil]
  | cons x t ih =>
    intro b off h
    obtain ⟨r, k⟩ := x
    obtain ⟨h1, h2, h3, h4, h5⟩ := h
    have e : flat ((r, k) :: t) = r ++ (zer k ++ flat t) := by simp [flat]
    rw [e]
    cases k with
    | zero =>
      have ht : t = [] := by
        cases t with
        | nil => rfl
        | cons y t => exact absurd rfl (h4 (by simp))
      subst ht
      have e2 : r ++ (zer 0 ++ flat []) = r := by simp [zer, flat]
      rw [e2, (zpcs_run h1).1]
      simp only [splA, plA, List.append_nil]
    | succ k =>
      have e2 : zer (k + 1) ++ flat t = 0 :: (zer k ++ flat t) := by simp [zer, List.replicate_succ]
      rw [e2, (zpcs_run h1).2, splA, zpcs_zer p hp, ih false _ h5, plA]
      congr 2
      omega
/-- Cut at each nought the places are the same. -/
theorem splA_is (p l : Bs) (hp : 1 ≤ p.length) : splA p 0 (zpcs l) = plA p 0 (segs l) := by
  have := zpcs_segs p hp (segs l) true 0 (segs_good' l)
  rwa [segs_flat'] at this
end Go.Proofs.YtophihnjlodmjaaDoor
