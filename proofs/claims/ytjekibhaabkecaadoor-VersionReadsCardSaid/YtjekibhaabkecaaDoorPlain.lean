/- Plain words: how the document's answer reads a version, step by step, and that it is the version that the program reads. -/
import Derived.Test.YtjekibhaabkecaaDoorRefN
namespace Go.Proofs.YtjekibhaabkecaaDoor
open Go.RowKit

def Ver.put (v : Ver) (k : Nat) (x : Int) : Ver := ⟨if k = 0 then x else v.n0, if k = 1 then x else v.n1, if k = 2 then x else v.n2, if k = 3 then x else v.n3, (k : Int) + 1, v.tag, v.step⟩
/-- The last look: nothing is left, it may be, and the text is its own. -/
def finF (s : Str) (v : Ver) (r : Str) : Option Ver := if r = [] ∧ v.ok = true ∧ v.text = s then some v else none
def tagF (s : Str) (v : Ver) (r : Str) : Option Ver :=
  if r.dropWhile lowB = [] then finF s { v with tag := ofB (r.takeWhile lowB) } []
  else if (numS (r.dropWhile lowB)).2.2 = false ∨ (numS (r.dropWhile lowB)).1 = 0 then none
  else finF s { v with tag := ofB (r.takeWhile lowB), step := ((numS (r.dropWhile lowB)).1 : Int) } ((r.dropWhile lowB).drop (numS (r.dropWhile lowB)).2.1)
def tailF (s : Str) (v : Ver) (r : Str) : Option Ver := if r.head? = some 45 then tagF s v (r.drop 1) else finF s v r
def loopF (s : Str) : Nat → Nat → Ver → Str → Option Ver
  | 0, _, _, _ => none
  | f + 1, k, v, r =>
    if (numS r).2.2 = false ∨ k = 4 then none
    else if (r.drop (numS r).2.1).head? = some 46 then loopF s f (k + 1) (v.put k ((numS r).1 : Int)) ((r.drop (numS r).2.1).drop 1)
    else tailF s (v.put k ((numS r).1 : Int)) (r.drop (numS r).2.1)
def refV (s : Str) : Option Ver := loopF s 5 0 Ver.zero s

theorem fin_some {s r : Str} {v u : Ver} (h : finF s v r = some u) : u.ok = true ∧ u.text = s := by
  unfold finF at h
  split at h
  · obtain rfl := Option.some.inj h
    rename_i hc
    exact hc.2
  · cases h
theorem tail_some {s r : Str} {v u : Ver} (h : tailF s v r = some u) : u.ok = true ∧ u.text = s := by
  unfold tailF tagF at h
  split at h
  · split at h
    · exact fin_some h
    · split at h
      · cases h
      · exact fin_some h
  · exact fin_some h
theorem loop_some {s : Str} : ∀ (f k : Nat) (v : Ver) (r : Str) {u : Ver}, loopF s f k v r = some u → u.ok = true ∧ u.text = s := by
  intro f
  induction f with
  | zero => intro k v r u h; cases h
  | succ f ih =>
    intro k v r u h
    unfold loopF at h
    split at h
    · cases h
    · split at h
      · exact ih _ _ _ h
      · exact tail_some h

theorem head_dec {n : Nat} (h : n ≤ 9999) : (Lib.decDigits n).length = 1 ∨ (Lib.decDigits n).getD 0 0 ≠ 48 := by
  by_cases h10 : n < 10
  · left; rw [Lib.decDigits_one h10]; rfl
  · right
    have hl : 1 < (Lib.decDigits n).length := by
      rw [dec_big h10, List.length_append]
      have := List.length_pos_iff.2 (dec_ne (n / 10))
      simp
      omega
    have ho := List.all_eq_true.1 (dec_ok n 9999 h) 1 (List.mem_range.2 hl)
    unfold stepB at ho
    simp only [Bool.and_eq_true, Bool.or_eq_true, decide_eq_true_eq] at ho
    obtain ⟨⟨_, h1⟩, _⟩ := ho
    intro e
    rcases h1 with h1 | h1
    · omega
    · apply h1
      have h0 : (Lib.decDigits n)[0]? = some 48 := by
        rw [List.getD_eq_getElem?_getD] at e
        rw [List.getElem?_eq_getElem (by omega)] at e ⊢
        simpa using e
      have := take_snoc h0
      rw [List.take_zero, List.nil_append] at this
      rw [show (1 : Nat) = 0 + 1 from rfl, this]
      decide
/-- A number ahead of what is no digit. -/
theorem numS_dec {n : Nat} (h : n ≤ 9999) {X : Str} (hX : ∀ c, X.head? = some c → dgB c = false) : numS (Lib.decDigits n ++ X) = (n, (Lib.decDigits n).length, true) := by
  have h4 := nD_le n h
  have hne := List.length_pos_iff.2 (dec_ne n)
  have e := numS_at (l := Lib.decDigits n ++ X) (k := (Lib.decDigits n).length) (fun j c hj hc => by
    rw [List.getElem?_append_left hj] at hc
    exact dec_dig n c (List.mem_of_getElem? hc)) (fun c hc => by
    rw [List.getElem?_append_right (Nat.le_refl _), Nat.sub_self] at hc
    exact hX c (by rw [← hc]; cases X <;> rfl)) (by simp) h4
  rw [e, List.take_left, val_dec]
  have hg : (Lib.decDigits n ++ X).getD 0 0 = (Lib.decDigits n).getD 0 0 := by
    rw [List.getD_eq_getElem?_getD, List.getD_eq_getElem?_getD, List.getElem?_append_left (by omega)]
  rw [hg, decide_eq_true (by omega : (Lib.decDigits n).length ≠ 0)]
  rcases head_dec h with h1 | h1
  · rw [decide_eq_true h1]; rfl
  · rw [decide_eq_true h1, Bool.or_true]; rfl
theorem loop_dot {s : Str} {f k n : Nat} {v : Ver} {X : Str} (hk : k < 4) (h : n ≤ 9999) : loopF s (f + 1) k v (Lib.decDigits n ++ 46 :: X) = loopF s f (k + 1) (v.put k (n : Int)) X := by
  have e := numS_dec h (X := 46 :: X) (fun c hc => by simp at hc; subst hc; decide)
  conv => lhs; unfold loopF
  rw [e]
  dsimp only
  rw [if_neg (by simp; omega), List.drop_left, if_pos (show (46 :: X).head? = some 46 from rfl)]
  rfl
theorem loop_end {s : Str} {f k n : Nat} {v : Ver} {X : Str} (hk : k < 4) (h : n ≤ 9999) (hX : X = [] ∨ X.head? = some 45) : loopF s (f + 1) k v (Lib.decDigits n ++ X) = tailF s (v.put k (n : Int)) X := by
  have e := numS_dec h (X := X) (fun c hc => by
    rcases hX with rfl | hX
    · cases hc
    · rw [hX] at hc
      cases hc
      decide)
  conv => lhs; unfold loopF
  rw [e]
  dsimp only
  rw [if_neg (by simp; omega), List.drop_left, if_neg]
  rcases hX with rfl | hX
  · simp
  · rw [hX]; decide
/-- What stands behind the numbers. -/
def Ver.endT (v : Ver) : Str := if v.tag.data.toList = [] then [] else 45 :: (v.tag.data.toList ++ (if v.step = 0 then [] else Lib.decDigits v.step.toNat))
theorem text_end {v : Ver} (h : v.ok = true) : v.text = dotsL v.num v.many.toNat ++ v.endT := by
  unfold Ver.text Ver.endT
  by_cases ht : v.tag.data.toList = []
  · rw [if_pos ht, if_pos ht, if_pos (ok_step0 h ht)]; simp
  · rw [if_neg ht, if_neg ht]; simp
theorem end_head (v : Ver) : v.endT = [] ∨ v.endT.head? = some 45 := by
  unfold Ver.endT
  split
  · exact .inl rfl
  · exact .inr rfl
theorem tail_text {u v : Ver} (h : u.ok = true) (hv : v.n0 = u.n0 ∧ v.n1 = u.n1 ∧ v.n2 = u.n2 ∧ v.n3 = u.n3 ∧ v.many = u.many) (ht : v.tag = ⟨#[]⟩) (hs : v.step = 0) : tailF u.text v u.endT = some u := by
  obtain ⟨a, b, c, d, m⟩ := hv
  unfold tailF Ver.endT
  by_cases h0 : u.tag.data.toList = []
  · have hu : v = u := by
      rw [ver_eq]
      exact ⟨⟨a, b, c, d⟩, m, by rw [ht, ba_empty _ h0], by rw [hs, ok_step0 h h0]⟩
    rw [if_pos h0, if_neg (by simp)]
    unfold finF
    rw [hu, if_pos ⟨rfl, h, rfl⟩]
  · obtain ⟨s0, s9⟩ := ok_stepb h h0
    have hend := ok_end h
    unfold Ver.endB tagB at hend
    rw [if_neg h0] at hend
    simp only [Bool.and_eq_true] at hend
    obtain ⟨⟨_, hall⟩, _⟩ := hend
    rw [if_neg h0, List.head?_cons, if_pos rfl, List.drop_succ_cons, List.drop_zero]
    unfold tagF
    obtain ⟨d', hd⟩ : ∃ d : Str, d = (if u.step = 0 then [] else Lib.decDigits u.step.toNat) := ⟨_, rfl⟩
    rw [← hd]
    obtain ⟨l1, l2⟩ := low_split hall (d := d') (fun x hx => by
      rw [hd] at hx
      split at hx
      · simp at hx
      · exact dig_low (dec_dig _ x hx))
    rw [l1, l2]
    by_cases hz : u.step = 0
    · rw [if_pos hz] at hd
      rw [if_pos hd]
      have hu : ({ v with tag := ofB u.tag.data.toList } : Ver) = u := by
        rw [ver_eq]
        exact ⟨⟨a, b, c, d⟩, m, rfl, by show v.step = _; rw [hs, hz]⟩
      unfold finF
      rw [hu, if_pos ⟨rfl, h, rfl⟩]
    · rw [if_neg hz] at hd
      have e := numS_dec (n := u.step.toNat) (by omega) (X := []) (fun c hc => by cases hc)
      rw [List.append_nil] at e
      rw [if_neg (by rw [hd]; exact dec_ne _), hd, e]
      dsimp only
      rw [if_neg (by simp; omega), List.drop_length]
      have hu : ({ v with tag := ofB u.tag.data.toList, step := ((u.step.toNat : Nat) : Int) } : Ver) = u := by
        rw [ver_eq]
        exact ⟨⟨a, b, c, d⟩, m, rfl, by show ((u.step.toNat : Nat) : Int) = _; omega⟩
      unfold finF
      rw [hu, if_pos ⟨rfl, h, rfl⟩]
theorem ref_text {u : Ver} (h : u.ok = true) : refV u.text = some u := by
  obtain ⟨hm1, hm4⟩ := ok_many h
  obtain ⟨k, hk⟩ : ∃ k : Nat, u.many = (k : Int) := ⟨u.many.toNat, by omega⟩
  have hkn : u.many.toNat = k := by omega
  have hb : ∀ j, j < k → (u.num j).toNat ≤ 9999 ∧ ((u.num j).toNat : Int) = u.num j := fun j hj => by
    have := ok_num h (j := j) (by omega)
    omega
  have hr : ∀ j, j < 4 → k ≤ j → u.num j = 0 := fun j hj hm => ok_rest h j hj (by omega)
  have he := end_head u
  unfold refV
  obtain ⟨t, ht⟩ : ∃ t, t = u.text := ⟨_, rfl⟩
  have hte : t = dotsL u.num k ++ u.endT := by rw [ht, text_end h, hkn]
  rw [← ht]
  have last : ∀ v : Ver, v.n0 = u.num 0 → v.n1 = u.num 1 → v.n2 = u.num 2 → v.n3 = u.num 3 → v.many = (k : Int) → v.tag = ⟨#[]⟩ → v.step = 0 → tailF t v u.endT = some u := fun v a b c d m tg st => by
    rw [ht]
    exact tail_text h ⟨a, b, c, d, by rw [m, hk]⟩ tg st
  rcases (by omega : k = 1 ∨ k = 2 ∨ k = 3 ∨ k = 4) with rfl | rfl | rfl | rfl
  · have e : t = Lib.decDigits (u.num 0).toNat ++ u.endT := by rw [hte]; simp [dotsL]
    conv => lhs; arg 5; rw [e]
    rw [loop_end (by omega) (hb 0 (by omega)).1 he]
    exact last _ (hb 0 (by omega)).2 (hr 1 (by omega) (by omega)).symm (hr 2 (by omega) (by omega)).symm (hr 3 (by omega) (by omega)).symm rfl rfl rfl
  · have e : t = Lib.decDigits (u.num 0).toNat ++ 46 :: (Lib.decDigits (u.num 1).toNat ++ u.endT) := by rw [hte]; simp [dotsL]
    conv => lhs; arg 5; rw [e]
    rw [loop_dot (by omega) (hb 0 (by omega)).1, loop_end (by omega) (hb 1 (by omega)).1 he]
    exact last _ (hb 0 (by omega)).2 (hb 1 (by omega)).2 (hr 2 (by omega) (by omega)).symm (hr 3 (by omega) (by omega)).symm rfl rfl rfl
  · have e : t = Lib.decDigits (u.num 0).toNat ++ 46 :: (Lib.decDigits (u.num 1).toNat ++ 46 :: (Lib.decDigits (u.num 2).toNat ++ u.endT)) := by rw [hte]; simp [dotsL]
    conv => lhs; arg 5; rw [e]
    rw [loop_dot (by omega) (hb 0 (by omega)).1, loop_dot (by omega) (hb 1 (by omega)).1, loop_end (by omega) (hb 2 (by omega)).1 he]
    exact last _ (hb 0 (by omega)).2 (hb 1 (by omega)).2 (hb 2 (by omega)).2 (hr 3 (by omega) (by omega)).symm rfl rfl rfl
  · have e : t = Lib.decDigits (u.num 0).toNat ++ 46 :: (Lib.decDigits (u.num 1).toNat ++ 46 :: (Lib.decDigits (u.num 2).toNat ++ 46 :: (Lib.decDigits (u.num 3).toNat ++ u.endT))) := by rw [hte]; simp [dotsL]
    conv => lhs; arg 5; rw [e]
    rw [loop_dot (by omega) (hb 0 (by omega)).1, loop_dot (by omega) (hb 1 (by omega)).1, loop_dot (by omega) (hb 2 (by omega)).1, loop_end (by omega) (hb 3 (by omega)).1 he]
    exact last _ (hb 0 (by omega)).2 (hb 1 (by omega)).2 (hb 2 (by omega)).2 (hb 3 (by omega)).2 rfl rfl rfl
/-- The document's answer is the program's. -/
theorem ref_read (s : ByteArray) : refV s.data.toList = readV s := by
  cases hr : readV s with
  | some u =>
    obtain ⟨h1, h2⟩ := text_read hr
    rw [← h2]
    exact ref_text h1
  | none =>
    cases hf : refV s.data.toList with
    | none => rfl
    | some v =>
      obtain ⟨h1, h2⟩ := loop_some _ _ _ _ hf
      have := read_text h1
      rw [h2, ← ofB_eq rfl, hr] at this
      cases this
end Go.Proofs.YtjekibhaabkecaaDoor
