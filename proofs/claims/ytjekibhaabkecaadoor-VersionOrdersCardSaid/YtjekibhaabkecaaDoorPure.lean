/- Plain words on the texts of versions: a number's digits, the pieces of a text, and that texts and versions lead back to one another. Nothing of the program's steps stands here. -/
import Derived.Test.YtjekibhaabkecaaDoorRead
import Derived.Test.YtjekibhaabkecaaDoorText
namespace Go.Proofs.YtjekibhaabkecaaDoor
open Go.RowKit

/-! ### Digits -/
theorem dec_big {n : Nat} (h : ¬ n < 10) : Lib.decDigits n = Lib.decDigits (n / 10) ++ [UInt8.ofNat (48 + n % 10)] := by
  conv => lhs; rw [Lib.decDigits, dif_neg h]
theorem digit_nat {d : Nat} (h : d < 10) : (UInt8.ofNat (48 + d)).toNat = 48 + d := by
  rw [UInt8.toNat_ofNat']
  omega
theorem dec_dig (n : Nat) : ∀ x ∈ Lib.decDigits n, dgB x = true := by
  induction n using Nat.strongRecOn with
  | ind n ih =>
    intro x hx
    by_cases h : n < 10
    · rw [Lib.decDigits_one h] at hx
      obtain rfl := List.mem_singleton.1 hx
      unfold dgB
      rw [digit_nat h]
      exact decide_eq_true (by omega)
    · rw [dec_big h] at hx
      rcases List.mem_append.1 hx with hx | hx
      · exact ih (n / 10) (by omega) x hx
      · obtain rfl := List.mem_singleton.1 hx
        unfold dgB
        rw [digit_nat (Nat.mod_lt _ (by omega))]
        exact decide_eq_true (by omega)
theorem dec_ne (n : Nat) : Lib.decDigits n ≠ [] := by
  by_cases h : n < 10
  · rw [Lib.decDigits_one h]; simp
  · rw [dec_big h]; simp
theorem val_one {d : Nat} (h : d < 10) : val [UInt8.ofNat (48 + d)] = d := by
  have := val_snoc [] (UInt8.ofNat (48 + d))
  rw [List.nil_append] at this
  rw [this, digit_nat h, show val [] = 0 from rfl]
  omega
theorem val_dec (n : Nat) : val (Lib.decDigits n) = n := by
  induction n using Nat.strongRecOn with
  | ind n ih =>
    by_cases h : n < 10
    · rw [Lib.decDigits_one h, val_one h]
    · rw [dec_big h, val_snoc, ih (n / 10) (by omega), digit_nat (Nat.mod_lt _ (by omega))]
      omega
theorem step_pre {l m : Str} {most j : Nat} (hj : j < l.length) : stepB (l ++ m) most j = stepB l most j := by
  unfold stepB
  rw [List.getD_eq_getElem?_getD, List.getD_eq_getElem?_getD, List.getElem?_append_left hj, List.take_append_of_le_length (by omega), List.take_append_of_le_length (by omega)]
theorem step_last (l : Str) (c : UInt8) (most : Nat) : stepB (l ++ [c]) most l.length = (dgB c && (decide (l.length = 0) || decide (val l ≠ 0)) && decide (val (l ++ [c]) ≤ most)) := by
  unfold stepB
  have e1 : (l ++ [c]).getD l.length 0 = c := by simp
  have e2 : (l ++ [c]).take l.length = l := by simp
  have e3 : (l ++ [c]).take (l.length + 1) = l ++ [c] := List.take_of_length_le (by simp)
  rw [e1, e2, e3]
theorem all_snoc (l : Str) (c : UInt8) (most : Nat) : numOk (l ++ [c]) most = (numOk l most && stepB (l ++ [c]) most l.length) := by
  unfold numOk
  rw [List.length_append, List.length_singleton, List.range_succ, List.all_append, List.all_cons, List.all_nil, Bool.and_true]
  congr 1
  rw [Bool.eq_iff_iff, List.all_eq_true, List.all_eq_true]
  exact ⟨fun h j hj => by have := h j hj; rwa [step_pre (List.mem_range.1 hj)] at this, fun h j hj => by rw [step_pre (List.mem_range.1 hj)]; exact h j hj⟩
theorem dec_ok (n most : Nat) (h : n ≤ most) : numOk (Lib.decDigits n) most = true := by
  induction n using Nat.strongRecOn with
  | ind n ih =>
    by_cases h10 : n < 10
    · have e := all_snoc [] (UInt8.ofNat (48 + n)) most
      rw [List.nil_append] at e
      rw [Lib.decDigits_one h10, e, ← List.nil_append [UInt8.ofNat (48 + n)], step_last, List.nil_append, val_one h10]
      have := dec_dig n (UInt8.ofNat (48 + n)) (by rw [Lib.decDigits_one h10]; simp)
      rw [this]
      simp [numOk, h]
    · have hd := dec_dig n (UInt8.ofNat (48 + n % 10)) (by rw [dec_big h10]; simp)
      rw [dec_big h10, all_snoc, ih (n / 10) (by omega) (by omega), step_last, hd, ← dec_big h10, val_dec, val_dec]
      have : n / 10 ≠ 0 := by omega
      simp [h, this]
theorem numR_dec (n most : Nat) (h : n ≤ most) : numR (Lib.decDigits n) most = (n, true) := by
  unfold numR
  rw [if_pos (dec_ok n most h), val_dec, decide_eq_true (dec_ne n)]
theorem dec_of (most : Nat) : ∀ (k : Nat) (l : Str), l.length = k → l ≠ [] → numOk l most = true → l = Lib.decDigits (val l) ∧ val l ≤ most := by
  intro k
  induction k with
  | zero => intro l hl hn _; exact absurd (List.eq_nil_of_length_eq_zero hl) hn
  | succ k ih =>
    intro l hl hn ho
    obtain ⟨r, c, rfl⟩ : ∃ r c, l = r ++ [c] := ⟨l.dropLast, l.getLast hn, (List.dropLast_concat_getLast hn).symm⟩
    rw [all_snoc, step_last] at ho
    simp only [Bool.and_eq_true, Bool.or_eq_true, decide_eq_true_eq] at ho
    obtain ⟨h1, ⟨h2, h3⟩, h4⟩ := ho
    have hc : 48 ≤ c.toNat ∧ c.toNat ≤ 57 := of_decide_eq_true h2
    have ec : ∀ d, d = c.toNat - 48 → UInt8.ofNat (48 + d) = c := fun d hd => by
      apply UInt8.toNat_inj.1
      rw [digit_nat (by omega)]
      omega
    refine ⟨?_, h4⟩
    by_cases hr : r = []
    · subst hr
      have e : val [c] = c.toNat - 48 := by
        have := val_snoc [] c
        rw [List.nil_append] at this
        rw [this, show val [] = 0 from rfl]
        omega
      rw [List.nil_append, e, Lib.decDigits_one (by omega), ec _ rfl]
    · have hr0 : val r ≠ 0 := by
        rcases h3 with h3 | h3
        · exact absurd (List.eq_nil_of_length_eq_zero h3) hr
        · exact h3
      obtain ⟨i1, _⟩ := ih r (by simpa using hl) hr h1
      rw [val_snoc]
      have hb : ¬ 10 * val r + (c.toNat - 48) < 10 := by omega
      rw [dec_big hb, show (10 * val r + (c.toNat - 48)) / 10 = val r by omega, show (10 * val r + (c.toNat - 48)) % 10 = c.toNat - 48 by omega, ec _ rfl, ← i1]
/-- Digits that are read are a number's own. -/
theorem dec_read {l : Str} {most : Nat} (h : (numR l most).2 = true) : l = Lib.decDigits (numR l most).1 ∧ (numR l most).1 ≤ most := by
  unfold numR at h ⊢
  split at h
  · rename_i ho
    rw [if_pos ho]
    exact dec_of most _ l rfl (of_decide_eq_true h) ho
  · cases h

/-! ### Pieces -/
def splitL (c : UInt8) : Str → List Str
  | [] => [[]]
  | x :: r => if x = c then [] :: splitL c r else match splitL c r with
    | [] => [[x]]
    | h :: t => (x :: h) :: t
def joinL (c : UInt8) : List Str → Str
  | [] => []
  | [a] => a
  | a :: b :: r => a ++ c :: joinL c (b :: r)
theorem split_ne (c : UInt8) (l : Str) : splitL c l ≠ [] := by
  cases l with
  | nil => simp [splitL]
  | cons x r =>
    unfold splitL
    split
    · simp
    · split <;> simp
theorem split_free {c : UInt8} {l : Str} (h : c ∉ l) : splitL c l = [l] := by
  induction l with
  | nil => rfl
  | cons x r ih =>
    simp only [List.mem_cons, not_or] at h
    unfold splitL
    rw [if_neg (fun e => h.1 e.symm), ih h.2]
theorem split_at {c : UInt8} {a r : Str} (h : c ∉ a) : splitL c (a ++ c :: r) = a :: splitL c r := by
  induction a with
  | nil => simp [splitL]
  | cons x a ih =>
    simp only [List.mem_cons, not_or] at h
    rw [List.cons_append]
    conv => lhs; unfold splitL
    rw [if_neg (fun e => h.1 e.symm), ih h.2]
theorem join_split (c : UInt8) (l : Str) : joinL c (splitL c l) = l := by
  induction l with
  | nil => rfl
  | cons x r ih =>
    unfold splitL
    have hn := split_ne c r
    split
    · rename_i hx
      cases hs : splitL c r with
      | nil => exact absurd hs hn
      | cons a t => rw [hs] at ih; rw [joinL, ih, hx]; rfl
    · cases hs : splitL c r with
      | nil => exact absurd hs hn
      | cons a t =>
        rw [hs] at ih
        cases t with
        | nil => simpa [joinL] using congrArg (x :: ·) ih
        | cons b t => simpa [joinL] using congrArg (x :: ·) ih
theorem cut_take {c : UInt8} {l : Str} (h : c ∈ l) : l = l.takeWhile (· != c) ++ c :: (l.dropWhile (· != c)).drop 1 := by
  induction l with
  | nil => simp at h
  | cons x s ih =>
    by_cases hc : x = c
    · subst hc; simp
    · have h' : c ∈ s := by
        rcases List.mem_cons.1 h with h | h
        · exact absurd h.symm hc
        · exact h
      have e : (x != c) = true := by simp [hc]
      rw [List.takeWhile_cons, List.dropWhile_cons, if_pos e, if_pos e, List.cons_append, ← ih h']
theorem free_take (c : UInt8) (l : Str) : c ∉ l.takeWhile (· != c) := by
  induction l with
  | nil => simp
  | cons x l ih =>
    rw [List.takeWhile_cons]
    by_cases h : x = c
    · simp [h]
    · rw [if_pos (by simp [h])]
      simp only [List.mem_cons, not_or]
      exact ⟨fun e => h e.symm, ih⟩
theorem pcs_list (c : UInt8) : ∀ (f : Nat) (s : ByteArray), s.size ≤ f → (pcs c f s).map (·.data.toList) = splitL c s.data.toList := by
  intro f
  induction f with
  | zero =>
    intro s hs
    have e : s.data.toList = [] := List.eq_nil_of_length_eq_zero (by show s.size = 0; omega)
    show [s.data.toList] = _
    rw [e]
    rfl
  | succ f ih =>
    intro s hs
    have hl : s.data.toList.length = s.size := rfl
    unfold pcs
    by_cases h : c ∈ s.data.toList
    · have hi := index_some c _ h
      have hlt := take_lt c _ h
      obtain ⟨e1, e2⟩ := take_len c s.data.toList
      have hk : ¬ Lib.indexByte s.data.toList c < 0 := by rw [hi]; omega
      have hn : (Lib.indexByte s.data.toList c).toNat = (s.data.toList.takeWhile (· != c)).length := by rw [hi]; rfl
      rw [if_neg hk, hn, List.map_cons, ih _ (by simp; omega), ext_to, Lib.extract_to_end, e1]
      conv => rhs; rw [cut_take h]
      rw [split_at (free_take c _), ← List.drop_drop, e2]
    · have hi := index_none c _ h
      rw [if_pos (by rw [hi]; decide), split_free h]
      rfl
theorem pieces_list (c : UInt8) (s : ByteArray) : (pieces c s).map (·.data.toList) = splitL c s.data.toList := pcs_list c _ s (Nat.le_refl _)

/-! ### Versions and their texts -/
theorem not_dig {c : UInt8} (h : dgB c = false) (n : Nat) : c ∉ Lib.decDigits n := fun hc => by
  rw [dec_dig n c hc] at h
  cases h
theorem dots_free {f : Nat → Int} (k : Nat) : 45 ∉ dotsL f k := by
  induction k with
  | zero => simp [dotsL]
  | succ k ih =>
    rw [dotsL]
    simp only [List.mem_append, not_or]
    refine ⟨⟨ih, ?_⟩, not_dig (by decide) _⟩
    split <;> decide
theorem split_dots (f : Nat → Int) (k : Nat) (h1 : 1 ≤ k) (h4 : k ≤ 4) : splitL 46 (dotsL f k) = (List.range k).map fun j => Lib.decDigits (f j).toNat := by
  have nd : ∀ n, (46 : UInt8) ∉ Lib.decDigits n := fun n => not_dig (by decide) n
  have e : ∀ a r : Str, a ++ [46] ++ r = a ++ 46 :: r := fun a r => by simp
  rcases (by omega : k = 1 ∨ k = 2 ∨ k = 3 ∨ k = 4) with rfl | rfl | rfl | rfl
  · simp [dotsL, split_free (nd _)]
  · simp [dotsL, split_at (nd _), split_free (nd _), List.range_succ]
  · simp [dotsL, split_at (nd _), split_free (nd _), List.range_succ]
  · simp [dotsL, split_at (nd _), split_free (nd _), List.range_succ]
theorem pieces_eq {c : UInt8} {s : ByteArray} {L : List Str} (h : splitL c s.data.toList = L) : pieces c s = L.map ofB := by
  have e := pieces_list c s
  rw [h] at e
  rw [← e, List.map_map]
  have : (ofB ∘ fun x : ByteArray => x.data.toList) = id := by
    funext x
    show (⟨x.data.toList.toArray⟩ : ByteArray) = x
    rfl
  rw [this, List.map_id]
theorem okP_dec (n : Nat) (h : n ≤ 9999) : okP (ofB (Lib.decDigits n)) = true ∧ valP (ofB (Lib.decDigits n)) = n := by
  unfold okP valP
  rw [show (ofB (Lib.decDigits n)).data.toList = Lib.decDigits n from rfl, numR_dec n _ h]
  exact ⟨rfl, rfl⟩
theorem cut_yes {a r : Str} (h : (45 : UInt8) ∉ a) : cutAt 45 (a ++ 45 :: r) = (a, r, true) := by
  unfold cutAt
  rw [if_pos (by simp)]
  have e : ∀ l : Str, (45 : UInt8) ∉ l → (l ++ 45 :: r).takeWhile (· != 45) = l ∧ (l ++ 45 :: r).dropWhile (· != 45) = 45 :: r := by
    intro l
    induction l with
    | nil => intro _; simp
    | cons x l ih =>
      intro hl
      simp only [List.mem_cons, not_or] at hl
      have hx : (x != 45) = true := by simp; exact fun e => hl.1 e.symm
      rw [List.cons_append, List.takeWhile_cons, List.dropWhile_cons, if_pos hx, if_pos hx, (ih hl.2).1]
      exact ⟨rfl, (ih hl.2).2⟩
  rw [(e a h).1, (e a h).2]
  rfl
theorem cut_no {a : Str} (h : (45 : UInt8) ∉ a) : cutAt 45 a = (a, [], false) := by
  unfold cutAt
  rw [if_neg h]
theorem low_split {t d : Str} (ht : t.all lowB = true) (hd : ∀ x ∈ d, lowB x = false) : (t ++ d).takeWhile lowB = t ∧ (t ++ d).dropWhile lowB = d := by
  induction t with
  | nil =>
    cases d with
    | nil => simp
    | cons x d => simp [hd x (by simp)]
  | cons x t ih =>
    rw [List.all_cons, Bool.and_eq_true] at ht
    rw [List.cons_append, List.takeWhile_cons, List.dropWhile_cons, if_pos ht.1, if_pos ht.1, (ih ht.2).1]
    exact ⟨rfl, (ih ht.2).2⟩
theorem dig_low {x : UInt8} (h : dgB x = true) : lowB x = false := by
  unfold dgB at h
  unfold lowB
  have := of_decide_eq_true h
  exact decide_eq_false (by omega)
theorem ok_num4 {v : Ver} (h : v.ok = true) (j : Nat) (hj : j < 4) : numB v.many j (v.num j) = true := by
  unfold Ver.ok Ver.numsB at h
  simp only [Bool.and_eq_true] at h
  obtain ⟨⟨_, ⟨⟨h0, h1⟩, h2⟩, h3⟩, _⟩ := h
  rcases (by omega : j = 0 ∨ j = 1 ∨ j = 2 ∨ j = 3) with rfl | rfl | rfl | rfl
  · exact h0
  · exact h1
  · exact h2
  · exact h3
theorem ok_rest {v : Ver} (h : v.ok = true) (j : Nat) (hj : j < 4) (hm : v.many ≤ j) : v.num j = 0 := by
  have := of_decide_eq_true (ok_num4 h j hj)
  omega
theorem num_at (v : Ver) : v.n0 = v.num 0 ∧ v.n1 = v.num 1 ∧ v.n2 = v.num 2 ∧ v.n3 = v.num 3 := ⟨rfl, rfl, rfl, rfl⟩
/-- The pieces of the first numbers' text. -/
theorem heads {v : Ver} (hv : v.ok = true) (k : Nat) (hk : v.many = (k : Int)) (s : ByteArray) (hs : (cutAt 45 s.data.toList).1 = dotsL v.num k) :
    readsP (headP s) = true ∧ ∀ tag step, verP (headP s) tag step = ⟨v.n0, v.n1, v.n2, v.n3, v.many, ofB tag, step⟩ := by
  obtain ⟨hm1, hm4⟩ := ok_many hv
  have hnum : ∀ j, j < k → 0 ≤ v.num j ∧ v.num j ≤ 9999 := fun j hj => ok_num hv (by omega)
  have hp : headP s = ((List.range k).map fun j => Lib.decDigits (v.num j).toNat).map ofB := by
    unfold headP
    rw [hs]
    exact pieces_eq (split_dots v.num k (by omega) (by omega))
  have hd : ∀ j, j < k → okP (ofB (Lib.decDigits (v.num j).toNat)) = true ∧ valP (ofB (Lib.decDigits (v.num j).toNat)) = (v.num j).toNat := fun j hj => okP_dec _ (by have := hnum j hj; omega)
  have hlen : (headP s).length = k := by rw [hp]; simp
  have hval : (headP s).map valP = (List.range k).map fun j => (v.num j).toNat := by
    rw [hp, List.map_map, List.map_map]
    apply List.map_congr_left
    intro j hj
    exact (hd j (List.mem_range.1 hj)).2
  have hslot : ∀ j, j < 4 → slotP (headP s) j = v.num j := fun j hj => by
    unfold slotP
    rw [hval]
    by_cases hjk : j < k
    · rw [List.getD_eq_getElem?_getD, List.getElem?_map, List.getElem?_range hjk]
      have := hnum j hjk
      show (((v.num j).toNat : Nat) : Int) = _
      omega
    · rw [List.getD_eq_getElem?_getD, List.getElem?_eq_none (by simp; omega)]
      rw [ok_rest hv j hj (by omega)]
      rfl
  refine ⟨?_, fun tag step => ?_⟩
  · unfold readsP
    rw [Bool.and_eq_true]
    refine ⟨?_, decide_eq_true (by omega)⟩
    rw [hp, List.all_map, List.all_map, List.all_eq_true]
    intro j hj
    exact (hd j (List.mem_range.1 hj)).1
  · unfold verP
    rw [hslot 0 (by omega), hslot 1 (by omega), hslot 2 (by omega), hslot 3 (by omega), hlen, ← hk]
    rfl
theorem tag_list (v : Ver) : ofB v.tag.data.toList = v.tag := rfl
/-- The text of a version is read as that version. -/
theorem read_text {v : Ver} (hv : v.ok = true) : readV (ofB v.text) = some v := by
  obtain ⟨hm1, hm4⟩ := ok_many hv
  obtain ⟨k, hk⟩ : ∃ k : Nat, v.many = (k : Int) := ⟨v.many.toNat, by omega⟩
  have hkn : v.many.toNat = k := by omega
  have ht : (ofB v.text).data.toList = v.text := rfl
  by_cases h0 : v.tag.data.toList = []
  · have hs := ok_step0 hv h0
    have e : v.text = dotsL v.num k := by unfold Ver.text; rw [hkn, if_pos h0, if_pos hs]; simp
    have hc : cutAt 45 (ofB v.text).data.toList = (dotsL v.num k, [], false) := by rw [ht, e, cut_no (dots_free k)]
    obtain ⟨q1, q2⟩ := heads hv k hk (ofB v.text) (by rw [hc])
    unfold readV
    rw [if_pos q1, if_neg (by rw [hc]; simp), q2]
    congr 1
    rw [ver_eq]
    refine ⟨⟨rfl, rfl, rfl, rfl⟩, rfl, ?_, hs.symm⟩
    show ofB [] = v.tag
    rw [← h0]
    rfl
  · obtain ⟨s0, s9⟩ := ok_stepb hv h0
    have hend := ok_end hv
    unfold Ver.endB at hend
    rw [if_neg h0, Bool.and_eq_true] at hend
    obtain ⟨htag, _⟩ := hend
    have htag' := htag
    unfold tagB at htag'
    rw [Bool.and_eq_true] at htag'
    obtain ⟨_, hall⟩ := htag'
    obtain ⟨d, hd⟩ : ∃ d : Str, d = (if v.step = 0 then [] else Lib.decDigits v.step.toNat) := ⟨_, rfl⟩
    have e : v.text = dotsL v.num k ++ 45 :: (v.tag.data.toList ++ d) := by unfold Ver.text; rw [hkn, if_neg h0, ← hd]; simp
    have hc : cutAt 45 (ofB v.text).data.toList = (dotsL v.num k, v.tag.data.toList ++ d, true) := by rw [ht, e, cut_yes (dots_free k)]
    obtain ⟨q1, q2⟩ := heads hv k hk (ofB v.text) (by rw [hc])
    have hdl : ∀ x ∈ d, lowB x = false := fun x hx => by
      rw [hd] at hx
      split at hx
      · simp at hx
      · exact dig_low (dec_dig _ x hx)
    obtain ⟨l1, l2⟩ := low_split hall hdl
    have hg : tagR (v.tag.data.toList ++ d) = (v.tag.data.toList, v.step.toNat, true) := by
      unfold tagR
      rw [l1, l2, if_pos htag]
      by_cases hz : v.step = 0
      · rw [hd, if_pos hz, if_pos rfl, hz]
        rfl
      · have hdd : d = Lib.decDigits v.step.toNat := by rw [hd, if_neg hz]
        rw [if_neg (by rw [hdd]; exact dec_ne _), hdd, numR_dec _ 999 (by omega)]
        have : v.step.toNat ≠ 0 := by omega
        simp [this]
    unfold readV
    rw [if_pos q1, if_pos (by rw [hc]), hc]
    dsimp only
    rw [hg, if_pos rfl, q2]
    congr 1
    rw [ver_eq]
    refine ⟨⟨rfl, rfl, rfl, rfl⟩, rfl, rfl, ?_⟩
    show ((v.step.toNat : Nat) : Int) = v.step
    omega
theorem ofB_eq {s : ByteArray} {l : Str} (h : s.data.toList = l) : s = ofB l := by subst h; rfl
/-- What is read of pieces that are numbers: they are the digits of these, and these may be. -/
theorem pieces_read {ps : List ByteArray} (h : readsP ps = true) : (∀ p ∈ ps, p.data.toList = Lib.decDigits (valP p) ∧ valP p ≤ 9999) ∧ ps.length ≤ 4 := by
  unfold readsP at h
  rw [Bool.and_eq_true] at h
  refine ⟨fun p hp => ?_, of_decide_eq_true h.2⟩
  have := List.all_eq_true.1 h.1 p hp
  unfold okP at this
  exact dec_read this
theorem dots_join : ∀ (ps : List ByteArray), ps.length ≤ 4 → (∀ p ∈ ps, p.data.toList = Lib.decDigits (valP p)) → dotsL (slotP ps) ps.length = joinL 46 (ps.map (·.data.toList))
  | [], _, _ => rfl
  | [a], _, h => by
    simp [dotsL, joinL, slotP, h a (by simp)]
  | [a, b], _, h => by
    simp [dotsL, joinL, slotP, h a (by simp), h b (by simp)]
  | [a, b, c], _, h => by
    simp [dotsL, joinL, slotP, h a (by simp), h b (by simp), h c (by simp)]
  | [a, b, c, d], _, h => by
    simp [dotsL, joinL, slotP, h a (by simp), h b (by simp), h c (by simp), h d (by simp)]
  | a :: b :: c :: d :: e :: r, hl, _ => by simp at hl <;> omega
theorem dots_congr {f g : Nat → Int} (k : Nat) (h : ∀ j, j < k → f j = g j) : dotsL f k = dotsL g k := by
  induction k with
  | zero => rfl
  | succ k ih => rw [dotsL, dotsL, ih (fun j hj => h j (by omega)), h k (by omega)]
theorem verP_num (ps : List ByteArray) (tag : Str) (step : Int) (j : Nat) (hj : j < 4) : (verP ps tag step).num j = slotP ps j := by
  rcases (by omega : j = 0 ∨ j = 1 ∨ j = 2 ∨ j = 3) with rfl | rfl | rfl | rfl <;> rfl
theorem slot_rng {ps : List ByteArray} (h : readsP ps = true) (j : Nat) : 0 ≤ slotP ps j ∧ slotP ps j ≤ 9999 ∧ ((j : Int) < (ps.length : Int) ∨ slotP ps j = 0) := by
  obtain ⟨h1, h2⟩ := pieces_read h
  unfold slotP
  by_cases hj : j < ps.length
  · rw [List.getD_eq_getElem?_getD, List.getElem?_map, List.getElem?_eq_getElem hj]
    have := (h1 _ (List.getElem_mem hj)).2
    show 0 ≤ ((valP ps[j] : Nat) : Int) ∧ _
    exact ⟨Int.natCast_nonneg _, by show ((valP ps[j] : Nat) : Int) ≤ 9999; omega, .inl (by omega)⟩
  · rw [List.getD_eq_getElem?_getD, List.getElem?_eq_none (by simp; omega)]
    exact ⟨by decide, by decide, .inr rfl⟩
theorem head_ne (s : ByteArray) : 1 ≤ (headP s).length := by
  have e := pieces_list 46 (ofB (cutAt 45 s.data.toList).1)
  have := congrArg List.length e
  rw [List.length_map] at this
  unfold headP
  rw [this]
  exact List.length_pos_iff.2 (split_ne 46 _)
/-- A version that was read may be, and the text is its text. -/
theorem text_read {s : ByteArray} {v : Ver} (h : readV s = some v) : v.ok = true ∧ v.text = s.data.toList := by
  unfold readV at h
  by_cases hr : readsP (headP s) = true
  rotate_left
  · rw [if_neg hr] at h
    cases h
  rw [if_pos hr] at h
  obtain ⟨p1, p2⟩ := pieces_read hr
  have hne := head_ne s
  have hnums : ∀ tag step, (verP (headP s) tag step).numsB = true := fun tag step => nums_yes _ fun j hj => by
    rw [verP_num _ _ _ _ hj]
    obtain ⟨a, b, c⟩ := slot_rng hr j
    exact decide_eq_true ⟨a, b, c⟩
  have hdots : ∀ tag step, dotsL (verP (headP s) tag step).num (headP s).length = (cutAt 45 s.data.toList).1 := fun tag step => by
    rw [dots_congr (g := slotP (headP s)) _ (fun j hj => verP_num _ _ _ j (by omega)), dots_join _ p2 (fun p hp => (p1 p hp).1)]
    unfold headP
    rw [pieces_list]
    exact join_split 46 _
  have hmany : ∀ tag step, (verP (headP s) tag step).many.toNat = (headP s).length := fun tag step => rfl
  by_cases ht : (cutAt 45 s.data.toList).2.2 = true
  · rw [if_pos ht] at h
    by_cases hg : (tagR (cutAt 45 s.data.toList).2.1).2.2 = true
    rotate_left
    · rw [if_neg hg] at h
      cases h
    rw [if_pos hg] at h
    obtain rfl := Option.some.inj h
    have hc : 45 ∈ s.data.toList := by
      rcases Classical.em ((45 : UInt8) ∈ s.data.toList) with hc | hc
      · exact hc
      · rw [cut_no hc] at ht; cases ht
    have hcut : cutAt 45 s.data.toList = (s.data.toList.takeWhile (· != 45), (s.data.toList.dropWhile (· != 45)).drop 1, true) := by unfold cutAt; rw [if_pos hc]
    obtain ⟨b, hb⟩ : ∃ b, b = (cutAt 45 s.data.toList).2.1 := ⟨_, rfl⟩
    have hall : s.data.toList = (cutAt 45 s.data.toList).1 ++ 45 :: b := by
      rw [hb, hcut]
      exact cut_take hc
    rw [← hb] at hg ⊢
    -- the tag, and the step's digits
    obtain ⟨tg, dg, htg, hdg⟩ : ∃ tg dg, tg = b.takeWhile lowB ∧ dg = b.dropWhile lowB := ⟨_, _, rfl, rfl⟩
    have hbb : b = tg ++ dg := by rw [htg, hdg, List.takeWhile_append_dropWhile]
    unfold tagR at hg ⊢
    rw [← htg, ← hdg] at hg ⊢
    by_cases htb : tagB tg = true
    rotate_left
    · rw [if_neg htb] at hg
      cases hg
    rw [if_pos htb] at hg ⊢
    have htn : tg ≠ [] := by
      intro e
      rw [e] at htb
      simp [tagB] at htb
    by_cases hd0 : dg = []
    · rw [if_pos hd0]
      refine ⟨?_, ?_⟩
      · unfold Ver.ok
        rw [hnums]
        unfold Ver.endB
        have e1 : (verP (headP s) tg ((0 : Nat) : Int)).tag.data.toList = tg := rfl
        rw [e1, if_neg htn, htb, decide_eq_true (show 1 ≤ (verP (headP s) tg ((0 : Nat) : Int)).many ∧ (verP (headP s) tg ((0 : Nat) : Int)).many ≤ 4 from ⟨by show (1 : Int) ≤ ((headP s).length : Int); omega, by show ((headP s).length : Int) ≤ 4; omega⟩)]
        rfl
      · unfold Ver.text
        have e1 : (verP (headP s) tg ((0 : Nat) : Int)).tag.data.toList = tg := rfl
        rw [hmany, hdots, e1, if_neg htn, if_pos (show (verP (headP s) tg ((0 : Nat) : Int)).step = 0 from rfl)]
        conv => rhs; rw [hall, hbb, hd0]
        simp
    · rw [if_neg hd0] at hg ⊢
      dsimp only at hg ⊢
      rw [Bool.and_eq_true] at hg
      obtain ⟨g1, g2⟩ := hg
      obtain ⟨e1, e2⟩ := dec_read g1
      have e3 := of_decide_eq_true g2
      generalize (numR dg 999).1 = n at e1 e2 e3
      have et : (verP (headP s) tg (n : Int)).tag.data.toList = tg := rfl
      have es : (verP (headP s) tg (n : Int)).step = (n : Int) := rfl
      refine ⟨?_, ?_⟩
      · unfold Ver.ok
        rw [hnums]
        unfold Ver.endB
        rw [et, if_neg htn, htb, es, decide_eq_true (show 1 ≤ (verP (headP s) tg (n : Int)).many ∧ (verP (headP s) tg (n : Int)).many ≤ 4 from ⟨by show (1 : Int) ≤ ((headP s).length : Int); omega, by show ((headP s).length : Int) ≤ 4; omega⟩)]
        simp
        omega
      · unfold Ver.text
        rw [hmany, hdots, et, if_neg htn, es, if_neg (by omega)]
        conv => rhs; rw [hall, hbb, e1]
        simp
  · rw [if_neg ht] at h
    obtain rfl := Option.some.inj h
    have hc : (45 : UInt8) ∉ s.data.toList := fun hc => ht (by unfold cutAt; rw [if_pos hc])
    refine ⟨?_, ?_⟩
    · unfold Ver.ok
      rw [hnums, decide_eq_true (show 1 ≤ (verP (headP s) [] 0).many ∧ (verP (headP s) [] 0).many ≤ 4 from ⟨by show (1 : Int) ≤ ((headP s).length : Int); omega, by show ((headP s).length : Int) ≤ 4; omega⟩)]
      rfl
    · unfold Ver.text
      rw [hmany, hdots, if_pos (show (verP (headP s) [] 0).tag.data.toList = [] from rfl), if_pos (show (verP (headP s) [] 0).step = 0 from rfl), cut_no hc]
      simp
end Go.Proofs.YtjekibhaabkecaaDoor
