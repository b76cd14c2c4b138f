/- Plain words on the texts of versions: a number's digits, the pieces of a text, and that texts and versions lead back to one another. Nothing of the program's steps stands here. | Plain words on spans: bounds, their texts, and that texts and spans lead back to one another. Nothing of the program's steps stands here. | Plain words on the pieces of a span's text: cut at two bytes, and what they tell of rows and spans. Nothing of the program's steps stands here. | Proved here: Begins of package version. | Proved here, of the document's order of versions alone: of each two one stands ahead, or they are one, and it goes on over a third. | Plain words on spans: which versions they have, and what two come to. Nothing of the program's steps stands here. | Proved here: letters and Right of puncheonref04. | Proved here, of versions as plain words alone: what begins with a version stands ahead of the one behind it. | Proved here: Begins of puncheonref04. -/
import Derived.Lib.IndexMore
import Derived.Test.YtlfehjjnepiljaaGreatDoorM2
import Derived.Test.YtlfehjjnepiljaaGreatDoorM1
namespace Go.Proofs.YtlfehjjnepiljaaGreatDoor
open Go.RowKit

/-! ### Digits -/
theorem dec_big {n : Nat} (h : ¬ n < 10) : Lib.decDigits n = Lib.decDigits (n / 10) ++ [UInt8.ofNat (48 + n % 10)] := by
  conv => lhs; rw [Lib.decDigits, dif_neg h]
theorem digit_nat {d : Nat} (h : d < 10) : (UInt8.ofNat (48 + d)).toNat = 48 + d := by
  rw [UInt8.toNat_ofNat']
  omega
theorem dec_dig (n : Nat) : ∀ x ∈ Lib.decDigits n, dgB x = true := by
  induction n using Nat.strongRecOn with
  | ind n ih =>
    intro x hx
    by_cases h : n < 10
    · rw [Lib.decDigits_one h] at hx
      obtain rfl := List.mem_singleton.1 hx
      unfold dgB
      rw [digit_nat h]
      exact decide_eq_true (by omega)
    · rw [dec_big h] at hx
      rcases List.mem_append.1 hx with hx | hx
      · exact ih (n / 10) (by omega) x hx
      · obtain rfl := List.mem_singleton.1 hx
        unfold dgB
        rw [digit_nat (Nat.mod_lt _ (by omega))]
        exact decide_eq_true (by omega)
theorem dec_ne (n : Nat) : Lib.decDigits n ≠ [] := by
  by_cases h : n < 10
  · rw [Lib.decDigits_one h]; simp
  · rw [dec_big h]; simp
theorem val_one {d : Nat} (h : d < 10) : val [UInt8.ofNat (48 + d)] = d := by
  have := val_snoc [] (UInt8.ofNat (48 + d))
  rw [List.nil_append] at this
  rw [this, digit_nat h, show val [] = 0 from rfl]
  omega
theorem val_dec (n : Nat) : val (Lib.decDigits n) = n := by
  induction n using Nat.strongRecOn with
  | ind n ih =>
    by_cases h : n < 10
    · rw [Lib.decDigits_one h, val_one h]
    · rw [dec_big h, val_snoc, ih (n / 10) (by omega), digit_nat (Nat.mod_lt _ (by omega))]
      omega
theorem step_pre {l m : Str} {most j : Nat} (hj : j < l.length) : stepB (l ++ m) most j = stepB l most j := by
  unfold stepB
  rw [List.getD_eq_getElem?_getD, List.getD_eq_getElem?_getD, List.getElem?_append_left hj, List.take_append_of_le_length (by omega), List.take_append_of_le_length (by omega)]
theorem step_last (l : Str) (c : UInt8) (most : Nat) : stepB (l ++ [c]) most l.length = (dgB c && (decide (l.length = 0) || decide (val l ≠ 0)) && decide (val (l ++ [c]) ≤ most)) := by
  unfold stepB
  have e1 : (l ++ [c]).getD l.length 0 = c := by simp
  have e2 : (l ++ [c]).take l.length = l := by simp
  have e3 : (l ++ [c]).take (l.length + 1) = l ++ [c] := List.take_of_length_le (by simp)
  rw [e1, e2, e3]
theorem all_snoc (l : Str) (c : UInt8) (most : Nat) : numOk (l ++ [c]) most = (numOk l most && stepB (l ++ [c]) most l.length) := by
  unfold numOk
  rw [List.length_append, List.length_singleton, List.range_succ, List.all_append, List.all_cons, List.all_nil, Bool.and_true]
  congr 1
  rw [Bool.eq_iff_iff, List.all_eq_true, List.all_eq_true]
  exact ⟨fun h j hj => by have := h j hj; rwa [step_pre (List.mem_range.1 hj)] at this, fun h j hj => by rw [step_pre (List.mem_range.1 hj)]; exact h j hj⟩
theorem dec_ok (n most : Nat) (h : n ≤ most) : numOk (Lib.decDigits n) most = true := by
  induction n using Nat.strongRecOn with
  | ind n ih =>
    by_cases h10 : n < 10
    · have e := all_snoc [] (UInt8.ofNat (48 + n)) most
      rw [List.nil_append] at e
      rw [Lib.decDigits_one h10, e, ← List.nil_append [UInt8.ofNat (48 + n)], step_last, List.nil_append, val_one h10]
      have := dec_dig n (UInt8.ofNat (48 + n)) (by rw [Lib.decDigits_one h10]; simp)
      rw [this]
      simp [numOk, h]
    · have hd := dec_dig n (UInt8.ofNat (48 + n % 10)) (by rw [dec_big h10]; simp)
      rw [dec_big h10, all_snoc, ih (n / 10) (by omega) (by omega), step_last, hd, ← dec_big h10, val_dec, val_dec]
      have : n / 10 ≠ 0 := by omega
      simp [h, this]
theorem numR_dec (n most : Nat) (h : n ≤ most) : numR (Lib.decDigits n) most = (n, true) := by
  unfold numR
  rw [if_pos (dec_ok n most h), val_dec, decide_eq_true (dec_ne n)]
theorem dec_of (most : Nat) : ∀ (k : Nat) (l : Str), l.length = k → l ≠ [] → numOk l most = true → l = Lib.decDigits (val l) ∧ val l ≤ most := by
  intro k
  induction k with
  | zero => intro l hl hn _; exact absurd (List.eq_nil_of_length_eq_zero hl) hn
  | succ k ih =>
    intro l hl hn ho
    obtain ⟨r, c, rfl⟩ : ∃ r c, l = r ++ [c] := ⟨l.dropLast, l.getLast hn, (List.dropLast_concat_getLast hn).symm⟩
    rw [all_snoc, step_last] at ho
    simp only [Bool.and_eq_true, Bool.or_eq_true, decide_eq_true_eq] at ho
    obtain ⟨h1, ⟨h2, h3⟩, h4⟩ := ho
    have hc : 48 ≤ c.toNat ∧ c.toNat ≤ 57 := of_decide_eq_true h2
    have ec : ∀ d, d = c.toNat - 48 → UInt8.ofNat (48 + d) = c := fun d hd => by
      apply UInt8.toNat_inj.1
      rw [digit_nat (by omega)]
      omega
    refine ⟨?_, h4⟩
    by_cases hr : r = []
    · subst hr
      have e : val [c] = c.toNat - 48 := by
        have := val_snoc [] c
        rw [List.nil_append] at this
        rw [this, show val [] = 0 from rfl]
        omega
      rw [List.nil_append, e, Lib.decDigits_one (by omega), ec _ rfl]
    · have hr0 : val r ≠ 0 := by
        rcases h3 with h3 | h3
        · exact absurd (List.eq_nil_of_length_eq_zero h3) hr
        · exact h3
      obtain ⟨i1, _⟩ := ih r (by simpa using hl) hr h1
      rw [val_snoc]
      have hb : ¬ 10 * val r + (c.toNat - 48) < 10 := by omega
      rw [dec_big hb, show (10 * val r + (c.toNat - 48)) / 10 = val r by omega, show (10 * val r + (c.toNat - 48)) % 10 = c.toNat - 48 by omega, ec _ rfl, ← i1]
/-- Digits that are read are a number's own. -/
theorem dec_read {l : Str} {most : Nat} (h : (numR l most).2 = true) : l = Lib.decDigits (numR l most).1 ∧ (numR l most).1 ≤ most := by
  unfold numR at h ⊢
  split at h
  · rename_i ho
    rw [if_pos ho]
    exact dec_of most _ l rfl (of_decide_eq_true h) ho
  · cases h

/-! ### Pieces -/
def splitL (c : UInt8) : Str → List Str
  | [] => [[]]
  | x :: r => if x = c then [] :: splitL c r else match splitL c r with
    | [] => [[x]]
    | h :: t => (x :: h) :: t
def joinL (c : UInt8) : List Str → Str
  | [] => []
  | [a] => a
  | a :: b :: r => a ++ c :: joinL c (b :: r)
theorem split_ne (c : UInt8) (l : Str) : splitL c l ≠ [] := by
  cases l with
  | nil => simp [splitL]
  | cons x r =>
    unfold splitL
    split
    · simp
    · split <;> simp
theorem split_free {c : UInt8} {l : Str} (h : c ∉ l) : splitL c l = [l] := by
  induction l with
  | nil => rfl
  | cons x r ih =>
    simp only [List.mem_cons, not_or] at h
    unfold splitL
    rw [if_neg (fun e => h.1 e.symm), ih h.2]
theorem split_at {c : UInt8} {a r : Str} (h : c ∉ a) : splitL c (a ++ c :: r) = a :: splitL c r := by
  induction a with
  | nil => simp [splitL]
  | cons x a ih =>
    simp only [List.mem_cons, not_or] at h
    rw [List.cons_append]
    conv => lhs; unfold splitL
    rw [if_neg (fun e => h.1 e.symm), ih h.2]
theorem join_split (c : UInt8) (l : Str) : joinL c (splitL c l) = l := by
  induction l with
  | nil => rfl
  | cons x r ih =>
    unfold splitL
    have hn := split_ne c r
    split
    · rename_i hx
      cases hs : splitL c r with
      | nil => exact absurd hs hn
      | cons a t => rw [hs] at ih; rw [joinL, ih, hx]; rfl
    · cases hs : splitL c r with
      | nil => exact absurd hs hn
      | cons a t =>
        rw [hs] at ih
        cases t with
        | nil => simpa [joinL] using congrArg (x :: ·) ih
        | cons b t => simpa [joinL] using congrArg (x :: ·) ih
theorem cut_take {c : UInt8} {l : Str} (h : c ∈ l) : l = l.takeWhile (· != c) ++ c :: (l.dropWhile (· != c)).drop 1 := by
  induction l with
  | nil => simp at h
  | cons x s ih =>
    by_cases hc : x = c
    · subst hc; simp
    · have h' : c ∈ s := by
        rcases List.mem_cons.1 h with h | h
        · exact absurd h.symm hc
        · exact h
      have e : (x != c) = true := by simp [hc]
      rw [List.takeWhile_cons, List.dropWhile_cons, if_pos e, if_pos e, List.cons_append, ← ih h']
theorem free_take (c : UInt8) (l : Str) : c ∉ l.takeWhile (· != c) := by
  induction l with
  | nil => simp
  | cons x l ih =>
    rw [List.takeWhile_cons]
    by_cases h : x = c
    · simp [h]
    · rw [if_pos (by simp [h])]
      simp only [List.mem_cons, not_or]
      exact ⟨fun e => h e.symm, ih⟩
theorem pcs_list (c : UInt8) : ∀ (f : Nat) (s : ByteArray), s.size ≤ f → (pcs c f s).map (·.data.toList) = splitL c s.data.toList := by
  intro f
  induction f with
  | zero =>
    intro s hs
    have e : s.data.toList = [] := List.eq_nil_of_length_eq_zero (by show s.size = 0; omega)
    show [s.data.toList] = _
    rw [e]
    rfl
  | succ f ih =>
    intro s hs
    have hl : s.data.toList.length = s.size := rfl
    unfold pcs
    by_cases h : c ∈ s.data.toList
    · have hi := index_some c _ h
      have hlt := take_lt c _ h
      obtain ⟨e1, e2⟩ := take_len c s.data.toList
      have hk : ¬ Lib.indexByte s.data.toList c < 0 := by rw [hi]; omega
      have hn : (Lib.indexByte s.data.toList c).toNat = (s.data.toList.takeWhile (· != c)).length := by rw [hi]; rfl
      rw [if_neg hk, hn, List.map_cons, ih _ (by simp; omega), ext_to, Lib.extract_to_end, e1]
      conv => rhs; rw [cut_take h]
      rw [split_at (free_take c _), ← List.drop_drop, e2]
    · have hi := index_none c _ h
      rw [if_pos (by rw [hi]; decide), split_free h]
      rfl
theorem pieces_list (c : UInt8) (s : ByteArray) : (pieces c s).map (·.data.toList) = splitL c s.data.toList := pcs_list c _ s (Nat.le_refl _)

/-! ### Versions and their texts -/
theorem not_dig {c : UInt8} (h : dgB c = false) (n : Nat) : c ∉ Lib.decDigits n := fun hc => by
  rw [dec_dig n c hc] at h
  cases h
theorem dots_free {f : Nat → Int} (k : Nat) : 45 ∉ dotsL f k := by
  induction k with
  | zero => simp [dotsL]
  | succ k ih =>
    rw [dotsL]
    simp only [List.mem_append, not_or]
    refine ⟨⟨ih, ?_⟩, not_dig (by decide) _⟩
    split <;> decide
theorem split_dots (f : Nat → Int) (k : Nat) (h1 : 1 ≤ k) (h4 : k ≤ 4) : splitL 46 (dotsL f k) = (List.range k).map fun j => Lib.decDigits (f j).toNat := by
  have nd : ∀ n, (46 : UInt8) ∉ Lib.decDigits n := fun n => not_dig (by decide) n
  have e : ∀ a r : Str, a ++ [46] ++ r = a ++ 46 :: r := fun a r => by simp
  rcases (by omega : k = 1 ∨ k = 2 ∨ k = 3 ∨ k = 4) with rfl | rfl | rfl | rfl
  · simp [dotsL, split_free (nd _)]
  · simp [dotsL, split_at (nd _), split_free (nd _), List.range_succ]
  · simp [dotsL, split_at (nd _), split_free (nd _), List.range_succ]
  · simp [dotsL, split_at (nd _), split_free (nd _), List.range_succ]
theorem pieces_eq {c : UInt8} {s : ByteArray} {L : List Str} (h : splitL c s.data.toList = L) : pieces c s = L.map ofB := by
  have e := pieces_list c s
  rw [h] at e
  rw [← e, List.map_map]
  have : (ofB ∘ fun x : ByteArray => x.data.toList) = id := by
    funext x
    show (⟨x.data.toList.toArray⟩ : ByteArray) = x
    rfl
  rw [this, List.map_id]
theorem okP_dec (n : Nat) (h : n ≤ 9999) : okP (ofB (Lib.decDigits n)) = true ∧ valP (ofB (Lib.decDigits n)) = n := by
  unfold okP valP
  rw [show (ofB (Lib.decDigits n)).data.toList = Lib.decDigits n from rfl, numR_dec n _ h]
  exact ⟨rfl, rfl⟩
theorem cut_yes {a r : Str} (h : (45 : UInt8) ∉ a) : cutAt 45 (a ++ 45 :: r) = (a, r, true) := by
  unfold cutAt
  rw [if_pos (by simp)]
  have e : ∀ l : Str, (45 : UInt8) ∉ l → (l ++ 45 :: r).takeWhile (· != 45) = l ∧ (l ++ 45 :: r).dropWhile (· != 45) = 45 :: r := by
    intro l
    induction l with
    | nil => intro _; simp
    | cons x l ih =>
      intro hl
      simp only [List.mem_cons, not_or] at hl
      have hx : (x != 45) = true := by simp; exact fun e => hl.1 e.symm
      rw [List.cons_append, List.takeWhile_cons, List.dropWhile_cons, if_pos hx, if_pos hx, (ih hl.2).1]
      exact ⟨rfl, (ih hl.2).2⟩
  rw [(e a h).1, (e a h).2]
  rfl
theorem cut_no {a : Str} (h : (45 : UInt8) ∉ a) : cutAt 45 a = (a, [], false) := by
  unfold cutAt
  rw [if_neg h]
theorem low_split {t d : Str} (ht : t.all lowB = true) (hd : ∀ x ∈ d, lowB x = false) : (t ++ d).takeWhile lowB = t ∧ (t ++ d).dropWhile lowB = d := by
  induction t with
  | nil =>
    cases d with
    | nil => simp
    | cons x d => simp [hd x (by simp)]
  | cons x t ih =>
    rw [List.all_cons, Bool.and_eq_true] at ht
    rw [List.cons_append, List.takeWhile_cons, List.dropWhile_cons, if_pos ht.1, if_pos ht.1, (ih ht.2).1]
    exact ⟨rfl, (ih ht.2).2⟩
theorem dig_low {x : UInt8} (h : dgB x = true) : lowB x = false := by
  unfold dgB at h
  unfold lowB
  have := of_decide_eq_true h
  exact decide_eq_false (by omega)
theorem ok_num4 {v : Ver} (h : v.ok = true) (j : Nat) (hj : j < 4) : numB v.many j (v.num j) = true := by
  unfold Ver.ok Ver.numsB at h
  simp only [Bool.and_eq_true] at h
  obtain ⟨⟨_, ⟨⟨h0, h1⟩, h2⟩, h3⟩, _⟩ := h
  rcases (by omega : j = 0 ∨ j = 1 ∨ j = 2 ∨ j = 3) with rfl | rfl | rfl | rfl
  · exact h0
  · exact h1
  · exact h2
  · exact h3
theorem ok_rest {v : Ver} (h : v.ok = true) (j : Nat) (hj : j < 4) (hm : v.many ≤ j) : v.num j = 0 := by
  have := of_decide_eq_true (ok_num4 h j hj)
  omega
theorem num_at (v : Ver) : v.n0 = v.num 0 ∧ v.n1 = v.num 1 ∧ v.n2 = v.num 2 ∧ v.n3 = v.num 3 := ⟨rfl, rfl, rfl, rfl⟩
/-- The pieces of the first numbers' text. -/
theorem heads {v : Ver} (hv : v.ok = true) (k : Nat) (hk : v.many = (k : Int)) (s : ByteArray) (hs : (cutAt 45 s.data.toList).1 = dotsL v.num k) :
    readsP (headP s) = true ∧ ∀ tag step, verP (headP s) tag step = ⟨v.n0, v.n1, v.n2, v.n3, v.many, ofB tag, step⟩ := by
  obtain ⟨hm1, hm4⟩ := ok_many hv
  have hnum : ∀ j, j < k → 0 ≤ v.num j ∧ v.num j ≤ 9999 := fun j hj => ok_num hv (by omega)
  have hp : headP s = ((List.range k).map fun j => Lib.decDigits (v.num j).toNat).map ofB := by
    unfold headP
    rw [hs]
    exact pieces_eq (split_dots v.num k (by omega) (by omega))
  have hd : ∀ j, j < k → okP (ofB (Lib.decDigits (v.num j).toNat)) = true ∧ valP (ofB (Lib.decDigits (v.num j).toNat)) = (v.num j).toNat := fun j hj => okP_dec _ (by have := hnum j hj; omega)
  have hlen : (headP s).length = k := by rw [hp]; simp
  have hval : (headP s).map valP = (List.range k).map fun j => (v.num j).toNat := by
    rw [hp, List.map_map, List.map_map]
    apply List.map_congr_left
    intro j hj
    exact (hd j (List.mem_range.1 hj)).2
  have hslot : ∀ j, j < 4 → slotP (headP s) j = v.num j := fun j hj => by
    unfold slotP
    rw [hval]
    by_cases hjk : j < k
    · rw [List.getD_eq_getElem?_getD, List.getElem?_map, List.getElem?_range hjk]
      have := hnum j hjk
      show (((v.num j).toNat : Nat) : Int) = _
      omega
    · rw [List.getD_eq_getElem?_getD, List.getElem?_eq_none (by simp; omega)]
      rw [ok_rest hv j hj (by omega)]
      rfl
  refine ⟨?_, fun tag step => ?_⟩
  · unfold readsP
    rw [Bool.and_eq_true]
    refine ⟨?_, decide_eq_true (by omega)⟩
    rw [hp, List.all_map, List.all_map, List.all_eq_true]
    intro j hj
    exact (hd j (List.mem_range.1 hj)).1
  · unfold verP
    rw [hslot 0 (by omega), hslot 1 (by omega), hslot 2 (by omega), hslot 3 (by omega), hlen, ← hk]
    rfl
theorem tag_list (v : Ver) : ofB v.tag.data.toList = v.tag := rfl
/-- The text of a version is read as that version. -/
theorem read_text {v : Ver} (hv : v.ok = true) : readV (ofB v.text) = some v := by
  obtain ⟨hm1, hm4⟩ := ok_many hv
  obtain ⟨k, hk⟩ : ∃ k : Nat, v.many = (k : Int) := ⟨v.many.toNat, by omega⟩
  have hkn : v.many.toNat = k := by omega
  have ht : (ofB v.text).data.toList = v.text := rfl
  by_cases h0 : v.tag.data.toList = []
  · have hs := ok_step0 hv h0
    have e : v.text = dotsL v.num k := by unfold Ver.text; rw [hkn, if_pos h0, if_pos hs]; simp
    have hc : cutAt 45 (ofB v.text).data.toList = (dotsL v.num k, [], false) := by rw [ht, e, cut_no (dots_free k)]
    obtain ⟨q1, q2⟩ := heads hv k hk (ofB v.text) (by rw [hc])
    unfold readV
    rw [if_pos q1, if_neg (by rw [hc]; simp), q2]
    congr 1
    rw [ver_eq]
    refine ⟨⟨rfl, rfl, rfl, rfl⟩, rfl, ?_, hs.symm⟩
    show ofB [] = v.tag
    rw [← h0]
    rfl
  · obtain ⟨s0, s9⟩ := ok_stepb hv h0
    have hend := ok_end hv
    unfold Ver.endB at hend
    rw [if_neg h0, Bool.and_eq_true] at hend
    obtain ⟨htag, _⟩ := hend
    have htag' := htag
    unfold tagB at htag'
    rw [Bool.and_eq_true] at htag'
    obtain ⟨_, hall⟩ := htag'
    obtain ⟨d, hd⟩ : ∃ d : Str, d = (if v.step = 0 then [] else Lib.decDigits v.step.toNat) := ⟨_, rfl⟩
    have e : v.text = dotsL v.num k ++ 45 :: (v.tag.data.toList ++ d) := by unfold Ver.text; rw [hkn, if_neg h0, ← hd]; simp
    have hc : cutAt 45 (ofB v.text).data.toList = (dotsL v.num k, v.tag.data.toList ++ d, true) := by rw [ht, e, cut_yes (dots_free k)]
    obtain ⟨q1, q2⟩ := heads hv k hk (ofB v.text) (by rw [hc])
    have hdl : ∀ x ∈ d, lowB x = false := fun x hx => by
      rw [hd] at hx
      split at hx
      · simp at hx
      · exact dig_low (dec_dig _ x hx)
    obtain ⟨l1, l2⟩ := low_split hall hdl
    have hg : tagR (v.tag.data.toList ++ d) = (v.tag.data.toList, v.step.toNat, true) := by
      unfold tagR
      rw [l1, l2, if_pos htag]
      by_cases hz : v.step = 0
      · rw [hd, if_pos hz, if_pos rfl, hz]
        rfl
      · have hdd : d = Lib.decDigits v.step.toNat := by rw [hd, if_neg hz]
        rw [if_neg (by rw [hdd]; exact dec_ne _), hdd, numR_dec _ 999 (by omega)]
        have : v.step.toNat ≠ 0 := by omega
        simp [this]
    unfold readV
    rw [if_pos q1, if_pos (by rw [hc]), hc]
    dsimp only
    rw [hg, if_pos rfl, q2]
    congr 1
    rw [ver_eq]
    refine ⟨⟨rfl, rfl, rfl, rfl⟩, rfl, rfl, ?_⟩
    show ((v.step.toNat : Nat) : Int) = v.step
    omega
theorem ofB_eq {s : ByteArray} {l : Str} (h : s.data.toList = l) : s = ofB l := by subst h; rfl
/-- What is read of pieces that are numbers: they are the digits of these, and these may be. -/
theorem pieces_read {ps : List ByteArray} (h : readsP ps = true) : (∀ p ∈ ps, p.data.toList = Lib.decDigits (valP p) ∧ valP p ≤ 9999) ∧ ps.length ≤ 4 := by
  unfold readsP at h
  rw [Bool.and_eq_true] at h
  refine ⟨fun p hp => ?_, of_decide_eq_true h.2⟩
  have := List.all_eq_true.1 h.1 p hp
  unfold okP at this
  exact dec_read this
theorem dots_join : ∀ (ps : List ByteArray), ps.length ≤ 4 → (∀ p ∈ ps, p.data.toList = Lib.decDigits (valP p)) → dotsL (slotP ps) ps.length = joinL 46 (ps.map (·.data.toList))
  | [], _, _ => rfl
  | [a], _, h => by
    simp [dotsL, joinL, slotP, h a (by simp)]
  | [a, b], _, h => by
    simp [dotsL, joinL, slotP, h a (by simp), h b (by simp)]
  | [a, b, c], _, h => by
    simp [dotsL, joinL, slotP, h a (by simp), h b (by simp), h c (by simp)]
  | [a, b, c, d], _, h => by
    simp [dotsL, joinL, slotP, h a (by simp), h b (by simp), h c (by simp), h d (by simp)]
  | a :: b :: c :: d :: e :: r, hl, _ => by simp at hl <;> omega
theorem dots_congr {f g : Nat → Int} (k : Nat) (h : ∀ j, j < k → f j = g j) : dotsL f k = dotsL g k := by
  induction k with
  | zero => rfl
  | succ k ih => rw [dotsL, dotsL, ih (fun j hj => h j (by omega)), h k (by omega)]
theorem verP_num (ps : List ByteArray) (tag : Str) (step : Int) (j : Nat) (hj : j < 4) : (verP ps tag step).num j = slotP ps j := by
  rcases (by omega : j = 0 ∨ j = 1 ∨ j = 2 ∨ j = 3) with rfl | rfl | rfl | rfl <;> rfl
theorem slot_rng {ps : List ByteArray} (h : readsP ps = true) (j : Nat) : 0 ≤ slotP ps j ∧ slotP ps j ≤ 9999 ∧ ((j : Int) < (ps.length : Int) ∨ slotP ps j = 0) := by
  obtain ⟨h1, h2⟩ := pieces_read h
  unfold slotP
  by_cases hj : j < ps.length
  · rw [List.getD_eq_getElem?_getD, List.getElem?_map, List.getElem?_eq_getElem hj]
    have := (h1 _ (List.getElem_mem hj)).2
    show 0 ≤ ((valP ps[j] : Nat) : Int) ∧ _
    exact ⟨Int.natCast_nonneg _, by show ((valP ps[j] : Nat) : Int) ≤ 9999; omega, .inl (by omega)⟩
  · rw [List.getD_eq_getElem?_getD, List.getElem?_eq_none (by simp; omega)]
    exact ⟨by decide, by decide, .inr rfl⟩
theorem head_ne (s : ByteArray) : 1 ≤ (headP s).length := by
  have e := pieces_list 46 (ofB (cutAt 45 s.data.toList).1)
  have := congrArg List.length e
  rw [List.length_map] at this
  unfold headP
  rw [this]
  exact List.length_pos_iff.2 (split_ne 46 _)
/-- A version that was read may be, and the text is its text. -/
theorem text_read {s : ByteArray} {v : Ver} (h : readV s = some v) : v.ok = true ∧ v.text = s.data.toList := by
  unfold readV at h
  by_cases hr : readsP (headP s) = true
  rotate_left
  · rw [if_neg hr] at h
    cases h
  rw [if_pos hr] at h
  obtain ⟨p1, p2⟩ := pieces_read hr
  have hne := head_ne s
  have hnums : ∀ tag step, (verP (headP s) tag step).numsB = true := fun tag step => nums_yes _ fun j hj => by
    rw [verP_num _ _ _ _ hj]
    obtain ⟨a, b, c⟩ := slot_rng hr j
    exact decide_eq_true ⟨a, b, c⟩
  have hdots : ∀ tag step, dotsL (verP (headP s) tag step).num (headP s).length = (cutAt 45 s.data.toList).1 := fun tag step => by
    rw [dots_congr (g := slotP (headP s)) _ (fun j hj => verP_num _ _ _ j (by omega)), dots_join _ p2 (fun p hp => (p1 p hp).1)]
    unfold headP
    rw [pieces_list]
    exact join_split 46 _
  have hmany : ∀ tag step, (verP (headP s) tag step).many.toNat = (headP s).length := fun tag step => rfl
  by_cases ht : (cutAt 45 s.data.toList).2.2 = true
  · rw [if_pos ht] at h
    by_cases hg : (tagR (cutAt 45 s.data.toList).2.1).2.2 = true
    rotate_left
    · rw [if_neg hg] at h
      cases h
    rw [if_pos hg] at h
    obtain rfl := Option.some.inj h
    have hc : 45 ∈ s.data.toList := by
      rcases Classical.em ((45 : UInt8) ∈ s.data.toList) with hc | hc
      · exact hc
      · rw [cut_no hc] at ht; cases ht
    have hcut : cutAt 45 s.data.toList = (s.data.toList.takeWhile (· != 45), (s.data.toList.dropWhile (· != 45)).drop 1, true) := by unfold cutAt; rw [if_pos hc]
    obtain ⟨b, hb⟩ : ∃ b, b = (cutAt 45 s.data.toList).2.1 := ⟨_, rfl⟩
    have hall : s.data.toList = (cutAt 45 s.data.toList).1 ++ 45 :: b := by
      rw [hb, hcut]
      exact cut_take hc
    rw [← hb] at hg ⊢
    -- the tag, and the step's digits
    obtain ⟨tg, dg, htg, hdg⟩ : ∃ tg dg, tg = b.takeWhile lowB ∧ dg = b.dropWhile lowB := ⟨_, _, rfl, rfl⟩
    have hbb : b = tg ++ dg := by rw [htg, hdg, List.takeWhile_append_dropWhile]
    unfold tagR at hg ⊢
    rw [← htg, ← hdg] at hg ⊢
    by_cases htb : tagB tg = true
    rotate_left
    · rw [if_neg htb] at hg
      cases hg
    rw [if_pos htb] at hg ⊢
    have htn : tg ≠ [] := by
      intro e
      rw [e] at htb
      simp [tagB] at htb
    by_cases hd0 : dg = []
    · rw [if_pos hd0]
      refine ⟨?_, ?_⟩
      · unfold Ver.ok
        rw [hnums]
        unfold Ver.endB
        have e1 : (verP (headP s) tg ((0 : Nat) : Int)).tag.data.toList = tg := rfl
        rw [e1, if_neg htn, htb, decide_eq_true (show 1 ≤ (verP (headP s) tg ((0 : Nat) : Int)).many ∧ (verP (headP s) tg ((0 : Nat) : Int)).many ≤ 4 from ⟨by show (1 : Int) ≤ ((headP s).length : Int); omega, by show ((headP s).length : Int) ≤ 4; omega⟩)]
        rfl
      · unfold Ver.text
        have e1 : (verP (headP s) tg ((0 : Nat) : Int)).tag.data.toList = tg := rfl
        rw [hmany, hdots, e1, if_neg htn, if_pos (show (verP (headP s) tg ((0 : Nat) : Int)).step = 0 from rfl)]
        conv => rhs; rw [hall, hbb, hd0]
        simp
    · rw [if_neg hd0] at hg ⊢
      dsimp only at hg ⊢
      rw [Bool.and_eq_true] at hg
      obtain ⟨g1, g2⟩ := hg
      obtain ⟨e1, e2⟩ := dec_read g1
      have e3 := of_decide_eq_true g2
      generalize (numR dg 999).1 = n at e1 e2 e3
      have et : (verP (headP s) tg (n : Int)).tag.data.toList = tg := rfl
      have es : (verP (headP s) tg (n : Int)).step = (n : Int) := rfl
      refine ⟨?_, ?_⟩
      · unfold Ver.ok
        rw [hnums]
        unfold Ver.endB
        rw [et, if_neg htn, htb, es, decide_eq_true (show 1 ≤ (verP (headP s) tg (n : Int)).many ∧ (verP (headP s) tg (n : Int)).many ≤ 4 from ⟨by show (1 : Int) ≤ ((headP s).length : Int); omega, by show ((headP s).length : Int) ≤ 4; omega⟩)]
        simp
        omega
      · unfold Ver.text
        rw [hmany, hdots, et, if_neg htn, es, if_neg (by omega)]
        conv => rhs; rw [hall, hbb, e1]
        simp
  · rw [if_neg ht] at h
    obtain rfl := Option.some.inj h
    have hc : (45 : UInt8) ∉ s.data.toList := fun hc => ht (by unfold cutAt; rw [if_pos hc])
    refine ⟨?_, ?_⟩
    · unfold Ver.ok
      rw [hnums, decide_eq_true (show 1 ≤ (verP (headP s) [] 0).many ∧ (verP (headP s) [] 0).many ≤ 4 from ⟨by show (1 : Int) ≤ ((headP s).length : Int); omega, by show ((headP s).length : Int) ≤ 4; omega⟩)]
      rfl
    · unfold Ver.text
      rw [hmany, hdots, if_pos (show (verP (headP s) [] 0).tag.data.toList = [] from rfl), if_pos (show (verP (headP s) [] 0).step = 0 from rfl), cut_no hc]
      simp
end Go.Proofs.YtlfehjjnepiljaaGreatDoor

namespace Go.Proofs.YtlfehjjnepiljaaGreatDoor
open Go.RowKit

/-- A bound as it goes by value. -/
structure Bd where
  kind : Int
  ver : Ver
deriving DecidableEq
def Bd.zero : Bd := ⟨0, Ver.zero⟩
def Bd.cells (b : Bd) : List Value := .int .i64 b.kind :: b.ver.cells
def Bd.arr (b : Bd) : Array Value := #[.int .i64 b.kind, .int .i64 b.ver.n0, .int .i64 b.ver.n1, .int .i64 b.ver.n2, .int .i64 b.ver.n3, .int .i64 b.ver.many, .string b.ver.tag, .int .i64 b.ver.step]
def Bd.ok (b : Bd) : Bool := decide (1 ≤ b.kind ∧ b.kind ≤ 7) && b.ver.ok && (decide (b.kind ≠ 7) || decide (b.ver.tag.data.toList = []))
def aheadL (k : Int) : Str := if k = 1 then [61] else if k = 2 then [33, 61] else if k = 3 then [62, 61] else if k = 4 then [62] else if k = 5 then [60, 61] else if k = 6 then [60] else []
def behindL (k : Int) : Str := if k = 7 then [46, 42] else []
def Bd.text (b : Bd) : Str := aheadL b.kind ++ b.ver.text ++ behindL b.kind
def rowT (l : List Bd) : Str := if l = [] then [42] else joinL 44 (l.map Bd.text)
def joinD : List Str → Str
  | [] => []
  | [a] => a
  | a :: b :: r => a ++ 124 :: 124 :: joinD (b :: r)
def spanT (rows : List (List Bd)) : Str := joinD (rows.map rowT)
def rowOk (l : List Bd) : Bool := decide (l.length ≤ 4) && l.all Bd.ok
def spanOk (rows : List (List Bd)) : Bool := decide (1 ≤ rows.length ∧ rows.length ≤ 4) && rows.all rowOk

theorem bd_ok {b : Bd} (h : b.ok = true) : (1 ≤ b.kind ∧ b.kind ≤ 7) ∧ b.ver.ok = true ∧ (b.kind = 7 → b.ver.tag.data.toList = []) := by
  unfold Bd.ok at h
  simp only [Bool.and_eq_true, Bool.or_eq_true, decide_eq_true_eq] at h
  exact ⟨h.1.1, h.1.2, fun e => h.2.resolve_left (fun n => n e)⟩

/-! ### What stands in a version's text -/
theorem dots_head (f : Nat → Int) (k : Nat) (hk : 1 ≤ k) : ∃ c r, dotsL f k = c :: r ∧ dgB c = true := by
  induction k with
  | zero => omega
  | succ k ih =>
    by_cases h0 : k = 0
    · subst h0
      have hne := dec_ne (f 0).toNat
      have hd := dec_dig (f 0).toNat
      cases hl : Lib.decDigits (f 0).toNat with
      | nil => exact absurd hl hne
      | cons c r => exact ⟨c, r, by simp [dotsL, hl], hd c (by rw [hl]; simp)⟩
    · obtain ⟨c, r, e, hc⟩ := ih (by omega)
      exact ⟨c, r ++ (if k = 0 then [] else [46]) ++ Lib.decDigits (f k).toNat, by rw [dotsL, e]; simp, hc⟩
theorem many_ok4 {v : Ver} (h : v.ok = true) : 1 ≤ v.many.toNat ∧ v.many.toNat ≤ 4 := by
  unfold Ver.ok at h
  simp only [Bool.and_eq_true, decide_eq_true_eq] at h
  omega
theorem text_head {v : Ver} (h : v.ok = true) : ∃ c r, v.text = c :: r ∧ dgB c = true := by
  obtain ⟨c, r, e, hc⟩ := dots_head v.num v.many.toNat (many_ok4 h).1
  exact ⟨c, _, by unfold Ver.text; rw [e]; rfl, hc⟩
theorem dots_mem (f : Nat → Int) (k : Nat) : ∀ c ∈ dotsL f k, dgB c = true ∨ c = 46 := by
  induction k with
  | zero => simp [dotsL]
  | succ k ih =>
    intro c hc
    rw [dotsL] at hc
    rcases List.mem_append.1 hc with hc | hc
    · rcases List.mem_append.1 hc with hc | hc
      · exact ih c hc
      · split at hc
        · cases hc
        · exact .inr (by simpa using hc)
    · exact .inl (dec_dig _ c hc)
theorem text_mem {v : Ver} (h : v.ok = true) : ∀ c ∈ v.text, dgB c = true ∨ c = 46 ∨ c = 45 ∨ lowB c = true := by
  intro c hc
  unfold Ver.text at hc
  rcases List.mem_append.1 hc with hc | hc
  · rcases List.mem_append.1 hc with hc | hc
    · rcases dots_mem _ _ c hc with h | h
      · exact .inl h
      · exact .inr (.inl h)
    · split at hc
      · cases hc
      · rename_i ht
        rcases List.mem_cons.1 hc with hc | hc
        · exact .inr (.inr (.inl hc))
        · have e := ok_end h
          unfold Ver.endB at e
          rw [if_neg ht] at e
          simp only [Bool.and_eq_true] at e
          have := e.1
          unfold tagB at this
          simp only [Bool.and_eq_true] at this
          exact .inr (.inr (.inr (List.all_eq_true.1 this.2 c hc)))
  · split at hc
    · cases hc
    · exact .inl (dec_dig _ c hc)
theorem text_free {v : Ver} (h : v.ok = true) (c : UInt8) (h1 : dgB c = false) (h2 : c ≠ 46) (h3 : c ≠ 45) (h4 : lowB c = false) : c ∉ v.text := fun hc => by
  rcases text_mem h c hc with e | e | e | e
  · rw [h1] at e; cases e
  · exact h2 e
  · exact h3 e
  · rw [h4] at e; cases e
theorem bd_mem {b : Bd} (h : b.ok = true) (c : UInt8) (h1 : dgB c = false) (h2 : c ≠ 46) (h3 : c ≠ 45) (h4 : lowB c = false) (h5 : c ∉ aheadL b.kind) (h6 : c ≠ 42) : c ∉ b.text := fun hc => by
  unfold Bd.text at hc
  rcases List.mem_append.1 hc with hc | hc
  · rcases List.mem_append.1 hc with hc | hc
    · exact h5 hc
    · exact text_free (bd_ok h).2.1 c h1 h2 h3 h4 hc
  · unfold behindL at hc
    split at hc
    · simp at hc
      rcases hc with hc | hc
      · exact h2 hc
      · exact h6 hc
    · cases hc
theorem ahead_mem (k : Int) : ∀ c ∈ aheadL k, c = 61 ∨ c = 33 ∨ c = 62 ∨ c = 60 := by
  intro c hc
  unfold aheadL at hc
  repeat' (split at hc)
  all_goals (simp at hc; try omega)
  all_goals (first | exact Or.inl hc | (rcases hc with rfl | rfl <;> simp) | (subst hc; simp))
theorem bd_free44 {b : Bd} (h : b.ok = true) : (44 : UInt8) ∉ b.text := bd_mem h 44 (by decide) (by decide) (by decide) (by decide) (fun hc => by rcases ahead_mem _ _ hc with h | h | h | h <;> revert h <;> decide) (by decide)
theorem bd_free124 {b : Bd} (h : b.ok = true) : (124 : UInt8) ∉ b.text := bd_mem h 124 (by decide) (by decide) (by decide) (by decide) (fun hc => by rcases ahead_mem _ _ hc with h | h | h | h <;> revert h <;> decide) (by decide)
theorem ahead_take {v : Ver} (h : v.ok = true) (k : Int) (r : Str) : (aheadL k ++ v.text ++ r).takeWhile (fun c => !dgB c) = aheadL k := by
  obtain ⟨c, t, e, hc⟩ := text_head h
  have hall : ∀ x ∈ aheadL k, (!dgB x) = true := fun x hx => by
    rcases ahead_mem _ _ hx with rfl | rfl | rfl | rfl <;> decide
  rw [e, List.append_assoc, List.cons_append]
  generalize aheadL k = l at hall
  induction l with
  | nil => simp [hc]
  | cons x l ih =>
    rw [List.cons_append, List.takeWhile_cons, if_pos (hall x (by simp)), ih (fun y hy => hall y (by simp [hy]))]
theorem ahead_inj {j k : Int} (hj : 1 ≤ j ∧ j ≤ 7) (hk : 1 ≤ k ∧ k ≤ 7) (h : aheadL j = aheadL k) : j = k := by
  rcases (by omega : j = 1 ∨ j = 2 ∨ j = 3 ∨ j = 4 ∨ j = 5 ∨ j = 6 ∨ j = 7) with rfl | rfl | rfl | rfl | rfl | rfl | rfl <;>
  rcases (by omega : k = 1 ∨ k = 2 ∨ k = 3 ∨ k = 4 ∨ k = 5 ∨ k = 6 ∨ k = 7) with rfl | rfl | rfl | rfl | rfl | rfl | rfl <;> first | rfl | (revert h; decide)
theorem text_inj {v u : Ver} (hv : v.ok = true) (hu : u.ok = true) (h : v.text = u.text) : v = u := by
  have e1 := read_text hv
  have e2 := read_text hu
  rw [h, e2] at e1
  exact (Option.some.inj e1).symm
/-- A text is that of no two bounds. -/
theorem bd_inj {a b : Bd} (ha : a.ok = true) (hb : b.ok = true) (h : a.text = b.text) : a = b := by
  obtain ⟨a1, a2, _⟩ := bd_ok ha
  obtain ⟨b1, b2, _⟩ := bd_ok hb
  have e1 := ahead_take a2 a.kind (behindL a.kind)
  have e2 := ahead_take b2 b.kind (behindL b.kind)
  unfold Bd.text at h
  have hk : a.kind = b.kind := ahead_inj a1 b1 (by rw [← e1, ← e2, h])
  rw [hk] at h
  have h3 := List.append_cancel_right h
  have h4 := List.append_cancel_left h3
  cases a
  cases b
  simp only at hk h4 a2 b2
  rw [hk, text_inj a2 b2 h4]
theorem bd_text_ne {b : Bd} (h : b.ok = true) : b.text ≠ [] ∧ b.text ≠ [42] := by
  obtain ⟨c, t, e, hc⟩ := text_head (bd_ok h).2.1
  have hm : c ∈ b.text := by unfold Bd.text; rw [e]; simp
  refine ⟨fun h0 => (by rw [h0] at hm; exact absurd hm (by simp)), fun h0 => ?_⟩
  rw [h0] at hm
  have := List.mem_singleton.1 hm
  subst this
  revert hc
  decide

/-! ### Rows -/
theorem split_join {c : UInt8} : ∀ (L : List Str), L ≠ [] → (∀ x ∈ L, c ∉ x) → splitL c (joinL c L) = L
  | [], h, _ => absurd rfl h
  | [a], _, h => split_free (h a (by simp))
  | a :: b :: r, _, h => by
    rw [joinL, split_at (h a (by simp)), split_join (b :: r) (by simp) (fun x hx => h x (by simp [hx]))]
theorem rowT_ne {l : List Bd} (h : l ≠ []) : rowT l = joinL 44 (l.map Bd.text) := if_neg h
theorem rowT_star {l : List Bd} (h : ∀ b ∈ l, b.ok = true) (hs : rowT l = [42]) : l = [] := by
  cases l with
  | nil => rfl
  | cons b l =>
    exfalso
    rw [rowT_ne (by simp)] at hs
    have hb := h b (by simp)
    cases l with
    | nil => exact (bd_text_ne hb).2 (by simpa [joinL] using hs)
    | cons d l =>
      obtain ⟨c, t, e⟩ : ∃ c t, b.text = c :: t := by
        cases he : b.text with
        | nil => exact absurd he (bd_text_ne hb).1
        | cons c t => exact ⟨c, t, rfl⟩
      simp [joinL, e] at hs
theorem map_inj {l m : List Bd} (hl : ∀ b ∈ l, b.ok = true) (hm : ∀ b ∈ m, b.ok = true) (h : l.map Bd.text = m.map Bd.text) : l = m := by
  induction l generalizing m with
  | nil => cases m with
    | nil => rfl
    | cons b m => simp at h
  | cons a l ih =>
    cases m with
    | nil => simp at h
    | cons b m =>
      simp only [List.map_cons, List.cons.injEq] at h
      rw [bd_inj (hl a (by simp)) (hm b (by simp)) h.1, ih (fun x hx => hl x (by simp [hx])) (fun x hx => hm x (by simp [hx])) h.2]
theorem row_inj {l m : List Bd} (hl : ∀ b ∈ l, b.ok = true) (hm : ∀ b ∈ m, b.ok = true) (h : rowT l = rowT m) : l = m := by
  by_cases h1 : l = []
  · subst h1
    exact (rowT_star hm h.symm).symm
  · by_cases h2 : m = []
    · subst h2
      exact rowT_star hl h
    · rw [rowT_ne h1, rowT_ne h2] at h
      refine map_inj hl hm ?_
      rw [← split_join (c := 44) (l.map Bd.text) (by simpa using h1) (fun x hx => by obtain ⟨b, hb, rfl⟩ := List.mem_map.1 hx; exact bd_free44 (hl b hb)), h,
        split_join (c := 44) (m.map Bd.text) (by simpa using h2) (fun x hx => by obtain ⟨b, hb, rfl⟩ := List.mem_map.1 hx; exact bd_free44 (hm b hb))]
theorem join_mem {c x : UInt8} : ∀ {L : List Str}, x ∈ joinL c L → x = c ∨ ∃ s ∈ L, x ∈ s
  | [], h => by cases h
  | [a], h => .inr ⟨a, by simp, h⟩
  | a :: b :: r, h => by
    rw [joinL] at h
    rcases List.mem_append.1 h with h | h
    · exact .inr ⟨a, by simp, h⟩
    · rcases List.mem_cons.1 h with h | h
      · exact .inl h
      · rcases join_mem h with h | ⟨s, hs, hx⟩
        · exact .inl h
        · exact .inr ⟨s, by simp [hs], hx⟩
theorem row_free {l : List Bd} (h : ∀ b ∈ l, b.ok = true) : (124 : UInt8) ∉ rowT l := fun hc => by
  unfold rowT at hc
  split at hc
  · simp at hc
  · rcases join_mem hc with h1 | ⟨s, hs, hx⟩
    · revert h1; decide
    · obtain ⟨b, hb, rfl⟩ := List.mem_map.1 hs
      exact bd_free124 (h b hb) hx

/-! ### Spans -/
def splitD : Str → List Str
  | [] => [[]]
  | 124 :: 124 :: r => [] :: splitD r
  | x :: r => match splitD r with
    | [] => [[x]]
    | h :: t => (x :: h) :: t
theorem splitD_ne (l : Str) : splitD l ≠ [] := by
  fun_cases splitD l <;> simp_all
theorem splitD_free {l : Str} (h : (124 : UInt8) ∉ l) : splitD l = [l] := by
  induction l with
  | nil => rfl
  | cons x r ih =>
    simp only [List.mem_cons, not_or] at h
    rw [splitD, ih h.2]
    intro r' hx
    exact absurd hx.symm h.1
theorem splitD_at {a r : Str} (h : (124 : UInt8) ∉ a) : splitD (a ++ 124 :: 124 :: r) = a :: splitD r := by
  induction a with
  | nil => simp [splitD]
  | cons x a ih =>
    simp only [List.mem_cons, not_or] at h
    rw [List.cons_append, splitD, ih h.2]
    intro r' hx
    exact absurd hx.symm h.1
theorem joinD_split (l : Str) : joinD (splitD l) = l := by
  fun_induction splitD l with
  | case1 => rfl
  | case2 r ih =>
    cases hs : splitD r with
    | nil => exact absurd hs (splitD_ne r)
    | cons a t => rw [hs] at ih; rw [joinD, ih]; rfl
  | case3 x r _ hs ih => exact absurd hs (splitD_ne r)
  | case4 x r _ h t hs ih =>
    rw [hs] at ih
    cases t with
    | nil => simpa [joinD] using congrArg (x :: ·) ih
    | cons b t => simpa [joinD] using congrArg (x :: ·) ih
theorem splitD_join : ∀ (L : List Str), L ≠ [] → (∀ x ∈ L, (124 : UInt8) ∉ x) → splitD (joinD L) = L
  | [], h, _ => absurd rfl h
  | [a], _, h => splitD_free (h a (by simp))
  | a :: b :: r, _, h => by
    rw [joinD, splitD_at (h a (by simp)), splitD_join (b :: r) (by simp) (fun x hx => h x (by simp [hx]))]
theorem row_ok {l : List Bd} (h : rowOk l = true) : l.length ≤ 4 ∧ ∀ b ∈ l, b.ok = true := by
  unfold rowOk at h
  simp only [Bool.and_eq_true, decide_eq_true_eq] at h
  exact ⟨h.1, List.all_eq_true.1 h.2⟩
theorem span_ok {r : List (List Bd)} (h : spanOk r = true) : (1 ≤ r.length ∧ r.length ≤ 4) ∧ ∀ l ∈ r, rowOk l = true := by
  unfold spanOk at h
  simp only [Bool.and_eq_true, decide_eq_true_eq] at h
  exact ⟨h.1, List.all_eq_true.1 h.2⟩
theorem rows_inj {r q : List (List Bd)} (hr : ∀ l ∈ r, rowOk l = true) (hq : ∀ l ∈ q, rowOk l = true) (h : r.map rowT = q.map rowT) : r = q := by
  induction r generalizing q with
  | nil => cases q with
    | nil => rfl
    | cons b m => simp at h
  | cons a l ih =>
    cases q with
    | nil => simp at h
    | cons b m =>
      simp only [List.map_cons, List.cons.injEq] at h
      rw [row_inj (row_ok (hr a (by simp))).2 (row_ok (hq b (by simp))).2 h.1, ih (fun x hx => hr x (by simp [hx])) (fun x hx => hq x (by simp [hx])) h.2]
theorem span_split {r : List (List Bd)} (h : spanOk r = true) : splitD (spanT r) = r.map rowT :=
  splitD_join _ (by have := (span_ok h).1; intro e; rw [List.map_eq_nil_iff] at e; subst e; simp at this) (fun x hx => by
    obtain ⟨l, hl, rfl⟩ := List.mem_map.1 hx
    exact row_free (row_ok ((span_ok h).2 l hl)).2)
/-- A text is that of no two spans. -/
theorem span_inj {r q : List (List Bd)} (hr : spanOk r = true) (hq : spanOk q = true) (h : spanT r = spanT q) : r = q :=
  rows_inj (span_ok hr).2 (span_ok hq).2 (by rw [← span_split hr, ← span_split hq, h])
end Go.Proofs.YtlfehjjnepiljaaGreatDoor

namespace Go.Proofs.YtlfehjjnepiljaaGreatDoor
open Go.RowKit

def bars : Str := [124, 124]
theorem occ_head {l : Str} (h : Lib.occAt l bars 0 = true) : ∃ r, l = 124 :: 124 :: r := by
  unfold Lib.occAt bars at h
  rw [List.drop_zero, List.isPrefixOf_iff_prefix] at h
  obtain ⟨r, hr⟩ := h
  exact ⟨r, hr.symm⟩
theorem occ_tail (x : UInt8) (l : Str) (j : Nat) : Lib.occAt (x :: l) bars (j + 1) = Lib.occAt l bars j := rfl
theorem splitD_cons {x : UInt8} {l : Str} (h : Lib.occAt (x :: l) bars 0 = false) {a : Str} {t : List Str} (hs : splitD l = a :: t) : splitD (x :: l) = (x :: a) :: t := by
  rw [splitD, hs]
  intro r h1 h2
  subst h1 h2
  revert h
  simp [Lib.occAt, bars]
theorem splitD_occ : ∀ (i : Nat) (l : Str), Lib.occAt l bars i = true → (∀ j, j < i → Lib.occAt l bars j = false) → splitD l = l.take i :: splitD (l.drop (i + 2))
  | 0, l, h, _ => by
    obtain ⟨r, rfl⟩ := occ_head h
    simp [splitD]
  | i + 1, [], h, _ => by simp [Lib.occAt, bars] at h
  | i + 1, x :: l, h, hn => by
    have ih := splitD_occ i l (by rw [← occ_tail x]; exact h) (fun j hj => by rw [← occ_tail x]; exact hn (j + 1) (by omega))
    rw [splitD_cons (hn 0 (by omega)) ih]
    rfl
theorem splitD_none : ∀ (l : Str), (∀ j, j ≤ l.length → Lib.occAt l bars j = false) → splitD l = [l]
  | [], _ => rfl
  | x :: l, h => splitD_cons (h 0 (by omega)) (splitD_none l (fun j hj => by rw [← occ_tail x]; exact h (j + 1) (by simpa using hj)))

/-- The pieces of a text, cut at "||". -/
def pcsD : Nat → ByteArray → List ByteArray
  | 0, s => [s]
  | f + 1, s => if Lib.index s.data.toList bars < 0 then [s] else s.extract 0 (Lib.index s.data.toList bars).toNat :: pcsD f (s.extract ((Lib.index s.data.toList bars).toNat + 2) s.size)
def piecesD (s : ByteArray) : List ByteArray := pcsD s.size s
theorem indexD_in (l : Str) : Lib.index l bars = -1 ∨ ∃ k : Nat, Lib.index l bars = (k : Int) ∧ k + 2 ≤ l.length := by
  rcases Lib.index_spec l bars with ⟨h, _⟩ | ⟨i, h, _⟩
  · exact .inl h
  · refine .inr ⟨i, h, ?_⟩
    have := Lib.index_room l bars (by omega)
    rw [h] at this
    have e : bars.length = 2 := rfl
    omega
theorem pcsD_list : ∀ (f : Nat) (s : ByteArray), s.size ≤ f → (pcsD f s).map (·.data.toList) = splitD s.data.toList := by
  intro f
  induction f with
  | zero =>
    intro s hs
    have e : s.data.toList = [] := List.eq_nil_of_length_eq_zero (by show s.size = 0; omega)
    show [s.data.toList] = _
    rw [e]
    rfl
  | succ f ih =>
    intro s hs
    have hl : s.data.toList.length = s.size := rfl
    unfold pcsD
    rcases Lib.index_spec s.data.toList bars with ⟨h, hn⟩ | ⟨i, h, _, ho, hn⟩
    · rw [if_pos (by rw [h]; decide), splitD_none _ hn]
      rfl
    · have hr := Lib.index_room s.data.toList bars (by omega)
      rw [h] at hr
      have e2 : bars.length = 2 := rfl
      rw [if_neg (by omega), h, List.map_cons, ih _ (by simp; omega), Int.toNat_natCast, ext_to, Lib.extract_to_end, splitD_occ i _ ho hn]
theorem piecesD_list (s : ByteArray) : (piecesD s).map (·.data.toList) = splitD s.data.toList := pcsD_list _ s (Nat.le_refl _)

/-! ### What a row is read to -/
/-- These bounds are those of the texts. -/
def RowIs (l : List Bd) (ps : List ByteArray) : Prop := (∀ b ∈ l, b.ok = true) ∧ l.map Bd.text = ps.map (·.data.toList)
theorem RowIs.nil : RowIs [] [] := ⟨by simp, rfl⟩
theorem RowIs.snoc {l : List Bd} {ps : List ByteArray} {b : Bd} {x : ByteArray} (h : RowIs l ps) (hb : b.ok = true) (ht : b.text = x.data.toList) : RowIs (l ++ [b]) (ps ++ [x]) :=
  ⟨fun y hy => by rcases List.mem_append.1 hy with hy | hy; exact h.1 y hy; rw [List.mem_singleton.1 hy]; exact hb, by rw [List.map_append, List.map_append, h.2]; simp [ht]⟩
theorem RowIs.len {l : List Bd} {ps : List ByteArray} (h : RowIs l ps) : l.length = ps.length := by
  have := congrArg List.length h.2
  simpa using this
theorem row_done {s : ByteArray} {l : List Bd} (h : RowIs l (pieces 44 s)) (h4 : l.length ≤ 4) : rowOk l = true ∧ rowT l = s.data.toList := by
  have hne : l ≠ [] := fun e => by
    have h1 := h.len
    subst e
    have h2 := pieces_list 44 s
    have h3 : (pieces 44 s) = [] := List.eq_nil_of_length_eq_zero h1.symm
    rw [h3] at h2
    exact split_ne 44 _ h2.symm
  refine ⟨by unfold rowOk; rw [decide_eq_true h4, List.all_eq_true.2 h.1]; rfl, ?_⟩
  rw [rowT_ne hne, h.2, pieces_list, join_split]
theorem row_pieces {s : ByteArray} {m : List Bd} (hs : s.data.toList ≠ [42]) (hm : rowOk m = true) (ht : rowT m = s.data.toList) : m.map Bd.text = (pieces 44 s).map (·.data.toList) := by
  have hne : m ≠ [] := fun e => by subst e; exact hs ht.symm
  rw [pieces_list, ← ht, rowT_ne hne, split_join _ (by simpa using hne) (fun x hx => by
    obtain ⟨b, hb, rfl⟩ := List.mem_map.1 hx
    exact bd_free44 ((row_ok hm).2 b hb))]
theorem row_no {s : ByteArray} (hs : s.data.toList ≠ [42]) {pre : List ByteArray} {x : ByteArray} (hp : pre ++ [x] <+: pieces 44 s) (h : (∀ b : Bd, b.ok = true → b.text ≠ x.data.toList) ∨ 4 ≤ pre.length) : ∀ m, rowOk m = true → rowT m ≠ s.data.toList := by
  intro m hm ht
  have hmp := row_pieces hs hm ht
  obtain ⟨t, hpt⟩ := hp
  rcases h with h | h
  · have hx : x.data.toList ∈ m.map Bd.text := by rw [hmp, ← hpt]; simp
    obtain ⟨b, hb, he⟩ := List.mem_map.1 hx
    exact h b ((row_ok hm).2 b hb) he
  · have hl := congrArg List.length hmp
    rw [← hpt] at hl
    simp at hl
    have := (row_ok hm).1
    omega
theorem star_row {s : ByteArray} (hs : s.data.toList = [42]) : rowOk [] = true ∧ rowT [] = s.data.toList := ⟨rfl, hs.symm⟩

/-! ### What a span is read to -/
def RowsAre (l : List (List Bd)) (ps : List ByteArray) : Prop := (∀ r ∈ l, rowOk r = true) ∧ l.map rowT = ps.map (·.data.toList)
theorem RowsAre.nil : RowsAre [] [] := ⟨by simp, rfl⟩
theorem RowsAre.snoc {l : List (List Bd)} {ps : List ByteArray} {b : List Bd} {x : ByteArray} (h : RowsAre l ps) (hb : rowOk b = true) (ht : rowT b = x.data.toList) : RowsAre (l ++ [b]) (ps ++ [x]) :=
  ⟨fun y hy => by rcases List.mem_append.1 hy with hy | hy; exact h.1 y hy; rw [List.mem_singleton.1 hy]; exact hb, by rw [List.map_append, List.map_append, h.2]; simp [ht]⟩
theorem RowsAre.len {l : List (List Bd)} {ps : List ByteArray} (h : RowsAre l ps) : l.length = ps.length := by
  have := congrArg List.length h.2
  simpa using this
theorem span_done {s : ByteArray} {l : List (List Bd)} (h : RowsAre l (piecesD s)) (h4 : l.length ≤ 4) : spanOk l = true ∧ spanT l = s.data.toList := by
  have hne : 1 ≤ l.length := by
    rw [h.len]
    rcases Nat.eq_zero_or_pos (piecesD s).length with h3 | h3
    · exfalso
      have h2 := piecesD_list s
      rw [List.eq_nil_of_length_eq_zero h3] at h2
      exact splitD_ne _ h2.symm
    · exact h3
  refine ⟨by unfold spanOk; rw [decide_eq_true ⟨hne, h4⟩, List.all_eq_true.2 h.1]; rfl, ?_⟩
  unfold spanT
  rw [h.2, piecesD_list, joinD_split]
theorem span_no {s : ByteArray} {pre : List ByteArray} {x : ByteArray} (hp : pre ++ [x] <+: piecesD s) (h : (∀ b, rowOk b = true → rowT b ≠ x.data.toList) ∨ 4 ≤ pre.length) : ∀ m, spanOk m = true → spanT m ≠ s.data.toList := by
  intro m hm ht
  have hmp : m.map rowT = (piecesD s).map (·.data.toList) := by rw [piecesD_list, ← ht, span_split hm]
  obtain ⟨t, hpt⟩ := hp
  rcases h with h | h
  · have hx : x.data.toList ∈ m.map rowT := by rw [hmp, ← hpt]; simp
    obtain ⟨b, hb, he⟩ := List.mem_map.1 hx
    exact h b ((span_ok hm).2 b hb) he
  · have hl := congrArg List.length hmp
    rw [← hpt] at hl
    simp at hl
    have := (span_ok hm).1
    omega

/-! ### What is read within a frame -/
/-- The version's text that stands between these two. -/
def within (s a z : Str) : Option Ver := if a <+: s ∧ z <:+ s.drop a.length then readV (ofB ((s.drop a.length).take ((s.drop a.length).length - z.length))) else none
theorem within_some {s a z : Str} {v : Ver} (h : within s a z = some v) : v.ok = true ∧ s = a ++ v.text ++ z := by
  unfold within at h
  split at h
  · rename_i hp
    obtain ⟨⟨t, rfl⟩, u, hu⟩ := hp
    obtain ⟨h1, h2⟩ := text_read h
    refine ⟨h1, ?_⟩
    rw [h2]
    rw [List.drop_left] at hu ⊢
    subst hu
    show a ++ (u ++ z) = a ++ ((u ++ z).take _) ++ z
    rw [List.length_append, Nat.add_sub_cancel, List.take_left, List.append_assoc]
  · cases h
theorem within_of {a z : Str} {v : Ver} (h : v.ok = true) : within (a ++ v.text ++ z) a z = some v := by
  unfold within
  rw [if_pos ⟨⟨v.text ++ z, by simp⟩, ⟨v.text, by simp⟩⟩]
  rw [List.append_assoc, List.drop_left, List.length_append, Nat.add_sub_cancel, List.take_left]
  exact read_text h
end Go.Proofs.YtlfehjjnepiljaaGreatDoor

namespace Go.Proofs.YtlfehjjnepiljaaGreatDoor
open Go.RowKit Go.Shelf

/-- What Begins tells. -/
def Ver.begins (v a : Ver) : Bool := if v.ok = true ∧ a.ok = true ∧ ¬ v.many < a.many then decide (v.first a.many.toNat = a) else false
theorem begin_m (v a : Ver) (ha : a.ok = true) (W : World) : Calls Tryz.prog 143 #[.agg v.arr, .int .i64 a.many] W fun e w' => e = .returned (.agg (v.first a.many.toNat).arr) ∧ Below W.heap.size W w' := by
  obtain ⟨h1, h4⟩ := ok_many ha
  have e : a.many = (a.many.toNat : Int) := by omega
  have := begin_any v a.many.toNat (by omega) (by omega) W
  rwa [← e] at this

set_option maxRecDepth 100000 in
set_option maxHeartbeats 2000000 in
theorem begins_any (v a : Ver) (w : World) : Calls Tryz.prog 128 #[.agg v.arr, .agg a.arr] w fun e w' => e = .returned (.bool (v.begins a)) ∧ Below w.heap.size w w' := by
  have X1 : Box ((w.alloc (.cells v.arr 45)).alloc (.cells a.arr 45)) w.heap.size 45 v.arr := box_new.alloc _
  have X2 : Box ((w.alloc (.cells v.arr 45)).alloc (.cells a.arr 45)) (w.heap.size + 1) 45 a.arr := heap_alloc2_new w _ _
  have k0 : Two v a w.heap.size (w.heap.size + 1) w ((w.alloc (.cells v.arr 45)).alloc (.cells a.arr 45)) := ⟨X1.ver, X2.ver, ((Below.refl w.heap.size w).alloc (Nat.le_refl _) (.cells v.arr 45)).alloc (by simp) (.cells a.arr 45)⟩
  obtain ⟨p0, p1, p2, p3, p4, p5, p6⟩ := k0.l
  have HK := Lib.hid k0
  clear k0 X1 X2
  obtain ⟨o, ho⟩ : ∃ o, o = v.ok := ⟨_, rfl⟩
  obtain ⟨oa, hoa⟩ : ∃ o, o = a.ok := ⟨_, rfl⟩
  have HA := Lib.hid (tells_of ho)
  have HB := Lib.hid (tells_of hoa)
  cases o with
  | false =>
    have HR : Hid (v.begins a = false) := Lib.hid (if_neg (fun h => by rw [← ho] at h; exact absurd h.1 (by decide)))
    clear ho hoa
    go_enter Tryz.func128, Tryz.ntmps128
    go_wp2_with fail
    refine (HA.out _).mono ?_
    rintro e w1 ⟨rfl, hb⟩
    have H1 := Lib.hid (HK.out.on hb)
    clear hb
    go_wp2_with fail
    go_ret
    exact ⟨ret_bool HR.out.symm, H1.out.low⟩
  | true =>
  cases oa with
  | false =>
    have HR : Hid (v.begins a = false) := Lib.hid (if_neg (fun h => by rw [← hoa] at h; exact absurd h.2.1 (by decide)))
    clear ho hoa
    go_enter Tryz.func128, Tryz.ntmps128
    go_wp2_with fail
    refine (HA.out _).mono ?_
    rintro e w1 ⟨rfl, hb⟩
    have H1 := Lib.hid (HK.out.on hb)
    clear hb p0 p1 p2 p3 p4 p5 p6
    obtain ⟨q0, q1, q2, q3, q4, q5, q6⟩ := H1.out.r
    go_wp2_with fail
    refine (HB.out _).mono ?_
    rintro e w2 ⟨rfl, hb⟩
    have H2 := Lib.hid (H1.out.on hb)
    clear hb q0 q1 q2 q3 q4 q5 q6
    go_wp2_with fail
    go_ret
    exact ⟨ret_bool HR.out.symm, H2.out.low⟩
  | true =>
    obtain ⟨l, hl⟩ : ∃ l, l = decide (v.many < a.many) := ⟨_, rfl⟩
    have HC := Lib.hid (begin_m v a hoa.symm)
    have HE := Lib.hid (eq26 (v.first a.many.toNat) a)
    cases l with
    | true =>
      have HR : Hid (v.begins a = false) := Lib.hid (if_neg (fun h => h.2.2 (of_decide_eq_true hl.symm)))
      have hl' := hl.symm
      clear ho hoa hl
      go_enter Tryz.func128, Tryz.ntmps128
      go_wp2_with fail
      refine (HA.out _).mono ?_
      rintro e w1 ⟨rfl, hb⟩
      have H1 := Lib.hid (HK.out.on hb)
      clear hb p0 p1 p2 p3 p4 p5 p6
      obtain ⟨q0, q1, q2, q3, q4, q5, q6⟩ := H1.out.r
      go_wp2_with fail
      refine (HB.out _).mono ?_
      rintro e w2 ⟨rfl, hb⟩
      have H2 := Lib.hid (H1.out.on hb)
      clear hb q0 q1 q2 q3 q4 q5 q6
      obtain ⟨p0, p1, p2, p3, p4, p5, p6⟩ := H2.out.l
      obtain ⟨q0, q1, q2, q3, q4, q5, q6⟩ := H2.out.r
      go_wp2_with fail
      go_ret
      exact ⟨ret_bool HR.out.symm, H2.out.low⟩
    | false =>
      have HR : Hid (v.begins a = decide (v.first a.many.toNat = a)) := Lib.hid (if_pos ⟨ho.symm, hoa.symm, of_decide_eq_false hl.symm⟩)
      have hl' := hl.symm
      clear ho hoa hl
      go_enter Tryz.func128, Tryz.ntmps128
      go_wp2_with fail
      refine (HA.out _).mono ?_
      rintro e w1 ⟨rfl, hb⟩
      have H1 := Lib.hid (HK.out.on hb)
      clear hb p0 p1 p2 p3 p4 p5 p6
      obtain ⟨q0, q1, q2, q3, q4, q5, q6⟩ := H1.out.r
      go_wp2_with fail
      refine (HB.out _).mono ?_
      rintro e w2 ⟨rfl, hb⟩
      have H2 := Lib.hid (H1.out.on hb)
      clear hb q0 q1 q2 q3 q4 q5 q6
      obtain ⟨p0, p1, p2, p3, p4, p5, p6⟩ := H2.out.l
      obtain ⟨q0, q1, q2, q3, q4, q5, q6⟩ := H2.out.r
      go_wp2_with fail
      clear p0 p1 p2 p3 p4 p5 p6 q0 q1 q2 q3 q4 q5 q6
      refine wp_region_held_drew (S := fun w' => Two v a w.heap.size (w.heap.size + 1) w w') (by kernel_rfl) H2.out.drew (fun hHeld => ?_)
      refine wpAnyH_take (i := 0) (oi := { dst := some 20, op := Op.load 45 (Operand.tmp 2), type := 45, pos := "version.go:53", after := #[], guard := none }) (v := ?_) rfl (by kernel_rfl) (by kernel_rfl) (by kernel_rfl) (fun _ _ _ h => h) (Or.inl ⟨by rfl, ?_⟩) hHeld ?_
      rotate_left
      · (intro w hSw; obtain ⟨p0, p1, p2, p3, p4, p5, p6⟩ := hSw.l; go_simp; try with_reducible rfl)
      (try simp only [Act.put, List.setIfInBounds_toArray, List.set_cons_zero, List.set_cons_succ])
      refine wpAnyH_take (i := 1) (oi := { dst := some 21, op := Op.fieldAddr 45 (Operand.tmp 3) 1, type := 0, pos := "version.go:53", after := #[], guard := none }) (v := ?_) rfl (by kernel_rfl) (by kernel_rfl) (by kernel_rfl) (fun _ _ _ h => h) (Or.inl ⟨by rfl, ?_⟩) hHeld ?_
      rotate_left
      · (intro w hSw; go_simp; try with_reducible rfl)
      (try simp only [Act.put, List.setIfInBounds_toArray, List.set_cons_zero, List.set_cons_succ])
      refine wpAnyH_take (i := 2) (oi := { dst := some 22, op := Op.load 3 (Operand.tmp 21), type := 3, pos := "version.go:53", after := #[{ on := 1, ground := Ground.data }], guard := none }) (v := ?_) rfl (by kernel_rfl) (by kernel_rfl) (by kernel_rfl) (fun _ _ _ h => h) (Or.inl ⟨by rfl, ?_⟩) hHeld ?_
      rotate_left
      · (intro w hSw; obtain ⟨p0, p1, p2, p3, p4, p5, p6⟩ := hSw.r; go_simp; try with_reducible rfl)
      (try simp only [Act.put, List.setIfInBounds_toArray, List.set_cons_zero, List.set_cons_succ])
      refine wpAnyH_take (i := 4) (oi := { dst := some 24, op := Op.load 45 (Operand.tmp 3), type := 45, pos := "version.go:53", after := #[], guard := none }) (v := .agg a.arr) rfl (by kernel_rfl) (by kernel_rfl) (by kernel_rfl) (fun _ _ _ h => h) (Or.inl ⟨by rfl, ?_⟩) hHeld ?_
      · (intro w hSw; obtain ⟨p0, p1, p2, p3, p4, p5, p6⟩ := hSw.r; go_simp; try rfl)
      (try simp only [Act.put, List.setIfInBounds_toArray, List.set_cons_zero, List.set_cons_succ])
      refine wpAnyH_ready (rs := [3]) (by kernel_rfl) (by simp) (AllReadyH.cons (o := { dst := some 23, op := Op.call { callee := Callee.value (Operand.func 143), args := #[Operand.tmp 20, Operand.tmp 22], argTypes := #[45, 3] }, type := 45, pos := "version.go:53", after := #[{ on := 0, ground := Ground.data }, { on := 2, ground := Ground.data }], guard := none }) rfl (fun K hK => ?_) AllReadyH.nil)
      · go_simp
        refine (HC.out _).mono ?_
        rintro e wa ⟨rfl, hba⟩
        refine hK.out _ _ (hHeld.on hba) (fun hHeld => ?_)
        (try simp only [Act.put, List.setIfInBounds_toArray, List.set_cons_zero, List.set_cons_succ])
        refine wpAnyH_take (i := 5) (oi := { dst := some 25, op := Op.binOp BinOp.eql 45 (Operand.tmp 23) (Operand.tmp 24) 45, type := 4, pos := "version.go:53", after := #[{ on := 3, ground := Ground.data }, { on := 4, ground := Ground.data }], guard := none }) (v := ?_) rfl (by kernel_rfl) (by kernel_rfl) (by kernel_rfl) (fun _ _ _ h => h) (Or.inl ⟨by rfl, ?_⟩) hHeld ?_
        rotate_left
        · (intro w hSw; have eqf := HE.out; have hgd : Tryz.prog.eqGuardType Tryz.prog.depth 45 = false := (by kernel_rfl); go_simp; try with_reducible rfl)
        (try simp only [Act.put, List.setIfInBounds_toArray, List.set_cons_zero, List.set_cons_succ])
        refine wpAnyH_take (i := 6) (oi := { dst := some 4, op := Op.assign (Operand.tmp 25), type := 4, pos := "version.go:53", after := #[{ on := 5, ground := Ground.data }, { on := 3, ground := Ground.chain }, { on := 0, ground := Ground.phase }, { on := 1, ground := Ground.phase }, { on := 2, ground := Ground.phase }, { on := 3, ground := Ground.phase }, { on := 4, ground := Ground.phase }, { on := 5, ground := Ground.phase }], guard := none }) (v := ?_) rfl (by kernel_rfl) (by kernel_rfl) (by kernel_rfl) (fun _ _ _ h => h) (Or.inl ⟨by rfl, ?_⟩) hHeld ?_
        rotate_left
        · (intro w hSw; go_simp; try with_reducible rfl)
        (try simp only [Act.put, List.setIfInBounds_toArray, List.set_cons_zero, List.set_cons_succ])
        refine wpAnyH_done (by kernel_rfl) ?_ _
        obtain ⟨⟨p0, p1, p2, p3, p4, p5, p6⟩, ⟨q0, q1, q2, q3, q4, q5, q6⟩, hlow⟩ := hHeld
        have HL := Lib.hid hlow
        clear hlow
        go_wp2_with fail
        go_ret
        exact ⟨ret_bool HR.out.symm, HL.out⟩
end Go.Proofs.YtlfehjjnepiljaaGreatDoor

namespace Go.Proofs.YtlfehjjnepiljaaGreatDoor
open Go.RowKit Go.Shelf

/-- An order that is told by -1, 0 and 1. -/
structure Good {α : Type} (c : α → α → Int) : Prop where
  rng : ∀ a b, c a b = -1 ∨ c a b = 0 ∨ c a b = 1
  anti : ∀ a b, c b a = -(c a b)
  tr : ∀ a b d, c a b ≤ 0 → c b d ≤ 0 → c a d ≤ 0 ∧ (c a b + c b d = 0 ∨ c a d < 0)
namespace Good
variable {α β : Type} {c d : α → α → Int}
theorem zero (h : Good c) (a : α) : c a a = 0 := by
  have := h.anti a a
  omega
theorem zeros (h : Good c) {a b e : α} (h1 : c a b = 0) (h2 : c b e = 0) : c a e = 0 := by
  have t1 := h.tr a b e (by omega) (by omega)
  have e1 := h.anti a b
  have e2 := h.anti b e
  have t2 := h.tr e b a (by omega) (by omega)
  have e3 := h.anti a e
  omega
theorem left (h : Good c) {a b e : α} (h1 : c a b = 0) : c a e = c b e := by
  have r1 := h.rng a e
  have r2 := h.rng b e
  have e1 := h.anti a b
  have e2 := h.anti b e
  have e3 := h.anti a e
  have t1 := h.tr a b e
  have t2 := h.tr b a e
  have t3 := h.tr e a b
  have t4 := h.tr e b a
  omega
theorem right (h : Good c) {a b e : α} (h1 : c b e = 0) : c a e = c a b := by
  have := h.left (a := b) (b := e) (e := a) h1
  have e1 := h.anti a b
  have e2 := h.anti a e
  omega
theorem map (h : Good c) (f : β → α) : Good (fun x y => c (f x) (f y)) := ⟨fun _ _ => h.rng _ _, fun _ _ => h.anti _ _, fun _ _ _ => h.tr _ _ _⟩
theorem lex (h : Good c) (k : Good d) : Good (fun a b => orI (c a b) (d a b)) := by
  refine ⟨fun a b => ?_, fun a b => ?_, fun a b e => ?_⟩
  · unfold orI
    split
    · exact k.rng a b
    · exact h.rng a b
  · unfold orI
    rw [h.anti a b, k.anti a b]
    split <;> split <;> omega
  · have r1 := h.rng a b
    have r2 := h.rng b e
    have t := h.tr a b e
    have u := k.tr a b e
    unfold orI
    by_cases h1 : c a b = 0
    · have l := h.left (e := e) h1
      rw [l, if_pos h1]
      by_cases h2 : c b e = 0
      · rw [if_pos h2, if_pos h2]
        exact u
      · rw [if_neg h2]
        intro x y
        omega
    · rw [if_neg h1]
      by_cases h2 : c b e = 0
      · have l := h.right (a := a) h2
        rw [l, if_pos h2, if_neg h1]
        intro x y
        omega
      · rw [if_neg h2]
        intro x y
        have := t x y
        split <;> omega
end Good
theorem good_int : Good Lib.compareInt := by
  refine ⟨fun a b => ?_, fun a b => ?_, fun a b d => ?_⟩
  · unfold Lib.compareInt
    split
    · omega
    · split <;> omega
  · unfold Lib.compareInt
    split <;> split <;> (try split) <;> (try split) <;> omega
  · unfold Lib.compareInt
    intro h1 h2
    split at h1 <;> split at h2 <;> (try split at h1) <;> (try split at h2) <;> split <;> (try split) <;> (try split) <;> (try split) <;> (try split) <;> omega
theorem bytes_zero : ∀ (l m : Str), Lib.compareBytes l m = 0 → l = m
  | [], [], _ => rfl
  | [], _ :: _, h => by simp [Lib.compareBytes] at h
  | _ :: _, [], h => by simp [Lib.compareBytes] at h
  | a :: l, b :: m, h => by
    unfold Lib.compareBytes at h
    split at h
    · omega
    · split at h
      · omega
      · rename_i h1 h2
        have e : a = b := UInt8.le_antisymm (UInt8.not_lt.1 h2) (UInt8.not_lt.1 h1)
        rw [e, bytes_zero l m h]
theorem bytes_rng : ∀ (l m : Str), Lib.compareBytes l m = -1 ∨ Lib.compareBytes l m = 0 ∨ Lib.compareBytes l m = 1
  | [], [] => by simp [Lib.compareBytes]
  | [], _ :: _ => by simp [Lib.compareBytes]
  | _ :: _, [] => by simp [Lib.compareBytes]
  | a :: l, b :: m => by
    unfold Lib.compareBytes
    split
    · omega
    · split
      · omega
      · exact bytes_rng l m
theorem bytes_anti : ∀ (l m : Str), Lib.compareBytes m l = -(Lib.compareBytes l m)
  | [], [] => by simp [Lib.compareBytes]
  | [], _ :: _ => by simp [Lib.compareBytes]
  | _ :: _, [] => by simp [Lib.compareBytes]
  | a :: l, b :: m => by
    have ih := bytes_anti l m
    unfold Lib.compareBytes
    by_cases h1 : a < b
    · have h2 : ¬ b < a := UInt8.lt_asymm h1
      simp [h1, h2]
    · by_cases h2 : b < a
      · simp [h1, h2]
      · simp only [h1, h2, if_false]
        exact ih
theorem bytes_tr : ∀ (l m n : Str), Lib.compareBytes l m ≤ 0 → Lib.compareBytes m n ≤ 0 → Lib.compareBytes l n ≤ 0 ∧ (Lib.compareBytes l m + Lib.compareBytes m n = 0 ∨ Lib.compareBytes l n < 0)
  | [], [], [], _, _ => by simp [Lib.compareBytes]
  | [], [], _ :: _, _, _ => by simp [Lib.compareBytes]
  | [], _ :: _, [], _, h => by simp [Lib.compareBytes] at h
  | [], _ :: _, _ :: _, _, _ => by simp [Lib.compareBytes]
  | _ :: _, [], _, h, _ => by simp [Lib.compareBytes] at h
  | _ :: _, _ :: _, [], _, h => by simp [Lib.compareBytes] at h
  | a :: l, b :: m, c :: n, h1, h2 => by
    have ih := bytes_tr l m n
    unfold Lib.compareBytes at h1 h2 ⊢
    have n1 := @UInt8.lt_iff_toNat_lt a b
    have n2 := @UInt8.lt_iff_toNat_lt b a
    have n3 := @UInt8.lt_iff_toNat_lt b c
    have n4 := @UInt8.lt_iff_toNat_lt c b
    have n5 := @UInt8.lt_iff_toNat_lt a c
    have n6 := @UInt8.lt_iff_toNat_lt c a
    simp only [n1, n2, n3, n4, n5, n6] at h1 h2 ⊢
    split at h1 <;> split at h2 <;> (try split at h1) <;> (try split at h2) <;> split <;> (try split) <;> (try split) <;> (try split) <;> (try split) <;> first | omega | (have := ih h1 h2; omega)
theorem good_bytes : Good Lib.compareBytes := ⟨bytes_rng, fun a b => bytes_anti a b, bytes_tr⟩

def tagL (l m : Str) : Int := if l = [] then (if m = [] then 0 else 1) else if m = [] then -1 else Lib.compareBytes l m
theorem ba_ext {a b : ByteArray} (h : a.data.toList = b.data.toList) : a = b := by
  cases a
  cases b
  simp at h
  rw [h]
theorem tagC_eq (a b : ByteArray) : tagC a b = tagL a.data.toList b.data.toList := by
  unfold tagC tagL
  by_cases h : a = b
  · subst h
    rw [if_pos rfl]
    by_cases h1 : a.data.toList = []
    · rw [if_pos h1, if_pos h1]
    · rw [if_neg h1, if_neg h1, good_bytes.zero]
  · rw [if_neg h]
    by_cases h1 : a.data.toList = []
    · rw [if_pos h1, if_pos h1, if_neg (fun h2 => h (ba_ext (h1.trans h2.symm)))]
    · rw [if_neg h1, if_neg h1]
theorem good_tagL : Good tagL := by
  refine ⟨fun a b => ?_, fun a b => ?_, fun a b e => ?_⟩
  · have := good_bytes.rng a b
    unfold tagL
    split <;> split <;> omega
  · have := good_bytes.anti a b
    unfold tagL
    split <;> split <;> omega
  · have := good_bytes.tr a b e
    unfold tagL
    by_cases h1 : a = [] <;> by_cases h2 : b = [] <;> by_cases h3 : e = [] <;> simp only [h1, h2, h3, if_true, if_false] <;> first | omega | (intro x y; omega) | exact this
theorem good_tag : Good tagC := by
  have e : tagC = fun a b => tagL a.data.toList b.data.toList := funext fun a => funext fun b => tagC_eq a b
  rw [e]
  exact good_tagL.map fun a : ByteArray => a.data.toList
theorem cmpV_eq (a b : Ver) : cmpV a b = orI (orI (Lib.compareInt a.n0 b.n0) (orI (Lib.compareInt a.n1 b.n1) (orI (Lib.compareInt a.n2 b.n2) (Lib.compareInt a.n3 b.n3)))) (orI (tagC a.tag b.tag) (orI (Lib.compareInt a.step b.step) (Lib.compareInt a.many b.many))) := rfl
theorem good_cmpV : Good cmpV := by
  have e : cmpV = fun a b => orI (orI (Lib.compareInt a.n0 b.n0) (orI (Lib.compareInt a.n1 b.n1) (orI (Lib.compareInt a.n2 b.n2) (Lib.compareInt a.n3 b.n3)))) (orI (tagC a.tag b.tag) (orI (Lib.compareInt a.step b.step) (Lib.compareInt a.many b.many))) := funext fun a => funext fun b => cmpV_eq a b
  rw [e]
  exact ((good_int.map Ver.n0).lex ((good_int.map Ver.n1).lex ((good_int.map Ver.n2).lex (good_int.map Ver.n3)))).lex ((good_tag.map Ver.tag).lex ((good_int.map Ver.step).lex (good_int.map Ver.many)))
theorem good_cmpW : Good cmpW := by
  refine ⟨fun a b => ?_, fun a b => ?_, fun a b e => ?_⟩
  · have := good_cmpV.rng a b
    unfold cmpW
    split <;> split <;> omega
  · have := good_cmpV.anti a b
    unfold cmpW
    split <;> split <;> omega
  · have := good_cmpV.tr a b e
    unfold cmpW
    cases a.ok <;> cases b.ok <;> cases e.ok <;> simp only [if_true, Bool.false_eq_true, if_false] <;> first | omega | (intro x y; omega) | exact this
theorem or_zero {x y : Int} (h : orI x y = 0) : x = 0 ∧ y = 0 := by
  unfold orI at h
  split at h <;> omega
theorem int_zero {x y : Int} (h : Lib.compareInt x y = 0) : x = y := by
  unfold Lib.compareInt at h
  split at h
  · omega
  · split at h <;> omega
theorem tag_zero {a b : ByteArray} (h : tagC a b = 0) : a = b := by
  unfold tagC at h
  split at h
  · assumption
  · split at h
    · omega
    · split at h
      · omega
      · exact ba_ext (bytes_zero _ _ h)
theorem cmpV_zero {a b : Ver} (h : cmpV a b = 0) : a = b := by
  rw [cmpV_eq] at h
  obtain ⟨hn, h⟩ := or_zero h
  obtain ⟨h0, hn⟩ := or_zero hn
  obtain ⟨h1, hn⟩ := or_zero hn
  obtain ⟨h2, h3⟩ := or_zero hn
  obtain ⟨ht, h⟩ := or_zero h
  obtain ⟨hs, hm⟩ := or_zero h
  exact (ver_eq a b).2 ⟨⟨int_zero h0, int_zero h1, int_zero h2, int_zero h3⟩, int_zero hm, tag_zero ht, int_zero hs⟩
theorem cmpW_same {a b : Ver} (ha : a.ok = true) (hb : b.ok = true) : (cmpW a b = 0) ↔ a = b := by
  unfold cmpW
  rw [ha, hb]
  simp only [if_true]
  exact ⟨cmpV_zero, fun h => by rw [h]; exact good_cmpV.zero b⟩
end Go.Proofs.YtlfehjjnepiljaaGreatDoor

namespace Go.Proofs.YtlfehjjnepiljaaGreatDoor
open Go.RowKit

/-- Does a version meet a bound, both such as may be? -/
def meetsB (b : Bd) (v : Ver) : Bool :=
  if b.kind = 1 then decide (v = b.ver) else if b.kind = 2 then !decide (v = b.ver) else if b.kind = 3 then decide (0 ≤ cmpW v b.ver) else if b.kind = 4 then decide (0 < cmpW v b.ver)
  else if b.kind = 5 then decide (cmpW v b.ver ≤ 0) else if b.kind = 6 then decide (cmpW v b.ver < 0) else v.begins b.ver
def meetsL (l : List Bd) (v : Ver) : Bool := l.all (meetsB · v)
def hasL (rows : List (List Bd)) (v : Ver) : Bool := rows.any (meetsL · v)
def hasS (rows : List (List Bd)) (v : Ver) : Bool := spanOk rows && v.ok && hasL rows v
def bothL (a b : List (List Bd)) : List (List Bd) := a.flatMap fun x => b.map (x ++ ·)
def fitsB (r : List (List Bd)) : Bool := decide (r.length ≤ 4) && r.all fun l => decide (l.length ≤ 4)
theorem has_both (a b : List (List Bd)) (v : Ver) : hasL (bothL a b) v = (hasL a v && hasL b v) := by
  unfold hasL bothL
  rw [List.any_flatMap]
  have e : ∀ x : List Bd, (b.map (x ++ ·)).any (meetsL · v) = (meetsL x v && b.any (meetsL · v)) := fun x => by
    induction b with
    | nil => simp
    | cons y b ih =>
      rw [List.map_cons, List.any_cons, List.any_cons, ih]
      have : meetsL (x ++ y) v = (meetsL x v && meetsL y v) := List.all_append
      rw [this]
      cases meetsL x v <;> simp
  simp only [e]
  induction a with
  | nil => simp
  | cons x a ih =>
    rw [List.any_cons, List.any_cons, ih]
    cases meetsL x v <;> cases b.any (meetsL · v) <;> simp
theorem has_either (a b : List (List Bd)) (v : Ver) : hasL (a ++ b) v = (hasL a v || hasL b v) := List.any_append
theorem rows_of_fits {r : List (List Bd)} (h : fitsB r = true) (hb : ∀ l ∈ r, ∀ b ∈ l, b.ok = true) (h1 : 1 ≤ r.length) : spanOk r = true := by
  unfold fitsB at h
  simp only [Bool.and_eq_true, decide_eq_true_eq] at h
  unfold spanOk
  rw [decide_eq_true ⟨h1, h.1⟩, Bool.true_and]
  refine List.all_eq_true.2 fun l hl => ?_
  have h4 := List.all_eq_true.1 h.2 l hl
  unfold rowOk
  rw [h4, List.all_eq_true.2 (hb l hl)]
  rfl
theorem ok_fits {r : List (List Bd)} (h : spanOk r = true) : fitsB r = true := by
  obtain ⟨h1, h2⟩ := span_ok h
  unfold fitsB
  rw [decide_eq_true h1.2, Bool.true_and]
  exact List.all_eq_true.2 fun l hl => decide_eq_true (row_ok (h2 l hl)).1
theorem both_mem {a b : List (List Bd)} {l : List Bd} (h : l ∈ bothL a b) : ∃ x ∈ a, ∃ y ∈ b, l = x ++ y := by
  unfold bothL at h
  obtain ⟨x, hx, hl⟩ := List.mem_flatMap.1 h
  obtain ⟨y, hy, rfl⟩ := List.mem_map.1 hl
  exact ⟨x, hx, y, hy, rfl⟩
theorem both_len (a b : List (List Bd)) : (bothL a b).length = a.length * b.length := by
  unfold bothL
  induction a with
  | nil => simp
  | cons x a ih => rw [List.flatMap_cons, List.length_append, ih, List.length_map, List.length_cons, Nat.succ_mul, Nat.add_comm]
theorem both_ok {a b : List (List Bd)} (ha : spanOk a = true) (hb : spanOk b = true) (h : fitsB (bothL a b) = true) : spanOk (bothL a b) = true := by
  obtain ⟨a1, a2⟩ := span_ok ha
  obtain ⟨b1, b2⟩ := span_ok hb
  refine rows_of_fits h (fun l hl b hm => ?_) ?_
  · obtain ⟨x, hx, y, hy, rfl⟩ := both_mem hl
    rcases List.mem_append.1 hm with hm | hm
    · exact (row_ok (a2 x hx)).2 b hm
    · exact (row_ok (b2 y hy)).2 b hm
  · rw [both_len]
    exact Nat.mul_pos a1.1 b1.1
theorem either_ok {a b : List (List Bd)} (ha : spanOk a = true) (hb : spanOk b = true) (h : fitsB (a ++ b) = true) : spanOk (a ++ b) = true := by
  obtain ⟨a1, a2⟩ := span_ok ha
  obtain ⟨b1, b2⟩ := span_ok hb
  refine rows_of_fits h (fun l hl b hm => ?_) (by rw [List.length_append]; omega)
  rcases List.mem_append.1 hl with hl | hl
  · exact (row_ok (a2 l hl)).2 b hm
  · exact (row_ok (b2 l hl)).2 b hm
/-- A bound, and that of the other sign: one of both. -/
theorem other_sign (v u : Ver) : meetsB ⟨1, u⟩ v ≠ meetsB ⟨2, u⟩ v ∧ meetsB ⟨3, u⟩ v ≠ meetsB ⟨6, u⟩ v ∧ meetsB ⟨4, u⟩ v ≠ meetsB ⟨5, u⟩ v := by
  unfold meetsB
  refine ⟨?_, ?_, ?_⟩
  · simp
  · simp only [show (3 : Int) ≠ 1 by decide, show (3 : Int) ≠ 2 by decide, show (6 : Int) ≠ 1 by decide, show (6 : Int) ≠ 2 by decide, show (6 : Int) ≠ 3 by decide, show (6 : Int) ≠ 4 by decide, show (6 : Int) ≠ 5 by decide, if_true, if_false]
    intro h
    rw [decide_eq_decide] at h
    omega
  · simp only [show (4 : Int) ≠ 1 by decide, show (4 : Int) ≠ 2 by decide, show (4 : Int) ≠ 3 by decide, show (5 : Int) ≠ 1 by decide, show (5 : Int) ≠ 2 by decide, show (5 : Int) ≠ 3 by decide, show (5 : Int) ≠ 4 by decide, if_true, if_false]
    intro h
    rw [decide_eq_decide] at h
    omega
theorem one_ok {k : Int} {u : Ver} (hk : 1 ≤ k ∧ k ≤ 6) (hu : u.ok = true) : spanOk [[⟨k, u⟩]] = true := by
  have h1 : Bd.ok ⟨k, u⟩ = true := by
    unfold Bd.ok
    rw [decide_eq_true (⟨hk.1, by omega⟩ : 1 ≤ k ∧ k ≤ 7), hu]
    simp
    left
    omega
  unfold spanOk rowOk
  simp [h1]
end Go.Proofs.YtlfehjjnepiljaaGreatDoor

namespace Go.Proofs.YtlfehjjnepiljaaGreatDoor
open Go.RowKit Go.Shelf

/-- One byte of a text. -/
theorem run_byte_at (s : ByteArray) (k : Nat) (hk : k < s.size) (c : UInt8) (hc : s.data.toList[k]? = some c) (W : World) : (Instr.index 9 (.string s) (.int .i64 (k : Int))).run Tryz.prog W = .ok (.int .u8 (c.toNat : Int)) W := by
  rw [run_index_string (h := Tryz.underlying9)]
  have h0 : (0 : Int) ≤ (k : Int) := by omega
  have hd : c = s[k]'hk := by
    have := List.getElem?_eq_getElem (show k < s.data.toList.length from hk)
    rw [this] at hc
    cases hc
    rfl
  subst hd
  simp [hk]
theorem all_no {l : Str} {k : Nat} {c : UInt8} (hc : l[k]? = some c) (h : lowB c = false) : l.all lowB = false := by
  rw [Bool.eq_false_iff]
  intro ha
  have := List.all_eq_true.1 ha c (List.mem_of_getElem? hc)
  rw [h] at this
  cases this
theorem all_yes {l : Str} (h : ∀ (j : Nat) (c : UInt8), j < l.length → l[j]? = some c → lowB c = true) : l.all lowB = true :=
  List.all_eq_true.2 fun c hc => by
    obtain ⟨i, hi⟩ := List.mem_iff_getElem?.1 hc
    exact h i c (List.getElem?_eq_some_iff.1 hi).1 hi

set_option maxRecDepth 100000 in
set_option maxHeartbeats 2000000 in
theorem rletters_any (s : ByteArray) (hs : s.size ≤ 6) (w : World) : Calls Tryz.prog 46 #[.string s] w fun e w' => e = .returned (.bool (s.data.toList.all lowB)) ∧ w = w' := by
  obtain ⟨r, hr⟩ : ∃ r, r = s.data.toList.all lowB := ⟨_, rfl⟩
  rw [← hr]
  have HR := Lib.hid hr
  clear hr
  have hsl : s.data.toList.length = s.size := rfl
  have HSL := Lib.hid hsl
  clear hsl
  go_enter Tryz.func46, Tryz.ntmps46
  go_wp2_with fail
  go_loop [3, 4, 5, 6, 7, 8, 9, 10, 11, 12, 13, 14, 15, 16, 17, 18, 19] (fun i _ _ _ _ _ _ _ _ _ _ _ _ _ _ _ _ => ∃ k : Nat, k ≤ s.size ∧ i = .int .i64 k ∧ Hid (∀ (j : Nat) (c : UInt8), j < k → s.data.toList[j]? = some c → lowB c = true)) (fun i _ _ _ _ _ _ _ _ _ _ _ _ _ _ _ _ => s.size - (Lib.intOf i).toNat)
  case atStart => exact ⟨0, Nat.zero_le _, rfl, Lib.hid (fun j _ hj => absurd hj (Nat.not_lt_zero _))⟩
  case round =>
    obtain ⟨k, hk, rfl, HK⟩ := hrel
    by_cases hlt : k < s.size
    · obtain ⟨c, hc⟩ : ∃ c, s.data.toList[k]? = some c := ⟨_, List.getElem?_eq_getElem (by rw [HSL.out]; exact hlt)⟩
      have hix := run_byte_at s k hlt c hc
      have hki : (k : Int) < (s.size : Int) := by omega
      have hk6 : k < 6 := by omega
      have HC := Lib.hid hc
      clear hc
      by_cases h1 : c.toNat < 97
      · have d1 : decide ((c.toNat : Int) < 97) = true := decide_eq_true (by omega)
        have HN := Lib.hid (HR.out.trans (all_no HC.out (decide_eq_false (by omega))))
        clear h1
        go_wp2_with fail
        go_ret
        exact ⟨ret_bool HN.out.symm, rfl⟩
      · have d1 : decide ((c.toNat : Int) < 97) = false := decide_eq_false (by omega)
        by_cases h2 : c.toNat ≤ 122
        · have d2 : decide ((c.toNat : Int) > 122) = false := decide_eq_false (by omega)
          have HL : Hid (lowB c = true) := Lib.hid (decide_eq_true (by omega))
          clear h1 h2
          go_wp2_with fail
          go_round
          case rel => exact ⟨k + 1, hlt, by go_num, Lib.hid (fun j x hj hx => by
            rcases Nat.lt_or_ge j k with h | h
            · exact HK.out j x h hx
            · obtain rfl : j = k := by omega
              have := HC.out.symm.trans hx
              cases this
              exact HL.out)⟩
          case measure => simp [Lib.intOf]; omega
        · have d2 : decide ((c.toNat : Int) > 122) = true := decide_eq_true (by omega)
          have HN := Lib.hid (HR.out.trans (all_no HC.out (decide_eq_false (by omega))))
          clear h1 h2
          go_wp2_with fail
          go_ret
          exact ⟨ret_bool HN.out.symm, rfl⟩
    · have hki : ¬ ((k : Int) < (s.size : Int)) := by omega
      have HN := Lib.hid (HR.out.trans (all_yes (l := s.data.toList) (fun j c hj hx => HK.out j c (by have := HSL.out; omega) hx)))
      go_wp2_with fail
      go_ret
      exact ⟨ret_bool HN.out.symm, rfl⟩

theorem endB_bad {v : Ver} (h : 6 < v.tag.data.toList.length ∨ v.tag.data.toList.all lowB = false ∨ v.step < 0 ∨ v.step > 999 ∨ (v.tag.data.toList = [] ∧ v.step ≠ 0)) : v.endB = false := by
  unfold Ver.endB tagB
  by_cases ht : v.tag.data.toList = []
  · rw [if_pos ht]
    rw [ht] at h
    have : v.step ≠ 0 := by
      rcases h with h | h | h | h | h
      · simp at h
      · simp at h
      · omega
      · omega
      · exact h.2
    exact decide_eq_false this
  · rw [if_neg ht]
    rcases h with h | h | h | h | h
    · rw [decide_eq_false (by omega)]
      rfl
    · rw [h]
      simp
    · have : decide (0 ≤ v.step ∧ v.step ≤ 999) = false := decide_eq_false (by omega)
      rw [this, Bool.and_false]
    · have : decide (0 ≤ v.step ∧ v.step ≤ 999) = false := decide_eq_false (by omega)
      rw [this, Bool.and_false]
    · exact absurd h.1 ht
theorem endB_good {v : Ver} (h1 : v.tag.data.toList.length ≤ 6) (h2 : v.tag.data.toList.all lowB = true) (h3 : ¬ v.step < 0) (h4 : ¬ v.step > 999) (h5 : v.tag.data.toList = [] → v.step = 0) : v.endB = true := by
  unfold Ver.endB tagB
  by_cases ht : v.tag.data.toList = []
  · rw [if_pos ht]
    exact decide_eq_true (h5 ht)
  · rw [if_neg ht, h2, decide_eq_true ⟨ht, h1⟩, decide_eq_true (by omega)]
    rfl
theorem ok_bad {v : Ver} (h : v.endB = false) : v.ok = false := by
  unfold Ver.ok
  rw [h, Bool.and_false]

set_option maxRecDepth 100000 in
set_option maxHeartbeats 4000000 in
theorem right_any (v : Ver) (w : World) : Calls Tryz.prog 21 #[.agg v.arr] w fun e w' => e = .returned (.bool v.ok) ∧ Below w.heap.size w w' := by
  have X : Box (w.alloc (.cells v.arr 45)) w.heap.size 45 v.arr := box_new
  obtain ⟨c0, c1, c2, c3, c4, c5, c6⟩ := X.ver
  have hB := Lib.hid (below_new w (.cells v.arr 45))
  clear X
  have hsl : v.tag.data.toList.length = v.tag.size := rfl
  by_cases hm1 : v.many < 1
  · have d1 : decide (v.many < 1) = true := decide_eq_true hm1
    have HN : Hid (v.ok = false) := Lib.hid (by unfold Ver.ok; rw [decide_eq_false (by omega)]; rfl)
    clear hm1 hsl
    go_enter Tryz.func21, Tryz.ntmps21
    go_wp2_with fail
    go_ret
    exact ⟨ret_bool HN.out.symm, hB.out⟩
  have d1 : decide (v.many < 1) = false := decide_eq_false hm1
  by_cases hm2 : v.many > 4
  · have d2 : decide (v.many > 4) = true := decide_eq_true hm2
    have HN : Hid (v.ok = false) := Lib.hid (by unfold Ver.ok; rw [decide_eq_false (by omega)]; rfl)
    clear hm1 hm2 hsl
    go_enter Tryz.func21, Tryz.ntmps21
    go_wp2_with fail
    go_ret
    exact ⟨ret_bool HN.out.symm, hB.out⟩
  have d2 : decide (v.many > 4) = false := decide_eq_false hm2
  by_cases hs6 : 6 < v.tag.size
  · have d3 : decide ((v.tag.size : Int) > 6) = true := decide_eq_true (by omega)
    have HN : Hid (v.ok = false) := Lib.hid (ok_bad (endB_bad (.inl hs6)))
    clear hm1 hm2 hs6 hsl
    go_enter Tryz.func21, Tryz.ntmps21
    go_wp2_with fail
    go_ret
    exact ⟨ret_bool HN.out.symm, hB.out⟩
  have d3 : decide ((v.tag.size : Int) > 6) = false := decide_eq_false (by omega)
  have HRL := Lib.hid (rletters_any v.tag (by omega))
  obtain ⟨r, hr⟩ : ∃ r, r = v.tag.data.toList.all lowB := ⟨_, rfl⟩
  rw [← hr] at HRL
  cases r with
  | false =>
    have HN : Hid (v.ok = false) := Lib.hid (ok_bad (endB_bad (.inr (.inl hr.symm))))
    clear hm1 hm2 hs6 hsl hr
    go_enter Tryz.func21, Tryz.ntmps21
    go_wp2_with fail
    refine (HRL.out _).mono ?_
    rintro e w1 ⟨rfl, rfl⟩
    go_wp2_with fail
    go_ret
    exact ⟨ret_bool HN.out.symm, hB.out⟩
  | true =>
  by_cases hs0 : v.step < 0
  · have d4 : decide (v.step < 0) = true := decide_eq_true hs0
    have HN : Hid (v.ok = false) := Lib.hid (ok_bad (endB_bad (.inr (.inr (.inl hs0)))))
    clear hm1 hm2 hs6 hsl hr hs0
    go_enter Tryz.func21, Tryz.ntmps21
    go_wp2_with fail
    refine (HRL.out _).mono ?_
    rintro e w1 ⟨rfl, rfl⟩
    go_wp2_with fail
    go_ret
    exact ⟨ret_bool HN.out.symm, hB.out⟩
  have d4 : decide (v.step < 0) = false := decide_eq_false hs0
  by_cases hs9 : v.step > 999
  · have d5 : decide (v.step > 999) = true := decide_eq_true hs9
    have HN : Hid (v.ok = false) := Lib.hid (ok_bad (endB_bad (.inr (.inr (.inr (.inl hs9))))))
    clear hm1 hm2 hs6 hsl hr hs0 hs9
    go_enter Tryz.func21, Tryz.ntmps21
    go_wp2_with fail
    refine (HRL.out _).mono ?_
    rintro e w1 ⟨rfl, rfl⟩
    go_wp2_with fail
    go_ret
    exact ⟨ret_bool HN.out.symm, hB.out⟩
  have d5 : decide (v.step > 999) = false := decide_eq_false hs9
  by_cases hbad : v.tag.toList = [] ∧ v.step ≠ 0
  · obtain ⟨ht, hz⟩ := hbad
    have hte := isEmpty_yes ht
    have d6 : (v.step != 0) = true := by simp [hz]
    have HN : Hid (v.ok = false) := Lib.hid (ok_bad (endB_bad (.inr (.inr (.inr (.inr ⟨by rw [← Lib.toList_data]; exact ht, hz⟩))))))
    clear hm1 hm2 hs6 hsl hr hs0 hs9 ht hz
    go_enter Tryz.func21, Tryz.ntmps21
    go_wp2_with fail
    refine (HRL.out _).mono ?_
    rintro e w1 ⟨rfl, rfl⟩
    go_wp2_with fail
    go_ret
    exact ⟨ret_bool HN.out.symm, hB.out⟩
  have HE : Hid (v.ok = v.numsB) := Lib.hid (by
    have he : v.endB = true := endB_good (by omega) hr.symm hs0 hs9 (fun h => by
      by_cases hz : v.step = 0
      · exact hz
      · exact absurd ⟨by rw [Lib.toList_data]; exact h, hz⟩ hbad)
    unfold Ver.ok
    rw [he, decide_eq_true ⟨by omega, by omega⟩, Bool.and_true, Bool.true_and])
  have hk4 : v.many ≤ 4 := by omega
  clear hs6 hsl hr hs0 hs9
  go_enter Tryz.func21, Tryz.ntmps21
  go_wp2_with fail
  refine (HRL.out _).mono ?_
  rintro e w1 ⟨rfl, rfl⟩
  by_cases ht : v.tag.toList = []
  · have hte := isEmpty_yes ht
    have d6 : (v.step != 0) = false := by
      by_cases hz : v.step = 0
      · simp [hz]
      · exact absurd ⟨ht, hz⟩ hbad
    clear hbad ht
    go_wp2_with fail
    go_loop [3, 4, 47, 48, 49, 50, 51, 52, 53, 54, 55, 56, 57, 58, 59, 60, 61, 62, 63, 64, 65, 66, 67] (fun _ _ i _ _ _ _ _ _ _ _ _ _ _ _ _ _ _ _ _ _ _ _ => ∃ k : Nat, k ≤ 4 ∧ i = .int .i64 k ∧ Hid (∀ j, j < k → numB v.many j (v.num j) = true)) (fun _ _ i _ _ _ _ _ _ _ _ _ _ _ _ _ _ _ _ _ _ _ _ => 4 - (Lib.intOf i).toNat)
    case atStart => exact ⟨0, Nat.zero_le _, rfl, Lib.hid (fun j hj => absurd hj (Nat.not_lt_zero _))⟩
    case round =>
      obtain ⟨k, hk, rfl, HK⟩ := hrel
      by_cases hlt : k < 4
      · have hix := run_index_arr (P := Tryz.prog) Tryz.underlying43 Tryz.isAgg3 Tryz.sizeOf3 hlt (num_get v k hlt)
        have k4 : (k : Int) < 4 := by omega
        by_cases hn : numB v.many k (v.num k) = true
        · have hn' : 0 ≤ v.num k ∧ v.num k ≤ 9999 ∧ ((k : Int) < v.many ∨ v.num k = 0) := of_decide_eq_true hn
          have HN := Lib.hid hn
          generalize v.num k = x at hix hn'
          obtain ⟨x1, x2, x3⟩ := hn'
          have e1 : decide (x < 0) = false := decide_eq_false (by omega)
          have e2 : decide (x > 9999) = false := decide_eq_false (by omega)
          clear hn
          by_cases hkm : (k : Int) < v.many
          · have e3 : decide ((k : Int) ≥ v.many) = false := decide_eq_false (by omega)
            clear x3
            go_wp2_with fail
            go_round
            case rel => exact ⟨k + 1, hlt, by go_num, Lib.hid (fun j hj => by
              rcases Nat.lt_or_ge j k with h | h
              · exact HK.out j h
              · obtain rfl : j = k := by omega
                exact HN.out)⟩
            case measure => simp [Lib.intOf]; omega
          · have e3 : decide ((k : Int) ≥ v.many) = true := decide_eq_true (by omega)
            have e4 : (x != 0) = false := by simp; omega
            clear x3
            go_wp2_with fail
            go_round
            case rel => exact ⟨k + 1, hlt, by go_num, Lib.hid (fun j hj => by
              rcases Nat.lt_or_ge j k with h | h
              · exact HK.out j h
              · obtain rfl : j = k := by omega
                exact HN.out)⟩
            case measure => simp [Lib.intOf]; omega
        · have hn' : ¬ (0 ≤ v.num k ∧ v.num k ≤ 9999 ∧ ((k : Int) < v.many ∨ v.num k = 0)) := fun h => hn (decide_eq_true h)
          have HN : Hid (v.ok = false) := Lib.hid (by rw [HE.out, nums_no v k hlt (Bool.eq_false_iff.2 hn)])
          generalize v.num k = x at hix hn'
          clear hn
          by_cases e1 : x < 0
          · have e1' : decide (x < 0) = true := decide_eq_true e1
            go_wp2_with fail
            go_ret
            exact ⟨ret_bool HN.out.symm, hB.out⟩
          · have e1' : decide (x < 0) = false := decide_eq_false e1
            by_cases e2 : x > 9999
            · have e2' : decide (x > 9999) = true := decide_eq_true e2
              go_wp2_with fail
              go_ret
              exact ⟨ret_bool HN.out.symm, hB.out⟩
            · have e2' : decide (x > 9999) = false := decide_eq_false e2
              have e3 : decide ((k : Int) ≥ v.many) = true := decide_eq_true (by omega)
              have e4 : (x != 0) = true := by simp; omega
              clear hn'
              go_wp2_with fail
              go_ret
              exact ⟨ret_bool HN.out.symm, hB.out⟩
      · obtain rfl : k = 4 := by omega
        have HO : Hid (v.ok = true) := Lib.hid (by rw [HE.out]; exact nums_yes v HK.out)
        go_wp2_with fail
        go_ret
        exact ⟨ret_bool HO.out.symm, hB.out⟩
  · have hte := isEmpty_no ht
    clear hbad ht
    go_wp2_with fail
    go_loop [3, 4, 47, 48, 49, 50, 51, 52, 53, 54, 55, 56, 57, 58, 59, 60, 61, 62, 63, 64, 65, 66, 67] (fun _ _ i _ _ _ _ _ _ _ _ _ _ _ _ _ _ _ _ _ _ _ _ => ∃ k : Nat, k ≤ 4 ∧ i = .int .i64 k ∧ Hid (∀ j, j < k → numB v.many j (v.num j) = true)) (fun _ _ i _ _ _ _ _ _ _ _ _ _ _ _ _ _ _ _ _ _ _ _ => 4 - (Lib.intOf i).toNat)
    case atStart => exact ⟨0, Nat.zero_le _, rfl, Lib.hid (fun j hj => absurd hj (Nat.not_lt_zero _))⟩
    case round =>
      obtain ⟨k, hk, rfl, HK⟩ := hrel
      by_cases hlt : k < 4
      · have hix := run_index_arr (P := Tryz.prog) Tryz.underlying43 Tryz.isAgg3 Tryz.sizeOf3 hlt (num_get v k hlt)
        have k4 : (k : Int) < 4 := by omega
        by_cases hn : numB v.many k (v.num k) = true
        · have hn' : 0 ≤ v.num k ∧ v.num k ≤ 9999 ∧ ((k : Int) < v.many ∨ v.num k = 0) := of_decide_eq_true hn
          have HN := Lib.hid hn
          generalize v.num k = x at hix hn'
          obtain ⟨x1, x2, x3⟩ := hn'
          have e1 : decide (x < 0) = false := decide_eq_false (by omega)
          have e2 : decide (x > 9999) = false := decide_eq_false (by omega)
          clear hn
          by_cases hkm : (k : Int) < v.many
          · have e3 : decide ((k : Int) ≥ v.many) = false := decide_eq_false (by omega)
            clear x3
            go_wp2_with fail
            go_round
            case rel => exact ⟨k + 1, hlt, by go_num, Lib.hid (fun j hj => by
              rcases Nat.lt_or_ge j k with h | h
              · exact HK.out j h
              · obtain rfl : j = k := by omega
                exact HN.out)⟩
            case measure => simp [Lib.intOf]; omega
          · have e3 : decide ((k : Int) ≥ v.many) = true := decide_eq_true (by omega)
            have e4 : (x != 0) = false := by simp; omega
            clear x3
            go_wp2_with fail
            go_round
            case rel => exact ⟨k + 1, hlt, by go_num, Lib.hid (fun j hj => by
              rcases Nat.lt_or_ge j k with h | h
              · exact HK.out j h
              · obtain rfl : j = k := by omega
                exact HN.out)⟩
            case measure => simp [Lib.intOf]; omega
        · have hn' : ¬ (0 ≤ v.num k ∧ v.num k ≤ 9999 ∧ ((k : Int) < v.many ∨ v.num k = 0)) := fun h => hn (decide_eq_true h)
          have HN : Hid (v.ok = false) := Lib.hid (by rw [HE.out, nums_no v k hlt (Bool.eq_false_iff.2 hn)])
          generalize v.num k = x at hix hn'
          clear hn
          by_cases e1 : x < 0
          · have e1' : decide (x < 0) = true := decide_eq_true e1
            go_wp2_with fail
            go_ret
            exact ⟨ret_bool HN.out.symm, hB.out⟩
          · have e1' : decide (x < 0) = false := decide_eq_false e1
            by_cases e2 : x > 9999
            · have e2' : decide (x > 9999) = true := decide_eq_true e2
              go_wp2_with fail
              go_ret
              exact ⟨ret_bool HN.out.symm, hB.out⟩
            · have e2' : decide (x > 9999) = false := decide_eq_false e2
              have e3 : decide ((k : Int) ≥ v.many) = true := decide_eq_true (by omega)
              have e4 : (x != 0) = true := by simp; omega
              clear hn'
              go_wp2_with fail
              go_ret
              exact ⟨ret_bool HN.out.symm, hB.out⟩
      · obtain rfl : k = 4 := by omega
        have HO : Hid (v.ok = true) := Lib.hid (by rw [HE.out]; exact nums_yes v HK.out)
        go_wp2_with fail
        go_ret
        exact ⟨ret_bool HO.out.symm, hB.out⟩
end Go.Proofs.YtlfehjjnepiljaaGreatDoor

namespace Go.Proofs.YtlfehjjnepiljaaGreatDoor
open Go.RowKit Go.Shelf

/-- The version without its tag and step. -/
def Ver.bare (v : Ver) : Ver := ⟨v.n0, v.n1, v.n2, v.n3, v.many, ⟨#[]⟩, 0⟩
theorem num_bare (v : Ver) (j : Nat) : v.bare.num j = v.num j := rfl
/-- The first place at which two versions differ tells. -/
theorem ahead_at {w n : Ver} (k : Nat) (hk : k < 4) (h0 : ∀ j, j < k → w.num j = n.num j) (h : w.num k < n.num k) : cmpV w n = -1 := by
  have e : numC w n k = -1 := by
    unfold numC Lib.compareInt
    rw [if_pos h]
  have z : ∀ j, j < k → numC w n j = 0 := fun j hj => by
    unfold numC
    rw [h0 j hj]
    exact good_int.zero _
  have f : firstC (numC w n) = -1 := (firstC_at _ k hk z (by rw [e]; decide)).trans e
  have g := firstC_at (fun j => if j = 0 then firstC (numC w n) else if j = 1 then tagC w.tag n.tag else if j = 2 then Lib.compareInt w.step n.step else Lib.compareInt w.many n.many) 0 (by omega) (fun j hj => absurd hj (by omega)) (by simp [f])
  unfold cmpV
  rw [g]
  simpa using f
theorem ok_cut {v : Ver} (h : v.ok = true) {j : Nat} (hj : j < 4) (hm : v.many ≤ (j : Int)) : v.num j = 0 := by
  unfold Ver.ok Ver.numsB at h
  simp only [Bool.and_eq_true] at h
  obtain ⟨⟨_, ⟨⟨h0, h1⟩, h2⟩, h3⟩, _⟩ := h
  have f : ∀ {i : Nat} {x : Int}, numB v.many i x = true → v.many ≤ (i : Int) → x = 0 := fun hx hi => by
    have := (of_decide_eq_true hx).2.2
    omega
  rcases (by omega : j = 0 ∨ j = 1 ∨ j = 2 ∨ j = 3) with rfl | rfl | rfl | rfl
  · exact f h0 hm
  · exact f h1 hm
  · exact f h2 hm
  · exact f h3 hm
/-- A version of numbers alone may be. -/
theorem ok_plain {v : Ver} (h1 : 1 ≤ v.many) (h4 : v.many ≤ 4) (hn : ∀ j, j < 4 → 0 ≤ v.num j ∧ v.num j ≤ 9999 ∧ ((j : Int) < v.many ∨ v.num j = 0)) (ht : v.tag = ⟨#[]⟩) (hs : v.step = 0) : v.ok = true := by
  have e : v.endB = true := by
    unfold Ver.endB
    rw [if_pos (by rw [ht]), hs]
    rfl
  have n : v.numsB = true := nums_yes v fun j hj => decide_eq_true (hn j hj)
  unfold Ver.ok
  rw [n, e, decide_eq_true ⟨h1, h4⟩]
  rfl
theorem ver_nums {a b : Ver} (h : ∀ j, j < 4 → a.num j = b.num j) (hm : a.many = b.many) (ht : a.tag = b.tag) (hs : a.step = b.step) : a = b :=
  (ver_eq a b).2 ⟨⟨h 0 (by omega), h 1 (by omega), h 2 (by omega), h 3 (by omega)⟩, hm, ht, hs⟩
theorem num_first_out (v : Ver) (k j : Nat) (hj : k ≤ j) (h4 : j < 4) : (v.first k).num j = 0 := by
  rcases (by omega : j = 0 ∨ j = 1 ∨ j = 2 ∨ j = 3) with rfl | rfl | rfl | rfl <;> simp [Ver.num, Ver.first] <;> omega
theorem num_incr (v : Ver) (k j : Nat) (hk : k < 4) (hj : j < 4) : (v.incr k).num j = if j = k then v.num j + 1 else v.num j := by
  rcases (by omega : j = 0 ∨ j = 1 ∨ j = 2 ∨ j = 3) with rfl | rfl | rfl | rfl <;> rcases (by omega : k = 0 ∨ k = 1 ∨ k = 2 ∨ k = 3) with rfl | rfl | rfl | rfl <;> simp [Ver.num, Ver.incr]

theorem bare_ok {v : Ver} (h : v.ok = true) : v.bare.ok = true := by
  obtain ⟨h1, h4⟩ := ok_many h
  refine ok_plain h1 h4 (fun j hj => ?_) rfl rfl
  have a := ok_num h hj
  have b := @ok_cut v h j hj
  have c : v.bare.many = v.many := rfl
  rw [num_bare, c]
  omega
theorem first_bare {v : Ver} (h : v.ok = true) : v.first v.many.toNat = v.bare := by
  obtain ⟨h1, h4⟩ := ok_many h
  refine ver_nums (fun j hj => ?_) (by show ((v.many.toNat : Nat) : Int) = v.many; omega) rfl rfl
  rw [num_bare]
  by_cases hm : j < v.many.toNat
  · exact num_first v _ j hm (by omega)
  · rw [num_first_out v _ j (by omega) hj, ok_cut h hj (by omega)]
/-- The version behind it, where there is one. -/
def Ver.next (v : Ver) : Ver := (v.first v.many.toNat).incr (v.many.toNat - 1)
theorem next_num {v : Ver} (h : v.ok = true) {j : Nat} (hj : j < 4) : v.next.num j = if j = v.many.toNat - 1 then v.num j + 1 else v.num j := by
  obtain ⟨h1, h4⟩ := ok_many h
  unfold Ver.next
  rw [num_incr _ _ _ (by omega) hj, first_bare h, num_bare]
theorem next_many {v : Ver} (h : v.ok = true) : v.next.many = v.many := by
  obtain ⟨h1, h4⟩ := ok_many h
  show ((v.many.toNat : Nat) : Int) = v.many
  omega
theorem next_ok {v : Ver} (h : v.ok = true) (h9 : v.num (v.many.toNat - 1) ≠ 9999) : v.next.ok = true := by
  obtain ⟨h1, h4⟩ := ok_many h
  have e := next_many h
  refine ok_plain (by omega) (by omega) (fun j hj => ?_) rfl rfl
  have a := ok_num h hj
  have b := @ok_cut v h j hj
  rw [next_num h hj, e]
  split
  · rename_i hjk
    subst hjk
    omega
  · omega
/-- Whatever has its numbers stands ahead of the one behind it. -/
theorem next_ahead {v w : Ver} (h : v.ok = true) (hw : w.ok = true) (h9 : v.num (v.many.toNat - 1) ≠ 9999) (hs : ∀ j, j < v.many.toNat → w.num j = v.num j) : cmpW w v.next = -1 := by
  obtain ⟨h1, h4⟩ := ok_many h
  unfold cmpW
  rw [hw, next_ok h h9]
  simp only [if_true]
  refine ahead_at (v.many.toNat - 1) (by omega) (fun j hj => ?_) ?_
  · rw [hs j (by omega), next_num h (by omega), if_neg (by omega)]
  · rw [hs _ (by omega), next_num h (by omega), if_pos rfl]
    omega
theorem begins_bare {v : Ver} (h : v.ok = true) : v.begins v.bare = true := by
  unfold Ver.begins
  rw [if_pos ⟨h, bare_ok h, by show ¬ v.many < v.many; omega⟩]
  exact decide_eq_true (first_bare h)
theorem begins_has {v w : Ver} (hb : w.begins v.bare = true) : w.ok = true ∧ ∀ j, j < v.many.toNat → w.num j = v.num j := by
  unfold Ver.begins at hb
  split at hb
  · rename_i hc
    obtain ⟨hw, hv, hm⟩ := hc
    refine ⟨hw, fun j hj => ?_⟩
    have e : w.first v.many.toNat = v.bare := of_decide_eq_true hb
    have h4 := (ok_many hv).2
    have h4' : v.many ≤ 4 := h4
    rw [← num_bare v j, ← e]
    exact (num_first w _ j hj (by omega)).symm
  · cases hb
theorem next_not {v : Ver} (h : v.ok = true) : v.next.begins v.bare = false := by
  obtain ⟨h1, h4⟩ := ok_many h
  cases hb : v.next.begins v.bare with
  | false => rfl
  | true =>
    have := (begins_has hb).2 (v.many.toNat - 1) (by omega)
    rw [next_num h (by omega), if_pos rfl] at this
    omega
end Go.Proofs.YtlfehjjnepiljaaGreatDoor

namespace Go.Proofs.YtlfehjjnepiljaaGreatDoor
open Go.RowKit Go.Shelf

theorem Two.drewN {a b : Ver} {ga gb : Nat} {w w' : World} (h : Two a b ga gb w w') (n : Nat) : Two a b ga gb w (w'.drewN n) := ⟨h.l.drewN n, h.r.drewN n, below_drewN h.low n⟩
def Rights (v : Ver) (o : Bool) : Prop := ∀ W, Calls Tryz.prog 21 #[.agg v.arr] W fun e w' => e = .returned (.bool o) ∧ Below W.heap.size W w'
theorem rights_of {v : Ver} {o : Bool} (h : o = v.ok) : Rights v o := fun W => by
  subst h
  exact right_any v W
theorem ok_step {p : Ver} (h : p.ok = true) (ht : p.tag.data.toList = []) : p.step = 0 := by
  unfold Ver.ok Ver.endB at h
  rw [if_pos ht] at h
  simp only [Bool.and_eq_true, decide_eq_true_eq] at h
  exact h.2
theorem begins_yes {v p : Ver} (hv : v.ok = true) (hp : p.ok = true) (ht : p.tag.data.toList = []) (hm : ¬ v.many < p.many) (h : ∀ j, j < p.many.toNat → v.num j = p.num j) : v.begins p = true := by
  obtain ⟨h1, h4⟩ := ok_many hp
  unfold Ver.begins
  rw [if_pos ⟨hv, hp, hm⟩]
  refine decide_eq_true (ver_nums (fun j hj => ?_) (by show ((p.many.toNat : Nat) : Int) = p.many; omega) (ba_empty _ ht).symm (ok_step hp ht).symm)
  by_cases hjm : j < p.many.toNat
  · rw [num_first v _ j hjm (by omega)]
    exact h j hjm
  · rw [num_first_out v _ j (by omega) hj, ok_cut hp hj (by omega)]
theorem begins_no {v p : Ver} (h : v.ok = false ∨ p.ok = false ∨ p.tag.data.toList ≠ [] ∨ v.many < p.many ∨ ∃ j, j < p.many.toNat ∧ v.num j ≠ p.num j) : v.begins p = false := by
  unfold Ver.begins
  split
  · rename_i hc
    obtain ⟨hv, hp, hm⟩ := hc
    refine decide_eq_false fun e => ?_
    have h4 := (ok_many hp).2
    rcases h with h | h | h | h | ⟨j, hj, h⟩
    · rw [hv] at h
      cases h
    · rw [hp] at h
      cases h
    · refine h ?_
      rw [← e]
      rfl
    · exact hm h
    · refine h ?_
      rw [← num_first v _ j hj (by omega), e]
  · rfl

set_option maxRecDepth 100000 in
set_option maxHeartbeats 400000 in
theorem rbegins_any (v p : Ver) (w : World) : Calls Tryz.prog 70 #[.agg v.arr, .agg p.arr] w fun e w' => e = .returned (.bool (v.begins p)) ∧ Below w.heap.size w w' := by
  have X1 : Box ((w.alloc (.cells v.arr 45)).alloc (.cells p.arr 45)) w.heap.size 45 v.arr := box_new.alloc _
  have X2 : Box ((w.alloc (.cells v.arr 45)).alloc (.cells p.arr 45)) (w.heap.size + 1) 45 p.arr := heap_alloc2_new w _ _
  have k0 : Two v p w.heap.size (w.heap.size + 1) w ((w.alloc (.cells v.arr 45)).alloc (.cells p.arr 45)) := ⟨X1.ver, X2.ver, ((Below.refl w.heap.size w).alloc (Nat.le_refl _) (.cells v.arr 45)).alloc (by simp) (.cells p.arr 45)⟩
  obtain ⟨p0, p1, p2, p3, p4, p5, p6⟩ := k0.l
  have HK := Lib.hid k0
  clear k0 X1 X2
  obtain ⟨r, hr⟩ : ∃ r, r = v.begins p := ⟨_, rfl⟩
  obtain ⟨o, ho⟩ : ∃ o, o = v.ok := ⟨_, rfl⟩
  obtain ⟨oa, hoa⟩ : ∃ o, o = p.ok := ⟨_, rfl⟩
  have HA := Lib.hid (rights_of ho)
  have HB := Lib.hid (rights_of hoa)
  rw [← hr]
  cases o with
  | false =>
    have HR : Hid (r = false) := Lib.hid (hr.trans (begins_no (.inl ho.symm)))
    clear ho hoa hr
    go_enter Tryz.func70, Tryz.ntmps70
    go_wp2_with fail
    refine (HA.out _).mono ?_
    rintro e w1 ⟨rfl, hb⟩
    have H1 := Lib.hid (HK.out.on hb)
    clear hb
    go_wp2_with fail
    go_ret
    exact ⟨ret_bool HR.out.symm, H1.out.low⟩
  | true =>
  cases oa with
  | false =>
    have HR : Hid (r = false) := Lib.hid (hr.trans (begins_no (.inr (.inl hoa.symm))))
    clear ho hoa hr
    go_enter Tryz.func70, Tryz.ntmps70
    go_wp2_with fail
    refine (HA.out _).mono ?_
    rintro e w1 ⟨rfl, hb⟩
    have H1 := Lib.hid (HK.out.on hb)
    clear hb p0 p1 p2 p3 p4 p5 p6
    obtain ⟨q0, q1, q2, q3, q4, q5, q6⟩ := H1.out.r
    go_wp2_with fail
    refine (HB.out _).mono ?_
    rintro e w2 ⟨rfl, hb⟩
    have H2 := Lib.hid (H1.out.on hb)
    clear hb q0 q1 q2 q3 q4 q5 q6
    go_wp2_with fail
    go_ret
    exact ⟨ret_bool HR.out.symm, H2.out.low⟩
  | true =>
    have hmm := ok_many hoa.symm
    obtain ⟨m, hm⟩ : ∃ m : Nat, p.many = (m : Int) := ⟨p.many.toNat, by omega⟩
    have hmt : p.many.toNat = m := by omega
    have hm1 : 1 ≤ m := by omega
    have hm4 : m ≤ 4 := by omega
    have HNO : Hid (∀ j, j < m → v.num j ≠ p.num j → r = false) := Lib.hid (fun j hj hne => hr.trans (begins_no (.inr (.inr (.inr (.inr ⟨j, by omega, hne⟩))))))
    have HALL := Lib.hid (And.intro hr (And.intro ho (And.intro hoa (And.intro hm (And.intro hmt (And.intro hm1 hm4))))))
    clear hr ho hoa hmm hm hmt hm1 hm4
    go_enter Tryz.func70, Tryz.ntmps70
    go_wp2_with fail
    refine (HA.out _).mono ?_
    rintro e w1 ⟨rfl, hb⟩
    have H1 := Lib.hid (HK.out.on hb)
    clear hb p0 p1 p2 p3 p4 p5 p6
    obtain ⟨q0, q1, q2, q3, q4, q5, q6⟩ := H1.out.r
    go_wp2_with fail
    refine (HB.out _).mono ?_
    rintro e w2 ⟨rfl, hb⟩
    have H2 := Lib.hid (H1.out.on hb)
    clear hb q0 q1 q2 q3 q4 q5 q6
    obtain ⟨hr, ho, hoa, hm, hmt, hm1, hm4⟩ := HALL.out
    clear HALL
    obtain ⟨p0, p1, p2, p3, p4, p5, p6⟩ := H2.out.l
    obtain ⟨q0, q1, q2, q3, q4, q5, q6⟩ := H2.out.r
    rw [hm] at q4
    by_cases ht : p.tag.toList = []
    · have hte := isEmpty_yes ht
      have htd : p.tag.data.toList = [] := by rw [← Lib.toList_data]; exact ht
      by_cases hlt : v.many < p.many
      · have HR : Hid (r = false) := Lib.hid (hr.trans (begins_no (.inr (.inr (.inr (.inl hlt))))))
        rw [hm] at hlt
        have d1 : decide ((m : Int) > v.many) = true := decide_eq_true (by omega)
        clear ho hoa hr hm hmt hlt ht htd HNO
        go_wp2_with fail
        go_ret
        exact ⟨ret_bool HR.out.symm, H2.out.low⟩
      · have HYES : Hid ((∀ j, j < m → v.num j = p.num j) → r = true) := Lib.hid (fun h => hr.trans (begins_yes ho.symm hoa.symm htd hlt (by rw [hmt]; exact h)))
        rw [hm] at hlt
        have d1 : decide ((m : Int) > v.many) = false := decide_eq_false (by omega)
        clear ho hoa hr hm hmt hlt ht htd
        go_wp2_with fail
        clear p0 p1 p2 p3 p4 p5 p6 q0 q1 q2 q3 q4 q5 q6 hte d1
        go_loopw [5, 28, 29, 30, 31, 32, 33, 34, 35, 36, 37, 38, 39, 40] (fun _ i _ _ _ _ _ _ _ _ _ _ _ _ w' => ∃ k : Nat, k ≤ m ∧ i = .int .i64 k ∧ Hid (∀ j, j < k → v.num j = p.num j) ∧ Hid (Two v p w.heap.size (w.heap.size + 1) w w')) (fun _ i _ _ _ _ _ _ _ _ _ _ _ _ _ => m - (Lib.intOf i).toNat)
        case atStart => exact ⟨0, Nat.zero_le _, rfl, Lib.hid (fun j hj => absurd hj (Nat.not_lt_zero _)), H2⟩
        case round =>
          obtain ⟨k, hk, rfl, HE, HT⟩ := hrel
          by_cases hlt : k < m
          · have k1 : (k : Int) < (m : Int) := by omega
            have k2 : k < 4 := by omega
            have k3 : (k : Int) < 4 := by omega
            have k5 : (0 : Int) ≤ (k : Int) := by omega
            have cv := HT.out.l.num k2
            have cp := HT.out.r.num k2
            have HNX : Hid (v.num k ≠ p.num k → r = false) := Lib.hid (HNO.out k hlt)
            have HEX : Hid (v.num k = p.num k → ∀ j, j < k + 1 → v.num j = p.num j) := Lib.hid (fun he j hj => by
              rcases Nat.lt_or_ge j k with h | h
              · exact HE.out j h
              · obtain rfl : j = k := by omega
                exact he)
            generalize v.num k = x at cv HNX HEX
            generalize p.num k = y at cp HNX HEX
            by_cases hxy : x = y
            · have e1 : (x != y) = false := by simp [hxy]
              have HEY := Lib.hid (HEX.out hxy)
              clear hxy
              go_wp2_with fail
              go_region
              go_wp2_with fail
              go_roundw
              case rel => exact ⟨k + 1, hlt, by go_num, HEY, Lib.hid HT.out.drew⟩
              case measure => simp [Lib.intOf]; omega
            · have e1 : (x != y) = true := by simp [hxy]
              have HR := Lib.hid (HNX.out hxy)
              clear hxy
              go_wp2_with fail
              go_region
              go_wp2_with fail
              go_ret
              exact ⟨ret_bool HR.out.symm, HT.out.drew.low⟩
          · have k1 : ¬ ((k : Int) < (m : Int)) := by omega
            have HR : Hid (r = true) := Lib.hid (HYES.out (fun j hj => HE.out j (by omega)))
            go_wp2_with fail
            go_ret
            exact ⟨ret_bool HR.out.symm, HT.out.low⟩
    · have hte := isEmpty_no ht
      have HR : Hid (r = false) := Lib.hid (hr.trans (begins_no (.inr (.inr (.inl (by rw [← Lib.toList_data]; exact ht))))))
      clear ho hoa hr hm hmt ht HNO
      go_wp2_with fail
      go_ret
      exact ⟨ret_bool HR.out.symm, H2.out.low⟩
end Go.Proofs.YtlfehjjnepiljaaGreatDoor
