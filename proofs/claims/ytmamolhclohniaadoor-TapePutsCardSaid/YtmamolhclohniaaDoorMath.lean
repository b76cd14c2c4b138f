/- Plain words on rows of numbers and texts: digits, what a part says, what is taken of a text. Nothing of the program stands here. -/
import Derived.Lib.ItoaLen
namespace Go.Proofs.YtmamolhclohniaaDoor

abbrev Str := List UInt8

structure Part where
  isText : Bool
  num : Nat
  text : Str

def dgB (c : UInt8) : Bool := decide (48 ≤ c.toNat ∧ c.toNat ≤ 57)
def valF (n : Nat) (c : UInt8) : Nat := 10 * n + (c.toNat - 48)
def val (l : Str) : Nat := l.foldl valF 0
/-- A nought ahead of another digit, or a number of 2^64 or more. -/
def badB (ds : Str) : Bool := (decide (1 < ds.length) && decide (ds.head? = some 48)) || decide (18446744073709551616 ≤ val ds)
def rightB (p : Part) : Bool := (p.isText && decide (p.num = 0)) || (!p.isText && decide (p.text = []))
def saysL (p : Part) : Str := if p.isText then Lib.decDigits p.text.length ++ 58 :: p.text else Lib.decDigits p.num ++ [59]
def rowL (l : List Part) : Str := l.flatMap saysL

inductive Taken
  | ok (p : Part) (rest : Str)
  | no (e : Int)

def takeR (l : Str) : Taken :=
  if badB (l.takeWhile dgB) then .no 120
  else match l.dropWhile dgB with
    | [] => .no 7
    | c :: rest =>
      if l.takeWhile dgB = [] then .no 120
      else if c = 59 then .ok ⟨false, val (l.takeWhile dgB), []⟩ rest
      else if c = 58 then (if val (l.takeWhile dgB) ≤ rest.length then .ok ⟨true, 0, rest.take (val (l.takeWhile dgB))⟩ (rest.drop (val (l.takeWhile dgB))) else .no 7)
      else .no 120

/-! ### Digits -/
theorem val_snoc (l : Str) (c : UInt8) : val (l ++ [c]) = 10 * val l + (c.toNat - 48) := by simp [val, valF]
theorem val_nil : val [] = 0 := rfl

theorem dec_unf (n : Nat) (h : ¬ n < 10) : Lib.decDigits n = Lib.decDigits (n / 10) ++ [UInt8.ofNat (48 + n % 10)] := by rw [Lib.decDigits, dif_neg h]

theorem ofNat_dg (k : Nat) (h : k < 10) : (UInt8.ofNat (48 + k)).toNat = 48 + k := by
  rw [UInt8.toNat_ofNat']; omega

theorem dgB_of (c : UInt8) {k : Nat} (h : c.toNat = 48 + k) (hk : k < 10) : dgB c = true := by
  unfold dgB
  exact decide_eq_true (by omega)

theorem dec_all (n : Nat) : ∀ c ∈ Lib.decDigits n, dgB c = true := by
  induction n using Nat.strongRecOn with
  | ind n ih =>
    by_cases h : n < 10
    · rw [Lib.decDigits_one h]
      intro c hc
      obtain rfl := List.mem_singleton.1 hc
      exact dgB_of _ (ofNat_dg n h) h
    · rw [dec_unf n h]
      intro c hc
      rcases List.mem_append.1 hc with hc | hc
      · exact ih _ (by omega) c hc
      · obtain rfl := List.mem_singleton.1 hc
        exact dgB_of _ (ofNat_dg (n % 10) (by omega)) (by omega)

theorem dec_val (n : Nat) : val (Lib.decDigits n) = n := by
  induction n using Nat.strongRecOn with
  | ind n ih =>
    by_cases h : n < 10
    · rw [Lib.decDigits_one h]
      have := ofNat_dg n h
      simp only [val, valF, List.foldl_cons, List.foldl_nil]
      omega
    · rw [dec_unf n h, val_snoc, ih _ (by omega), ofNat_dg (n % 10) (by omega)]
      omega

theorem dec_ne (n : Nat) : Lib.decDigits n ≠ [] := by
  by_cases h : n < 10
  · rw [Lib.decDigits_one h]; simp
  · rw [dec_unf n h]; simp

theorem dec_head (n : Nat) (h : 0 < n) : (Lib.decDigits n).head? ≠ some 48 := by
  induction n using Nat.strongRecOn with
  | ind n ih =>
    by_cases h1 : n < 10
    · rw [Lib.decDigits_one h1]
      simp only [List.head?_cons, ne_eq, Option.some.injEq]
      intro e
      have := ofNat_dg n h1
      rw [e] at this
      have h2 : (48 : UInt8).toNat = 48 := rfl
      omega
    · rw [dec_unf n h1, List.head?_append]
      have := ih (n / 10) (by omega) (by omega)
      cases k : (Lib.decDigits (n / 10)) with
      | nil => exact absurd k (dec_ne _)
      | cons a b => rw [k] at this; simpa using this

theorem dec_len_one (n : Nat) (h : n = 0) : (Lib.decDigits n).length = 1 := by subst h; rw [Lib.decDigits_one (by omega)]; rfl

theorem dec_good (n : Nat) (h : n < 18446744073709551616) : badB (Lib.decDigits n) = false := by
  unfold badB
  rw [dec_val]
  have e : decide (18446744073709551616 ≤ n) = false := decide_eq_false (by omega)
  rw [e, Bool.or_false]
  by_cases h0 : n = 0
  · have : decide (1 < (Lib.decDigits n).length) = false := decide_eq_false (by rw [dec_len_one n h0]; omega)
    rw [this]; rfl
  · have : decide ((Lib.decDigits n).head? = some 48) = false := decide_eq_false (dec_head n (by omega))
    rw [this, Bool.and_false]

theorem dec_of_val (ds : Str) (h0 : ds ≠ []) (hd : ∀ c ∈ ds, dgB c = true) (hh : ds.length = 1 ∨ ds.head? ≠ some 48) : Lib.decDigits (val ds) = ds ∧ (ds.head? ≠ some 48 → 0 < val ds) := by
  obtain ⟨n, hn⟩ : ∃ n, n = ds.length := ⟨_, rfl⟩
  induction n generalizing ds with
  | zero => exact absurd (List.eq_nil_of_length_eq_zero hn.symm) h0
  | succ n ih =>
    obtain ⟨a, c, rfl⟩ : ∃ a c, ds = a ++ [c] := ⟨_, _, (List.dropLast_concat_getLast h0).symm⟩
    have hc : 48 ≤ c.toNat ∧ c.toNat ≤ 57 := by
      have := hd c (by simp)
      simpa [dgB] using this
    have ec : UInt8.ofNat (48 + (c.toNat - 48)) = c := by
      rw [show 48 + (c.toNat - 48) = c.toNat by omega, UInt8.ofNat_toNat]
    rw [val_snoc]
    by_cases ha : a = []
    · subst ha
      rw [val_nil, Lib.decDigits_one (by omega), show 10 * 0 + (c.toNat - 48) = c.toNat - 48 by omega, ec]
      refine ⟨rfl, fun h => ?_⟩
      have h48 : c ≠ 48 := by simpa using h
      have : c.toNat ≠ 48 := fun e => h48 (UInt8.toNat_inj.1 e)
      omega
    · have hlen : a.length = n := by simp at hn; omega
      have hah : a.head? ≠ some 48 := by
        cases a with
        | nil => exact absurd rfl ha
        | cons x r =>
          rcases hh with h | h
          · simp at h
          · simpa using h
      obtain ⟨h1, h2⟩ := ih a ha (fun x hx => hd x (by simp [hx])) (.inr hah) hlen.symm
      have h3 := h2 hah
      refine ⟨?_, fun _ => by omega⟩
      rw [dec_unf _ (by omega), show (10 * val a + (c.toNat - 48)) / 10 = val a by omega, show (10 * val a + (c.toNat - 48)) % 10 = c.toNat - 48 by omega, h1, ec]

theorem take_w (a : Str) (c : UInt8) (r : Str) (ha : ∀ x ∈ a, dgB x = true) (hc : dgB c = false) : (a ++ c :: r).takeWhile dgB = a ∧ (a ++ c :: r).dropWhile dgB = c :: r := by
  induction a with
  | nil => simp [hc]
  | cons x a ih =>
    obtain ⟨h1, h2⟩ := ih (fun y hy => ha y (by simp [hy]))
    have hx := ha x (by simp)
    simp [hx, h1, h2]
theorem take_w0 (a : Str) (ha : ∀ x ∈ a, dgB x = true) : a.takeWhile dgB = a ∧ a.dropWhile dgB = [] := by
  induction a with
  | nil => simp
  | cons x a ih =>
    obtain ⟨h1, h2⟩ := ih (fun y hy => ha y (by simp [hy]))
    have hx := ha x (by simp)
    simp [hx, h1, h2]

/-! ### What is taken of what a part says -/
theorem take_says (p : Part) (r : Str) (hr : rightB p = true) (h1 : p.num < 18446744073709551616) (h2 : p.text.length < 18446744073709551616) : takeR (saysL p ++ r) = .ok p r := by
  obtain ⟨b, n, t⟩ := p
  cases b with
  | true =>
    have hn : n = 0 := by simpa [rightB] using hr
    subst hn
    have e := take_w (Lib.decDigits t.length) 58 (t ++ r) (dec_all _) (by decide)
    have e0 : saysL ⟨true, 0, t⟩ ++ r = Lib.decDigits t.length ++ 58 :: (t ++ r) := by simp [saysL]
    unfold takeR
    rw [e0, e.1, e.2, dec_good _ h2, dec_val]
    simp [dec_ne]
  | false =>
    have ht : t = [] := by simpa [rightB] using hr
    subst ht
    have e := take_w (Lib.decDigits n) 59 r (dec_all _) (by decide)
    have e0 : saysL ⟨false, n, []⟩ ++ r = Lib.decDigits n ++ 59 :: r := by simp [saysL]
    unfold takeR
    rw [e0, e.1, e.2, dec_good _ h1, dec_val]
    simp [dec_ne]

theorem tw_drop (l : Str) : l = l.takeWhile dgB ++ l.dropWhile dgB := (List.takeWhile_append_dropWhile).symm
theorem tw_all (l : Str) : ∀ x ∈ l.takeWhile dgB, dgB x = true := by
  have h := List.all_takeWhile (p := dgB) (l := l)
  exact fun x hx => List.all_eq_true.1 h x hx

theorem says_take (l : Str) (p : Part) (r : Str) (h : takeR l = .ok p r) : rightB p = true ∧ l = saysL p ++ r ∧ p.num < 18446744073709551616 ∧ p.text.length ≤ l.length := by
  unfold takeR at h
  split at h
  · cases h
  · rename_i hb
    split at h
    · cases h
    · rename_i c rest hd
      split at h
      · cases h
      · rename_i hne
        have hl := tw_drop l
        rw [hd] at hl
        have hb' : badB (l.takeWhile dgB) = false := by simpa using hb
        unfold badB at hb'
        simp only [Bool.or_eq_false_iff, Bool.and_eq_false_iff, decide_eq_false_iff_not] at hb'
        have hpos : 0 < (l.takeWhile dgB).length := List.length_pos_iff.2 hne
        have hdec := (dec_of_val (l.takeWhile dgB) hne (tw_all l) (by rcases hb'.1 with h1 | h1; · left; omega
                                                                      · right; exact h1)).1
        have hv := hb'.2
        split at h
        · rename_i hc
          cases h
          subst hc
          refine ⟨by simp [rightB], ?_, by show val _ < _; omega, by simp⟩
          simp only [saysL, hdec, Bool.false_eq_true, if_false]
          rw [List.append_assoc]
          exact hl
        · split at h
          · rename_i hc
            split at h
            · rename_i hle
              cases h
              subst hc
              refine ⟨by simp [rightB], ?_, by show 0 < _; omega, ?_⟩
              · simp only [saysL, if_true]
                rw [List.length_take, Nat.min_eq_left hle, hdec, List.append_assoc, List.cons_append, List.take_append_drop]
                exact hl
              · have := congrArg List.length hl
                simp at this ⊢
                omega
            · cases h
          · cases h

theorem saysL_len (p : Part) : 2 ≤ (saysL p).length := by
  unfold saysL
  have h1 : 0 < (Lib.decDigits p.text.length).length := List.length_pos_iff.2 (dec_ne _)
  have h2 : 0 < (Lib.decDigits p.num).length := List.length_pos_iff.2 (dec_ne _)
  split <;> simp <;> omega

/-- Without its last byte a part is too short. -/
theorem take_short (p : Part) (hr : rightB p = true) (h1 : p.num < 18446744073709551616) (h2 : p.text.length < 18446744073709551616) : takeR (saysL p).dropLast = .no 7 := by
  obtain ⟨b, n, t⟩ := p
  cases b with
  | true =>
    have e0 : saysL ⟨true, 0, t⟩ = Lib.decDigits t.length ++ 58 :: t := by simp [saysL]
    have hn : n = 0 := by simpa [rightB] using hr
    subst hn
    rw [e0]
    by_cases ht : t = []
    · subst ht
      have e1 : (Lib.decDigits ([] : Str).length ++ [58]).dropLast = Lib.decDigits ([] : Str).length := by simp
      rw [e1]
      have e := take_w0 (Lib.decDigits ([] : Str).length) (dec_all _)
      unfold takeR
      rw [e.1, e.2, dec_good _ h2]
      rfl
    · have e1 : (Lib.decDigits t.length ++ 58 :: t).dropLast = Lib.decDigits t.length ++ 58 :: t.dropLast := by
        rw [List.dropLast_append_of_ne_nil (by simp), List.dropLast_cons_of_ne_nil ht]
      rw [e1]
      have e := take_w (Lib.decDigits t.length) 58 t.dropLast (dec_all _) (by decide)
      unfold takeR
      rw [e.1, e.2, dec_good _ h2, dec_val]
      have hp : 0 < t.length := List.length_pos_iff.2 ht
      have : ¬ t.length ≤ t.length - 1 := by omega
      simp [dec_ne, this]
  | false =>
    have e0 : saysL ⟨false, n, t⟩ = Lib.decDigits n ++ [59] := by simp [saysL]
    rw [e0, List.dropLast_concat]
    have e := take_w0 (Lib.decDigits n) (dec_all _)
    unfold takeR
    rw [e.1, e.2, dec_good _ h1]
    rfl

/-! ### Rows -/
theorem rowL_cons (p : Part) (l : List Part) : rowL (p :: l) = saysL p ++ rowL l := rfl
theorem rowL_append (a b : List Part) : rowL (a ++ b) = rowL a ++ rowL b := List.flatMap_append

/-- The parts of a text, the bytes that they take, and the error behind them. -/
inductive Parts : Str → List Part → Str → Int → Prop
  | done : Parts [] [] [] 0
  | no (l : Str) (e : Int) (h0 : l ≠ []) (h : takeR l = .no e) : Parts l [] l e
  | more (l : Str) (p : Part) (r : Str) (ps : List Part) (q : Str) (e : Int) (h : takeR l = .ok p r) (t : Parts r ps q e) : Parts l (p :: ps) q e

end Go.Proofs.YtmamolhclohniaaDoor
