/- Proved here, of the document's order of versions alone: of each two one stands ahead, or they are one, and it goes on over a third. -/
import Derived.Test.YtjekibhaabkecaaDoorText
namespace Go.Proofs.YtjekibhaabkecaaDoor
open Go.RowKit Go.Shelf

/-- An order that is told by -1, 0 and 1. -/
structure Good {α : Type} (c : α → α → Int) : Prop where
  rng : ∀ a b, c a b = -1 ∨ c a b = 0 ∨ c a b = 1
  anti : ∀ a b, c b a = -(c a b)
  tr : ∀ a b d, c a b ≤ 0 → c b d ≤ 0 → c a d ≤ 0 ∧ (c a b + c b d = 0 ∨ c a d < 0)
namespace Good
variable {α β : Type} {c d : α → α → Int}
theorem zero (h : Good c) (a : α) : c a a = 0 := by
  have := h.anti a a
  omega
theorem zeros (h : Good c) {a b e : α} (h1 : c a b = 0) (h2 : c b e = 0) : c a e = 0 := by
  have t1 := h.tr a b e (by omega) (by omega)
  have e1 := h.anti a b
  have e2 := h.anti b e
  have t2 := h.tr e b a (by omega) (by omega)
  have e3 := h.anti a e
  omega
theorem left (h : Good c) {a b e : α} (h1 : c a b = 0) : c a e = c b e := by
  have r1 := h.rng a e
  have r2 := h.rng b e
  have e1 := h.anti a b
  have e2 := h.anti b e
  have e3 := h.anti a e
  have t1 := h.tr a b e
  have t2 := h.tr b a e
  have t3 := h.tr e a b
  have t4 := h.tr e b a
  omega
theorem right (h : Good c) {a b e : α} (h1 : c b e = 0) : c a e = c a b := by
  have := h.left (a := b) (b := e) (e := a) h1
  have e1 := h.anti a b
  have e2 := h.anti a e
  omega
theorem map (h : Good c) (f : β → α) : Good (fun x y => c (f x) (f y)) := ⟨fun _ _ => h.rng _ _, fun _ _ => h.anti _ _, fun _ _ _ => h.tr _ _ _⟩
theorem lex (h : Good c) (k : Good d) : Good (fun a b => orI (c a b) (d a b)) := by
  refine ⟨fun a b => ?_, fun a b => ?_, fun a b e => ?_⟩
  · unfold orI
    split
    · exact k.rng a b
    · exact h.rng a b
  · unfold orI
    rw [h.anti a b, k.anti a b]
    split <;> split <;> omega
  · have r1 := h.rng a b
    have r2 := h.rng b e
    have t := h.tr a b e
    have u := k.tr a b e
    unfold orI
    by_cases h1 : c a b = 0
    · have l := h.left (e := e) h1
      rw [l, if_pos h1]
      by_cases h2 : c b e = 0
      · rw [if_pos h2, if_pos h2]
        exact u
      · rw [if_neg h2]
        intro x y
        omega
    · rw [if_neg h1]
      by_cases h2 : c b e = 0
      · have l := h.right (a := a) h2
        rw [l, if_pos h2, if_neg h1]
        intro x y
        omega
      · rw [if_neg h2]
        intro x y
        have := t x y
        split <;> omega
end Good
theorem good_int : Good Lib.compareInt := by
  refine ⟨fun a b => ?_, fun a b => ?_, fun a b d => ?_⟩
  · unfold Lib.compareInt
    split
    · omega
    · split <;> omega
  · unfold Lib.compareInt
    split <;> split <;> (try split) <;> (try split) <;> omega
  · unfold Lib.compareInt
    intro h1 h2
    split at h1 <;> split at h2 <;> (try split at h1) <;> (try split at h2) <;> split <;> (try split) <;> (try split) <;> (try split) <;> (try split) <;> omega
theorem bytes_zero : ∀ (l m : Str), Lib.compareBytes l m = 0 → l = m
  | [], [], _ => rfl
  | [], _ :: _, h => by simp [Lib.compareBytes] at h
  | _ :: _, [], h => by simp [Lib.compareBytes] at h
  | a :: l, b :: m, h => by
    unfold Lib.compareBytes at h
    split at h
    · omega
    · split at h
      · omega
      · rename_i h1 h2
        have e : a = b := UInt8.le_antisymm (UInt8.not_lt.1 h2) (UInt8.not_lt.1 h1)
        rw [e, bytes_zero l m h]
theorem bytes_rng : ∀ (l m : Str), Lib.compareBytes l m = -1 ∨ Lib.compareBytes l m = 0 ∨ Lib.compareBytes l m = 1
  | [], [] => by simp [Lib.compareBytes]
  | [], _ :: _ => by simp [Lib.compareBytes]
  | _ :: _, [] => by simp [Lib.compareBytes]
  | a :: l, b :: m => by
    unfold Lib.compareBytes
    split
    · omega
    · split
      · omega
      · exact bytes_rng l m
theorem bytes_anti : ∀ (l m : Str), Lib.compareBytes m l = -(Lib.compareBytes l m)
  | [], [] => by simp [Lib.compareBytes]
  | [], _ :: _ => by simp [Lib.compareBytes]
  | _ :: _, [] => by simp [Lib.compareBytes]
  | a :: l, b :: m => by
    have ih := bytes_anti l m
    unfold Lib.compareBytes
    by_cases h1 : a < b
    · have h2 : ¬ b < a := UInt8.lt_asymm h1
      simp [h1, h2]
    · by_cases h2 : b < a
      · simp [h1, h2]
      · simp only [h1, h2, if_false]
        exact ih
theorem bytes_tr : ∀ (l m n : Str), Lib.compareBytes l m ≤ 0 → Lib.compareBytes m n ≤ 0 → Lib.compareBytes l n ≤ 0 ∧ (Lib.compareBytes l m + Lib.compareBytes m n = 0 ∨ Lib.compareBytes l n < 0)
  | [], [], [], _, _ => by simp [Lib.compareBytes]
  | [], [], _ :: _, _, _ => by simp [Lib.compareBytes]
  | [], _ :: _, [], _, h => by simp [Lib.compareBytes] at h
  | [], _ :: _, _ :: _, _, _ => by simp [Lib.compareBytes]
  | _ :: _, [], _, h, _ => by simp [Lib.compareBytes] at h
  | _ :: _, _ :: _, [], _, h => by simp [Lib.compareBytes] at h
  | a :: l, b :: m, c :: n, h1, h2 => by
    have ih := bytes_tr l m n
    unfold Lib.compareBytes at h1 h2 ⊢
    have n1 := @UInt8.lt_iff_toNat_lt a b
    have n2 := @UInt8.lt_iff_toNat_lt b a
    have n3 := @UInt8.lt_iff_toNat_lt b c
    have n4 := @UInt8.lt_iff_toNat_lt c b
    have n5 := @UInt8.lt_iff_toNat_lt a c
    have n6 := @UInt8.lt_iff_toNat_lt c a
    simp only [n1, n2, n3, n4, n5, n6] at h1 h2 ⊢
    split at h1 <;> split at h2 <;> (try split at h1) <;> (try split at h2) <;> split <;> (try split) <;> (try split) <;> (try split) <;> (try split) <;> first | omega | (have := ih h1 h2; omega)
theorem good_bytes : Good Lib.compareBytes := ⟨bytes_rng, fun a b => bytes_anti a b, bytes_tr⟩

def tagL (l m : Str) : Int := if l = [] then (if m = [] then 0 else 1) else if m = [] then -1 else Lib.compareBytes l m
theorem ba_ext {a b : ByteArray} (h : a.data.toList = b.data.toList) : a = b := by
  cases a
  cases b
  simp at h
  rw [h]
theorem tagC_eq (a b : ByteArray) : tagC a b = tagL a.data.toList b.data.toList := by
  unfold tagC tagL
  by_cases h : a = b
  · subst h
    rw [if_pos rfl]
    by_cases h1 : a.data.toList = []
    · rw [if_pos h1, if_pos h1]
    · rw [if_neg h1, if_neg h1, good_bytes.zero]
  · rw [if_neg h]
    by_cases h1 : a.data.toList = []
    · rw [if_pos h1, if_pos h1, if_neg (fun h2 => h (ba_ext (h1.trans h2.symm)))]
    · rw [if_neg h1, if_neg h1]
theorem good_tagL : Good tagL := by
  refine ⟨fun a b => ?_, fun a b => ?_, fun a b e => ?_⟩
  · have := good_bytes.rng a b
    unfold tagL
    split <;> split <;> omega
  · have := good_bytes.anti a b
    unfold tagL
    split <;> split <;> omega
  · have := good_bytes.tr a b e
    unfold tagL
    by_cases h1 : a = [] <;> by_cases h2 : b = [] <;> by_cases h3 : e = [] <;> simp only [h1, h2, h3, if_true, if_false] <;> first | omega | (intro x y; omega) | exact this
theorem good_tag : Good tagC := by
  have e : tagC = fun a b => tagL a.data.toList b.data.toList := funext fun a => funext fun b => tagC_eq a b
  rw [e]
  exact good_tagL.map fun a : ByteArray => a.data.toList
theorem cmpV_eq (a b : Ver) : cmpV a b = orI (orI (Lib.compareInt a.n0 b.n0) (orI (Lib.compareInt a.n1 b.n1) (orI (Lib.compareInt a.n2 b.n2) (Lib.compareInt a.n3 b.n3)))) (orI (tagC a.tag b.tag) (orI (Lib.compareInt a.step b.step) (Lib.compareInt a.many b.many))) := rfl
theorem good_cmpV : Good cmpV := by
  have e : cmpV = fun a b => orI (orI (Lib.compareInt a.n0 b.n0) (orI (Lib.compareInt a.n1 b.n1) (orI (Lib.compareInt a.n2 b.n2) (Lib.compareInt a.n3 b.n3)))) (orI (tagC a.tag b.tag) (orI (Lib.compareInt a.step b.step) (Lib.compareInt a.many b.many))) := funext fun a => funext fun b => cmpV_eq a b
  rw [e]
  exact ((good_int.map Ver.n0).lex ((good_int.map Ver.n1).lex ((good_int.map Ver.n2).lex (good_int.map Ver.n3)))).lex ((good_tag.map Ver.tag).lex ((good_int.map Ver.step).lex (good_int.map Ver.many)))
theorem good_cmpW : Good cmpW := by
  refine ⟨fun a b => ?_, fun a b => ?_, fun a b e => ?_⟩
  · have := good_cmpV.rng a b
    unfold cmpW
    split <;> split <;> omega
  · have := good_cmpV.anti a b
    unfold cmpW
    split <;> split <;> omega
  · have := good_cmpV.tr a b e
    unfold cmpW
    cases a.ok <;> cases b.ok <;> cases e.ok <;> simp only [if_true, Bool.false_eq_true, if_false] <;> first | omega | (intro x y; omega) | exact this
theorem or_zero {x y : Int} (h : orI x y = 0) : x = 0 ∧ y = 0 := by
  unfold orI at h
  split at h <;> omega
theorem int_zero {x y : Int} (h : Lib.compareInt x y = 0) : x = y := by
  unfold Lib.compareInt at h
  split at h
  · omega
  · split at h <;> omega
theorem tag_zero {a b : ByteArray} (h : tagC a b = 0) : a = b := by
  unfold tagC at h
  split at h
  · assumption
  · split at h
    · omega
    · split at h
      · omega
      · exact ba_ext (bytes_zero _ _ h)
theorem cmpV_zero {a b : Ver} (h : cmpV a b = 0) : a = b := by
  rw [cmpV_eq] at h
  obtain ⟨hn, h⟩ := or_zero h
  obtain ⟨h0, hn⟩ := or_zero hn
  obtain ⟨h1, hn⟩ := or_zero hn
  obtain ⟨h2, h3⟩ := or_zero hn
  obtain ⟨ht, h⟩ := or_zero h
  obtain ⟨hs, hm⟩ := or_zero h
  exact (ver_eq a b).2 ⟨⟨int_zero h0, int_zero h1, int_zero h2, int_zero h3⟩, int_zero hm, tag_zero ht, int_zero hs⟩
theorem cmpW_same {a b : Ver} (ha : a.ok = true) (hb : b.ok = true) : (cmpW a b = 0) ↔ a = b := by
  unfold cmpW
  rw [ha, hb]
  simp only [if_true]
  exact ⟨cmpV_zero, fun h => by rw [h]; exact good_cmpV.zero b⟩
end Go.Proofs.YtjekibhaabkecaaDoor
