/- Plain words on the texts of digests. -/
import Derived.Test.YtkenbppoldfecaaDoorMath
import Derived.Lib.IndexBytes
namespace Go.Proofs.YtkenbppoldfecaaDoor

def digitsL : Bytes := [48, 49, 50, 51, 52, 53, 54, 55, 56, 57, 97, 98, 99, 100, 101, 102]
def hx (n : Nat) : UInt8 := digitsL.getD n 0
def textL (d : Bytes) : Bytes := d.flatMap fun c => [hx (c.toNat / 16), hx (c.toNat % 16)]
/-- Which digit this is; below 0: none. -/
def dv (c : UInt8) : Int := Lib.indexByte digitsL c
def pairB (a b : UInt8) : UInt8 := UInt8.ofNat (16 * (dv a).toNat + (dv b).toNat)
def allD (s : Bytes) : Bool := s.all fun c => decide (0 ≤ dv c)
def byteOf (s : Bytes) (n : Nat) : UInt8 := pairB (s.getD (2 * n) 0) (s.getD (2 * n + 1) 0)
def bytesOf (s : Bytes) : Bytes := (List.range 32).map (byteOf s)

theorem textL_cons (c : UInt8) (d : Bytes) : textL (c :: d) = hx (c.toNat / 16) :: hx (c.toNat % 16) :: textL d := rfl
theorem textL_len (d : Bytes) : (textL d).length = 2 * d.length := by
  induction d with
  | nil => rfl
  | cons c d ih => rw [textL_cons, List.length_cons, List.length_cons, ih, List.length_cons]; omega
theorem textL_at (d : Bytes) (k : Nat) (c : UInt8) (h : d[k]? = some c) : (textL d)[2 * k]? = some (hx (c.toNat / 16)) ∧ (textL d)[2 * k + 1]? = some (hx (c.toNat % 16)) := by
  induction d generalizing k with
  | nil => cases h
  | cons a d ih =>
    cases k with
    | zero =>
      cases h
      exact ⟨rfl, rfl⟩
    | succ k =>
      rw [textL_cons, show 2 * (k + 1) = (2 * k + 1) + 1 by omega]
      exact ih k h

theorem dv_range (c : UInt8) : -1 ≤ dv c ∧ dv c < 16 := by
  have h : ∀ n : Fin 256, -1 ≤ dv (UInt8.ofNat n.val) ∧ dv (UInt8.ofNat n.val) < 16 := by decide +kernel
  have := h ⟨c.toNat, c.toNat_lt⟩
  simpa using this
theorem hx_dv (c : UInt8) (h0 : 0 ≤ dv c) : hx (dv c).toNat = c := by
  have h : ∀ n : Fin 256, 0 ≤ dv (UInt8.ofNat n.val) → hx (dv (UInt8.ofNat n.val)).toNat = UInt8.ofNat n.val := by decide +kernel
  have := h ⟨c.toNat, c.toNat_lt⟩
  simp at this
  exact this h0
theorem dv_hx {n : Nat} (h : n < 16) : dv (hx n) = (n : Int) := by
  have h2 : ∀ m : Fin 16, dv (hx m.val) = (m.val : Int) := by decide +kernel
  exact h2 ⟨n, h⟩
theorem dv_some (c : UInt8) (h0 : 0 ≤ dv c) : (dv c).toNat < 16 := by have := dv_range c; omega

theorem byte_back (c : UInt8) : pairB (hx (c.toNat / 16)) (hx (c.toNat % 16)) = c := by
  have := c.toNat_lt
  unfold pairB
  rw [dv_hx (by omega), dv_hx (by omega)]
  have e : 16 * ((c.toNat / 16 : Nat) : Int).toNat + ((c.toNat % 16 : Nat) : Int).toNat = c.toNat := by omega
  rw [e]
  simp
theorem text_all (d : Bytes) : allD (textL d) = true := by
  unfold allD
  induction d with
  | nil => rfl
  | cons c d ih =>
    have := c.toNat_lt
    rw [textL_cons, List.all_cons, List.all_cons, ih, dv_hx (by omega), dv_hx (by omega)]
    simp
    omega
theorem bytes_text (d : Bytes) (h : d.length = 32) : bytesOf (textL d) = d := by
  unfold bytesOf
  apply List.ext_getElem?
  intro k
  by_cases hk : k < 32
  · have hd : d[k]? = some (d[k]'(by omega)) := List.getElem?_eq_getElem (by omega)
    obtain ⟨h1, h2⟩ := textL_at d k _ hd
    rw [List.getElem?_map, List.getElem?_range hk, hd]
    show some (byteOf (textL d) k) = _
    unfold byteOf
    rw [List.getD_eq_getElem?_getD, List.getD_eq_getElem?_getD, h1, h2]
    exact congrArg some (byte_back _)
  · rw [List.getElem?_eq_none (by simp; omega), List.getElem?_eq_none (by omega)]
theorem nibbles (a b : UInt8) (ha : 0 ≤ dv a) (hb : 0 ≤ dv b) : hx ((pairB a b).toNat / 16) = a ∧ hx ((pairB a b).toNat % 16) = b := by
  have h1 := dv_some a ha
  have h2 := dv_some b hb
  have e : (pairB a b).toNat = 16 * (dv a).toNat + (dv b).toNat := by
    have h3 : (pairB a b).toNat = (16 * (dv a).toNat + (dv b).toNat) % 256 := UInt8.toNat_ofNat'
    rw [h3]
    omega
  have e1 : (16 * (dv a).toNat + (dv b).toNat) / 16 = (dv a).toNat := by omega
  have e2 : (16 * (dv a).toNat + (dv b).toNat) % 16 = (dv b).toNat := by omega
  rw [e, e1, e2]
  exact ⟨hx_dv a ha, hx_dv b hb⟩
theorem text_bytes (s : Bytes) (h : s.length = 64) (ha : allD s = true) : textL (bytesOf s) = s := by
  have hall : ∀ (i : Nat) (c : UInt8), s[i]? = some c → 0 ≤ dv c := fun i c hc => by
    have := List.all_eq_true.1 ha c (List.mem_of_getElem? hc)
    simpa using this
  apply List.ext_getElem?
  intro i
  by_cases hi : i < 64
  · obtain ⟨k, hk⟩ : ∃ k, i = 2 * k ∨ i = 2 * k + 1 := ⟨i / 2, by omega⟩
    have hk32 : k < 32 := by omega
    have hb : (bytesOf s)[k]? = some (byteOf s k) := by
      unfold bytesOf
      rw [List.getElem?_map, List.getElem?_range hk32]
      rfl
    have g0 : s[2 * k]? = some (s.getD (2 * k) 0) := by rw [List.getD_eq_getElem?_getD, List.getElem?_eq_getElem (by omega)]; rfl
    have g1 : s[2 * k + 1]? = some (s.getD (2 * k + 1) 0) := by rw [List.getD_eq_getElem?_getD, List.getElem?_eq_getElem (by omega)]; rfl
    obtain ⟨t0, t1⟩ := textL_at _ k _ hb
    obtain ⟨n0, n1⟩ := nibbles _ _ (hall _ _ g0) (hall _ _ g1)
    unfold byteOf at t0 t1
    rw [n0] at t0
    rw [n1] at t1
    rcases hk with rfl | rfl
    · rw [t0, g0]
    · rw [t1, g1]
  · rw [List.getElem?_eq_none (by rw [textL_len]; unfold bytesOf; simp; omega), List.getElem?_eq_none (by omega)]
end Go.Proofs.YtkenbppoldfecaaDoor
