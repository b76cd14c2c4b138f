/- Proved here: slices.Equal of two rows of numbers; Places of puncheonref14. -/
import Derived.Test.YtophihnjlodmjaaDoorPlaces
import Derived.RegionTactic
namespace Go.Proofs.YtophihnjlodmjaaDoor
open Go.RowKit Go.Shelf

theorem Rd.numAt {w : World} {a : Option Addr} {n c : Nat} {l : List Nat} (h : Rd w (.slice a n c) (natsV l)) {j : Nat} (hj : j < l.length) : ∃ g o, a = some ⟨g, o, none⟩ ∧ g < w.heap.size ∧ w.cell? ⟨g, o + j, none⟩ = some (.int .i64 (l[j] : Int)) := by
  obtain ⟨a', cap, e, h1, h2, h3, h4⟩ := h
  cases e
  obtain ⟨g, o, e, hg, hc⟩ := h4 (by rw [natsV_len]; omega)
  exact ⟨g, o, e, hg, hc j _ (natsV_at hj)⟩
theorem Rd.numShape {w : World} {v : Value} {l : List Nat} (h : Rd w v (natsV l)) : ∃ a c, v = .slice a l.length c ∧ l.length ≤ c ∧ c ≤ 9223372036854775807 := by
  obtain ⟨a, c, e, h1, h2, _, h4⟩ := h
  rw [natsV_len] at e h1
  unfold maxLen at h2
  exact ⟨a, c, e, h1, by omega⟩
def eqB (l m : List Nat) : Bool := decide (l = m)
theorem eqB_self (l : List Nat) : eqB l l = true := decide_eq_true rfl

set_option maxRecDepth 100000 in
set_option maxHeartbeats 2000000 in
theorem eqn_any (l m : List Nat) (v1 v2 : Value) (w : World) (h1 : Rd w v1 (natsV l)) (h2 : Rd w v2 (natsV m)) : Calls Tryd.prog 16 #[v1, v2] w fun e w' => e = .returned (.bool (eqB l m)) ∧ Below w.heap.size w w' := by
  have H1 := Lib.hid h1
  have H2 := Lib.hid h2
  obtain ⟨a1, c1, rfl, hc1, hd1⟩ := h1.numShape
  obtain ⟨a2, c2, rfl, hc2, hd2⟩ := h2.numShape
  clear h1 h2
  by_cases hlen : l.length = m.length
  · obtain ⟨q, hq⟩ : ∃ q, q = eqB l m := ⟨_, rfl⟩
    rw [← hq]
    have HQ := Lib.hid hq
    have HLEN := Lib.hid hlen
    obtain ⟨n, hn⟩ : ∃ n, n = l.length := ⟨_, rfl⟩
    have HN := Lib.hid hn
    rw [← hlen, ← hn] at hc2 H2
    rw [← hn] at hc1 H1
    rw [← hlen, ← hn]
    clear hq hlen hn
    have t0 : ((n : Int) == (n : Int)) = true := by simp
    go_enter Tryd.func16, Tryd.ntmps16
    go_wp2
    go_loopw [13] (fun i wr => ∃ k : Nat, k ≤ n ∧ i = .int .i64 k ∧ Hid (l.take k = m.take k) ∧ Below w.heap.size w wr) (fun i _ => n - (Lib.intOf i).toNat)
    case atStart => exact ⟨0, Nat.zero_le _, rfl, Lib.hid rfl, Below.refl _ _⟩
    case round =>
      obtain ⟨k, hk, rfl, HT, hB⟩ := hrel
      by_cases hlt : k < n
      · have hl1 : k < l.length := by have := HN.out; omega
        have hl2 : k < m.length := by have := HN.out; have := HLEN.out; omega
        obtain ⟨g1, o1, rfl, hg1, e1⟩ := H1.out.numAt hl1
        obtain ⟨g2, o2, rfl, hg2, e2⟩ := H2.out.numAt hl2
        have r1 := (hB.cell (p := ⟨g1, _, none⟩) hg1).trans e1
        have r2 := (hB.cell (p := ⟨g2, _, none⟩) hg2).trans e2
        by_cases heq : l[k] = m[k]
        · have HT2 : Hid (l.take (k + 1) = m.take (k + 1)) := Lib.hid (by
            rw [List.take_add_one, List.take_add_one, HT.out, List.getElem?_eq_getElem hl1, List.getElem?_eq_getElem hl2, heq])
          rw [heq] at r1
          obtain ⟨x, hx⟩ : ∃ x, x = m[k] := ⟨_, rfl⟩
          rw [← hx] at r1 r2
          have t1 : ((x : Int) != (x : Int)) = false := by simp
          clear heq hx e1 e2 hl1 hl2
          go_wp2
          go_region
          go_wp2
          go_roundw
          case rel => exact ⟨k + 1, hlt, by go_num, HT2, hB.drew⟩
          case measure => simp [Lib.intOf]; omega
        · have HF : Hid (q = false) := Lib.hid (by
            rw [HQ.out]
            refine decide_eq_false fun e => heq ?_
            subst e
            rfl)
          obtain ⟨x, hx⟩ : ∃ x, x = l[k] := ⟨_, rfl⟩
          obtain ⟨y, hy⟩ : ∃ y, y = m[k] := ⟨_, rfl⟩
          rw [← hx] at r1 heq
          rw [← hy] at r2 heq
          have t1 : ((x : Int) != (y : Int)) = true := by simp; omega
          clear heq hx hy e1 e2 hl1 hl2
          obtain rfl := HF.out
          go_wp2
          go_region
          go_wp2
          go_ret
          exact ⟨rfl, hB.drew⟩
      · have HF : Hid (q = true) := Lib.hid (by
          rw [HQ.out]
          refine decide_eq_true ?_
          have := HT.out
          rwa [List.take_of_length_le (by have := HN.out; omega), List.take_of_length_le (by have := HN.out; have := HLEN.out; omega)] at this)
        obtain rfl := HF.out
        go_wp2
        go_ret
        exact ⟨rfl, hB⟩
  · have HF : Hid (eqB l m = false) := Lib.hid (decide_eq_false fun e => hlen (by rw [e]))
    rw [HF.out]
    obtain ⟨n1, hn1⟩ : ∃ n, n = l.length := ⟨_, rfl⟩
    obtain ⟨n2, hn2⟩ : ∃ n, n = m.length := ⟨_, rfl⟩
    rw [← hn1, ← hn2] at hlen
    rw [← hn1] at hc1 ⊢
    rw [← hn2] at hc2 ⊢
    have t0 : ((n1 : Int) != (n2 : Int)) = true := by simp; omega
    clear H1 H2 hn1 hn2 hlen HF
    go_enter Tryd.func16, Tryd.ntmps16
    go_wp2
    go_ret
    exact ⟨rfl, Below.refl _ _⟩
end Go.Proofs.YtophihnjlodmjaaDoor
