/- Proved here: slices.Clone of bytes, and few of puncheonlaw03: a copy of the first 2000 bytes. -/
import Derived.Test.YtkenbppoldfecaaDoorWakes
namespace Go.Proofs.YtkenbppoldfecaaDoor
open Go.RowKit Go.Shelf Go.Joins

def Copied (l : Bytes) (w : World) (e : Ending) (w' : World) : Prop := ∃ v', e = .returned v' ∧ w'.ownsRow w.heap.size 5 1 v' l.length (bytesV l) ∧ Below w.heap.size w w'

theorem eql24 (w : World) (a : Option Addr) (n c n' c' : Nat) : (binOp .eql 24 (.slice a n c) (.slice none n' c')).run Tryd.prog w = .ok (.bool a.isNone) w := Lib.run_eql_slice_nil w _ _ a n c n' c' Tryd.underlying24

set_option maxRecDepth 100000 in
set_option maxHeartbeats 2000000 in
theorem clone23_any (l : Bytes) (v : Value) (w : World) (hv : Rd w v (bytesV l)) (hl : l.length ≤ 1000000000) : Calls Tryd.prog 23 #[v] w (Copied l w) := by
  obtain ⟨a, cap, rfl, h1, h2, h3, h4⟩ := id hv
  have q24 := eql24
  cases a with
  | none =>
    obtain ⟨hn, rfl⟩ := h3 rfl
    have : l = [] := by cases l <;> simp_all [bytesV]
    subst this
    clear h3 h4 hv hn
    go_enter Tryd.func23, Tryd.ntmps23
    go_wp2
    go_ret
    exact ⟨_, rfl, World.ownsRow_nil _ _ _ _, Below.refl _ _⟩
  | some ad =>
    have hB0 : Below w.heap.size w (w.alloc (.cells #[] 5)) := (Below.refl _ _).alloc (Nat.le_refl _) _
    have HV : Hid (Rd (w.alloc (.cells #[] 5)) (.slice (some ad) (bytesV l).length cap) (bytesV l)) := Lib.hid (hv.on hB0)
    have HO : Hid (World.ownsRow (w.alloc (.cells #[] 5)) w.heap.size 5 1 (.slice (some ⟨w.heap.size, 0, none⟩) 0 0) 0 []) := Lib.hid (World.ownsRow_made w #[] 0 (Nat.le_refl _) (Nat.zero_le _) rfl)
    have HL := Lib.hid hl
    clear h1 h3 h4 hv hl
    generalize (bytesV l).length = n at *
    go_enter Tryd.func23, Tryd.ntmps23
    go_wp2_with (at_builtin; refine wpList_append_rd rfl (.tmp 5) (.tmp 6) 24 5 z8 1 rfl Tryd.underlying24 info5 rfl w.heap.size _ _ [] (bytesV l) rfl HO.out rfl HV.out (bytesV_one l) (by simp) (by rw [bytesV_len]; have := HL.out; simp; omega) (by decide) ?_; intro v' w2 hown' hb2; have HO' := Lib.hid hown'; clear hown')
    go_ret
    refine ⟨v', rfl, ?_, hB0.trans hb2⟩
    have := HO'.out
    rw [List.nil_append, bytesV_len] at this
    exact this

theorem Rd.take {w : World} {a : Option Addr} {n cap : Nat} {xs : List Value} (h : Rd w (.slice a n cap) xs) (hn : n = xs.length) (k : Nat) (hk : k ≤ n) : Rd w (.slice a k cap) (xs.take k) := by
  obtain ⟨a', cap', e, h1, h2, h3, h4⟩ := h
  cases e
  have hlen : (xs.take k).length = k := by rw [List.length_take]; omega
  refine ⟨a, cap, by rw [hlen], by rw [hlen]; omega, h2, fun e => ?_, fun h0 => ?_⟩
  · obtain ⟨rfl, rfl⟩ := h3 e
    exact ⟨by simp, rfl⟩
  · rw [hlen] at h0
    obtain ⟨g, o, rfl, hg, hc⟩ := h4 (by omega)
    refine ⟨g, o, rfl, hg, fun j x hx => ?_⟩
    rw [List.getElem?_take] at hx
    split at hx
    · exact hc j x hx
    · cases hx

set_option maxRecDepth 100000 in
set_option maxHeartbeats 2000000 in
/-- few: own memory, the first 2000 bytes. -/
theorem few_any (l : Bytes) (v : Value) (w : World) (hv : Rd w v (bytesV l)) : Calls Tryd.prog 9 #[v] w (Copied (l.take 2000) w) := by
  obtain ⟨a, cap, rfl, h1, h2, _, _⟩ := id hv
  rw [bytesV_len] at h1
  unfold maxLen at h2
  obtain ⟨q, hq⟩ : ∃ q, q = min l.length 2000 := ⟨_, rfl⟩
  have hT : Rd w (.slice a q cap) (bytesV (l.take 2000)) := by
    have := hv.take rfl q (by rw [bytesV_len]; omega)
    have e : (bytesV l).take q = bytesV (l.take 2000) := by
      unfold bytesV
      rw [← List.map_take, List.take_eq_take_iff.2 (by omega : min q l.length = min 2000 l.length)]
    rw [e] at this
    exact this
  have hc := clone23_any (l.take 2000) _ w hT (by rw [List.length_take]; omega)
  have m1 : (0 : Int) ≤ (q : Int) := by omega
  have m2 : (q : Int) ≤ (l.length : Int) := by omega
  have m3 : min (l.length : Int) 2000 = (q : Int) := by omega
  have HC := Lib.hid hc
  rw [bytesV_len]
  obtain ⟨n, hn⟩ : ∃ n, n = l.length := ⟨_, rfl⟩
  rw [← hn] at m2 m3 h1 ⊢
  clear hc hT hv hq hn
  go_enter Tryd.func9, Tryd.ntmps9
  go_wp2_with fail
  refine HC.out.mono ?_
  rintro e w1 ⟨v', rfl, hown, hb⟩
  have HO := Lib.hid hown
  clear hown
  go_wp2_with fail
  go_ret
  exact ⟨v', rfl, HO.out, hb⟩
end Go.Proofs.YtkenbppoldfecaaDoor
