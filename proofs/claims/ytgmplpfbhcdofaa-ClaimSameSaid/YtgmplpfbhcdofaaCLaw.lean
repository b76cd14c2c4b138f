/- Proved here: ClaimSame of puncheonlaw16 answers true for every two rows of claims. -/
import Derived.Test.YtgmplpfbhcdofaaCRef
namespace Go.Proofs.Ytgmplpfbhcdofaa
open Go.RowKit Go.Shelf Go.Lib
attribute [local go_sem] Oper.semAt_some

set_option maxRecDepth 100000 in
set_option maxHeartbeats 4000000 in
theorem csame_law (l m : List Cz) (v1 v2 : Value) (w : World) (h1 : RdC w v1 l) (h2 : RdC w v2 m) : Calls Try.prog 3 #[v1, v2] w fun e w' => e = .returned (.bool true) ∧ Below w.heap.size w w' := by
  have H1 := Lib.hid h1
  have H2 := Lib.hid h2
  obtain ⟨a1, c1, rfl, hl1, hm1, _⟩ := h1
  obtain ⟨a2, c2, rfl, hl2, hm2, _⟩ := h2
  obtain ⟨n, hn⟩ : ∃ n, n = l.length := ⟨_, rfl⟩
  obtain ⟨n2, hn2⟩ : ∃ n, n = m.length := ⟨_, rfl⟩
  rw [← hn] at H1 hl1 ⊢
  rw [← hn2] at H2 hl2 ⊢
  unfold maxLen at hm1 hm2
  obtain ⟨p, hp⟩ : ∃ p, p = min n 20 := ⟨_, rfl⟩
  obtain ⟨q, hq⟩ : ∃ q, q = min n2 20 := ⟨_, rfl⟩
  have p1 : min (n : Int) 20 = (p : Int) := by omega
  have p2 : min (n2 : Int) 20 = (q : Int) := by omega
  have r1 : (0 : Int) ≤ (p : Int) := by omega
  have r2 : (0 : Int) ≤ (q : Int) := by omega
  have s1 : (p : Int) ≤ (c1 : Int) := by omega
  have s2 : (q : Int) ≤ (c2 : Int) := by omega
  have HA := Lib.hid (RdC.take hn H1.out p (by omega))
  have HB := Lib.hid (RdC.take hn2 H2.out q (by omega))
  clear hn hn2 hp hq
  go_enter Try.func3, Try.ntmps3
  go_upto_region 3 with (go_at_call 6; refine (wakes_any _).mono ?_; rintro e w1 ⟨rfl, hb⟩; have HB1 := Lib.hid hb; clear hb)
  go_region
  obtain ⟨w2, hw2⟩ : ∃ z, z = w1.drew := ⟨_, rfl⟩
  have HB2 : Hid (Below w.heap.size w w2) := Lib.hid (by rw [hw2]; exact below_drewN HB1.out 1)
  rw [← hw2]
  obtain ⟨la, hla⟩ : ∃ z, z = l.take p := ⟨_, rfl⟩
  obtain ⟨lb, hlb⟩ : ∃ z, z = m.take q := ⟨_, rfl⟩
  rw [← hla] at HA
  rw [← hlb] at HB
  obtain ⟨bo, hbo⟩ : ∃ z, z = decide (la = lb) := ⟨_, rfl⟩
  have HBO := Lib.hid hbo
  have t1 : (bo == bo) = true := by simp
  have HE1 := Lib.hid (csame_any la lb _ _ w2 (HA.out.on HB2.out) (HB.out.on HB2.out))
  rw [← hbo] at HE1
  clear hw2 hla hlb hbo p1 p2 r1 r2 s1 s2
  go_wp2_with (first
    | (go_at_call 7; refine (csame_any la la _ _ _ (HA.out.on HB4.out) (HA.out.on HB4.out)).mono ?_; rintro e w5 ⟨rfl, hb⟩; have HB5 := Lib.hid (bch HB4.out hb); clear hb)
    | (go_at_call 7; refine HE1.out.mono ?_; rintro e w3 ⟨rfl, hb⟩; have HB3 := Lib.hid (bch HB2.out hb); clear hb)
    | (go_at_call 8; refine (rsame_any la lb _ _ _ (HA.out.on HB3.out) (HB.out.on HB3.out)).mono ?_; rintro e w4 ⟨rfl, hb⟩; rw [← HBO.out]; have HB4 := Lib.hid (bch HB3.out hb); clear hb))
  go_ret
  exact ⟨by simp, HB5.out⟩
end Go.Proofs.Ytgmplpfbhcdofaa
