/- Proved here: few of puncheonlaw07: a tree's first sixty items, in a new slice. -/
import Derived.Test.YtiakedoebecgpaaDoorWSmall
namespace Go.Proofs.YtiakedoebecgpaaDoor
open Go.RowKit Go.Shelf

theorem grown_row (w : World) (g : Nat) (cs : Array Value) : w.grownBy (w.setRow g cs) (some g) :=
  ⟨rfl, rfl, rfl, by simp, fun k _ hne => setRow_other w g k cs (fun e => hne (by rw [e]))⟩
theorem own_grown {w w' : World} {B k s n : Nat} {e : TypeId} {v : Value} {xs : List Value} (h : w.ownsRow B e s v n xs) (hg : w.grownBy w' (some k)) (hk : k < B) : w'.ownsRow B e s v n xs := by
  refine ⟨h.1, ?_⟩
  rcases h.2 with h0 | ⟨g, cap, cur, hv, hB, hh, hr⟩
  · exact .inl h0
  · have hlt : g < w.heap.size := by
      rcases Nat.lt_or_ge g w.heap.size with h' | h'
      · exact h'
      · rw [Array.getElem?_eq_none h'] at hh; cases hh
    exact .inr ⟨g, cap, cur, hv, hB, (hg.block g hlt (by intro e; injection e with e; omega)).trans hh, hr⟩
theorem own_base {w : World} {B B' s n : Nat} {e : TypeId} {v : Value} {xs : List Value} (h : w.ownsRow B e s v n xs) (hb : B' ≤ B) : w.ownsRow B' e s v n xs := by
  refine ⟨h.1, ?_⟩
  rcases h.2 with h0 | ⟨g, cap, cur, hv, hB, hr⟩
  · exact .inl h0
  · exact .inr ⟨g, cap, cur, hv, Nat.le_trans hb hB, hr⟩
theorem rdF_grown {w w' : World} {B k s n : Nat} {e : TypeId} {v : Value} {xs : List Value} (h : w.ownsRow B e s v n xs) (hg : w.grownBy w' (some k)) (hk : k < B) : RdF w' v n xs := RdF.of_own (own_grown h hg hk)

set_option maxRecDepth 100000 in
set_option maxHeartbeats 4000000 in
theorem wfew_own (l : List It) (v : Value) (w : World) (hv : RdI w v l) : Calls Tryd.prog 20 #[.agg #[v]] w fun e w' => ∃ x, e = .returned (.agg #[x]) ∧ w'.ownsRow w.heap.size 35 3 x (l.take 60).length (flatI (l.take 60)) ∧ Below w.heap.size w w' := by
  obtain ⟨w1, hw1⟩ : ∃ z, z = (w.alloc (.cells #[v] 24)).alloc (.cells #[.slice none 0 0] 24) := ⟨_, rfl⟩
  have X : Box w1 w.heap.size 24 #[v] := by rw [hw1]; exact box_new.alloc _
  have X1 : Hid (Box w1 (w.heap.size + 1) 24 #[.slice none 0 0]) := Lib.hid (by rw [hw1, show w.heap.size + 1 = (w.alloc (.cells #[v] 24)).heap.size from by simp]; exact box_new)
  have HB1 : Hid (Below w.heap.size w w1) := Lib.hid (by rw [hw1]; exact bch (below_new _ _) (below_new _ _))
  obtain ⟨b2, hb2⟩ : ∃ z, z = w.heap.size + 1 := ⟨_, rfl⟩
  rw [← hb2] at X1
  have HB2 : Hid (w.heap.size ≤ b2) := Lib.hid (by rw [hb2]; exact Nat.le_succ _)
  have c0 := X.cell (k := 0) rfl
  obtain ⟨a, c, rfl, hlc, hcm, _⟩ := hv.open
  obtain ⟨n, hn⟩ : ∃ n, n = l.length := ⟨_, rfl⟩
  rw [← hn] at c0 hlc hw1
  have HV1 := hv.on HB1.out
  rw [← hn] at HV1
  obtain ⟨m, hm⟩ : ∃ m, m = min n 60 := ⟨_, rfl⟩
  have hmn : m ≤ n := by omega
  have hm60 : m ≤ 60 := by omega
  have HTK : RdI w1 (.slice a m c) (l.take 60) := by
    have := RdI.take hn HV1 m hmn
    rwa [show l.take m = l.take 60 by rw [List.take_eq_take_iff]; omega] at this
  have HCL := Lib.hid (clone_any (l.take 60) _ w1 HTK (by rw [List.length_take]; omega))
  have k1 : (m : Int) ≤ (c : Int) := by omega
  have k0 : (0 : Int) ≤ (m : Int) := by omega
  have hmm : min (n : Int) 60 = (m : Int) := by omega
  have hmx : m = n ∨ m = 60 := by omega
  unfold maxLen at hcm
  have hcI : (c : Int) ≤ 9223372036854775807 := by omega
  rw [← hn]
  clear hv HV1 HTK X hn hm
  go_enter Tryd.func20, Tryd.ntmps20
  go_upto_region 1 with fail
  rw [← hw1, ← hb2]
  clear hw1 hb2
  go_wp2_with fail
  refine HCL.out.mono ?_
  rintro e w2 ⟨x', rfl, hown, hb2⟩
  have HO := Lib.hid hown
  have hrd : RdI w2 x' (l.take 60) := RdF.of_own hown
  obtain ⟨a', c', rfl, _⟩ := hrd.open
  have X2 := Lib.hid (X1.out.on hb2)
  have HB3 := Lib.hid (bch HB1.out hb2)
  obtain ⟨q, hq⟩ : ∃ q, q = (l.take 60).length := ⟨_, rfl⟩
  have HQ := Lib.hid hq
  rw [← hq]
  rw [← hq] at HO
  clear hown hb2 hrd c0 HCL hq
  go_wp2_with (refine wpList_store_row rfl 24 (.tmp 2) (.tmp 11) rfl b2 #[.slice a' q c'] rfl rfl 24 _ X2.out (info24 _) rfl (slice_one _ _ _) ?_)
  exact bodyPost_ret (results_cell_row rfl _ _ b2 24 #[.slice a' q c'] (0, 0) _ rfl (X2.out.row _) Tryd.underlying24 rfl (info24 _)) rfl
    ⟨_, rfl, by rw [← HQ.out]; exact own_base (own_grown HO.out (grown_row w2 b2 _) X1.out.lt) HB1.out.size, below_row HB3.out HB2.out _⟩
theorem wfew_any (l : List It) (v : Value) (w : World) (hv : RdI w v l) : Calls Tryd.prog 20 #[.agg #[v]] w (TreeR (l.take 60) w) :=
  (wfew_own l v w hv).mono fun _ _ ⟨x, he, ho, hb⟩ => ⟨x, he, RdF.of_own ho, hb⟩
end Go.Proofs.YtiakedoebecgpaaDoor
