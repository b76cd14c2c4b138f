/- Proved here: Union of package claim, of rows of numbers. -/
import Derived.Test.YtgmplpfbhcdofaaGreatKCat
import Derived.Test.YtgmplpfbhcdofaaGreatKSet
namespace Go.Proofs.YtgmplpfbhcdofaaGreat
open Go.RowKit Go.Shelf Go.Lib
open Go.Sort hiding Below
attribute [local go_sem] Oper.semAt_some

def intsV (l : List Int) : List Value := l.map (Value.int .i64)
theorem intsV_len (l : List Int) : (intsV l).length = l.length := by simp [intsV]
theorem intsV_one (l : List Int) : ∀ y ∈ intsV l, y.oneCell' = true := by
  intro y hy
  obtain ⟨x, _, rfl⟩ := List.mem_map.1 hy
  rfl
theorem intsV_flat (ls : List (List Int)) : (ls.map intsV).flatten = intsV ls.flatten := by
  simp [intsV, List.map_flatten]
  rfl
def sortI (l : List Int) : List Int := l.mergeSort fun x y => decide (x ≤ y)
/-- In order, each once. -/
def uniI (l : List Int) : List Int := Lib.compact (sortI l)
theorem sortI_len (l : List Int) : (sortI l).length = l.length := List.length_mergeSort _
theorem compact_len (l : List Int) : (Lib.compact l).length ≤ l.length := by
  unfold Lib.compact Lib.compactUpTo
  rw [List.length_map]
  have := List.length_filter_le (Lib.keeps l.toArray) (List.range l.length)
  simpa using this
theorem sort_int (l : List Int) (B : Nat) (v : Value) (w : World) (ho : w.ownsRow B 3 1 v l.length (intsV l)) (hl : l.length ≤ 1000000) (hB : B ≤ w.heap.size) :
    Calls Tryz.prog 45 #[v] w fun e w' => e = .returned (.tuple #[]) ∧ w'.ownsRow B 3 1 v l.length (intsV (sortI l)) ∧ Below B w w' := by
  obtain ⟨a, c, rfl⟩ := own_slice ho
  rcases own_addr ho with ⟨rfl, h0, rfl⟩ | ⟨g, rfl, hg1, hg2⟩
  · have e0 : l = [] := List.eq_nil_of_length_eq_zero h0
    subst e0
    exact (Tryz.slices_Sort_int_none none 0 w).mono fun e w' ⟨h1, h2⟩ => ⟨h1, by rw [h2, show sortI [] = [] from by simp [sortI]]; exact ho, by rw [h2]; exact Below.refl _ _⟩
  · refine (Tryz.slices_Sort_int g 0 c l w (own_holds (enc := Value.int .i64) (d := l.toArray) (n := l.length) (by simp) ho) hg2 (by omega)).mono ?_
    rintro e w' ⟨rfl, n, os, rfl⟩
    refine ⟨rfl, ?_, below_put _ hg1 hB⟩
    exact own_put (enc := Value.int .i64) (m := n) (os := os) (sortI l).toArray (by simp [sortI]) ho
theorem compact_int (l : List Int) (B : Nat) (v : Value) (w : World) (ho : w.ownsRow B 3 1 v l.length (intsV l)) (hl : l.length ≤ 1000000) (hB : B ≤ w.heap.size) :
    Calls Tryz.prog 46 #[v] w fun e w' => ∃ v', e = .returned v' ∧ w'.ownsRow B 3 1 v' (Lib.compact l).length (intsV (Lib.compact l)) ∧ Below B w w' := by
  obtain ⟨a, c, rfl⟩ := own_slice ho
  rcases own_addr ho with ⟨rfl, h0, rfl⟩ | ⟨g, rfl, hg1, hg2⟩
  · have e0 : l = [] := List.eq_nil_of_length_eq_zero h0
    subst e0
    refine (Tryz.slices_Compact_int_empty none 0 w).mono ?_
    rintro e w' ⟨rfl, rfl⟩
    exact ⟨_, rfl, World.ownsRow_nil _ _ _ _, Below.refl _ _⟩
  · have hc : l.length ≤ c := by
      rcases ho.2 with ⟨h, _⟩ | ⟨g', c', cur, h, _, _, h3, _⟩
      · cases h
      · cases h; exact h3
    refine (Tryz.slices_Compact_int g 0 c l w (own_holds (enc := Value.int .i64) (d := l.toArray) (n := l.length) (by simp) ho) (by omega) hc).mono ?_
    rintro e w' ⟨rfl, q, rfl⟩
    have hle := compact_len l
    have h1 := own_put (enc := Value.int .i64) (m := q) (os := #[]) (Lib.compact l ++ List.replicate (l.length - (Lib.compact l).length) 0).toArray (by simp; omega) ho
    rw [grow_empty] at h1
    have h2 := own_cut h1 hle
    have h3 := below_put (enc := Value.int .i64) (m := q) (os := #[]) (Lib.compact l ++ List.replicate (l.length - (Lib.compact l).length) 0).toArray hg1 hB
    rw [grow_empty] at h3
    refine ⟨_, rfl, ?_, h3⟩
    simpa [intsV] using h2
set_option maxRecDepth 100000 in
set_option maxHeartbeats 2000000 in
theorem union_any (ls : List (List Int)) (v : Value) (w : World) (hv : RdR w v (ls.map intsV)) (hl : ls.flatten.length ≤ 1000000) :
    Calls Tryz.prog 20 #[v] w fun e w' => ∃ v', e = .returned v' ∧ w'.ownsRow w.heap.size 3 1 v' (uniI ls.flatten).length (intsV (uniI ls.flatten)) ∧ Below w.heap.size w w' := by
  have HC := Lib.hid (concat31_any (ls.map intsV) v w hv (fun r hr y hy => by obtain ⟨x, _, rfl⟩ := List.mem_map.1 hr; exact intsV_one x y hy) (by rw [intsV_flat, intsV_len]; omega))
  have HL := Lib.hid hl
  obtain ⟨vs, ⟨a, cap, rfl, _⟩, _⟩ := hv
  obtain ⟨n, hn⟩ : ∃ n, n = vs.length := ⟨_, rfl⟩
  rw [← hn] at HC ⊢
  clear hl hn
  obtain ⟨L, hL⟩ : ∃ L, L = ls.flatten := ⟨_, rfl⟩
  have HF : Hid ((ls.map intsV).flatten = intsV L) := Lib.hid (by rw [intsV_flat, hL])
  rw [← hL] at HL ⊢
  clear hL
  go_enter Tryz.func20, Tryz.ntmps20
  go_upto_region 2 with (go_at_call 44; refine HC.out.mono ?_; rintro e w1 ⟨v1, rfl, ho, hb⟩; have HO1 : Hid (w1.ownsRow w.heap.size 3 1 v1 L.length (intsV L)) := Lib.hid (by rw [HF.out, intsV_len] at ho; exact ho); have HB1 := Lib.hid hb; clear ho hb; obtain ⟨a1, c1, rfl⟩ := own_slice HO1.out)
  have HS := Lib.hid (sort_int L w.heap.size _ w1 HO1.out HL.out HB1.out.size)
  obtain ⟨n1, hn1⟩ : ∃ n, n = L.length := ⟨_, rfl⟩
  rw [← hn1] at HS ⊢
  have HN1 := Lib.hid hn1
  clear hn1 HO1
  go_upto_region 3 with (go_at_call 45; refine HS.out.mono ?_; rintro e w2 ⟨rfl, ho, hb⟩; have HO2 : Hid (w2.ownsRow w.heap.size 3 1 (.slice a1 n1 c1) (sortI L).length (intsV (sortI L))) := Lib.hid (by rw [sortI_len, ← HN1.out]; exact ho); have HB2 := Lib.hid (HB1.out.trans hb); clear ho hb)
  have HP := Lib.hid (compact_int (sortI L) w.heap.size _ w2 HO2.out (by rw [sortI_len]; exact HL.out) HB2.out.size)
  clear HO2 HS
  go_wp2_with (go_at_call 46; refine HP.out.mono ?_; rintro e w3 ⟨v3, rfl, ho, hb⟩; have HO3 := Lib.hid ho; have HB3 := Lib.hid (HB2.out.trans hb); clear ho hb)
  go_ret
  exact ⟨v3, rfl, HO3.out, HB3.out⟩
end Go.Proofs.YtgmplpfbhcdofaaGreat
