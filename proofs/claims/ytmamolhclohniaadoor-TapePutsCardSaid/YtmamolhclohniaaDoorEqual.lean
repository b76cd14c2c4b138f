/- Proved here: a part is equal to itself; slices.Equal at two rows that read as the same parts hands back true. -/
import Derived.Test.YtmamolhclohniaaDoorFew
import Derived.Laws.StructEq
namespace Go.Proofs.YtmamolhclohniaaDoor
open Go.RowKit Go.Shelf

theorem eq29 (i : Bool) (n : Int) (t : ByteArray) (w : World) : (Op.equalIn 10000 29 (.agg #[.bool i, .int .u64 n, .string t]) (.agg #[.bool i, .int .u64 n, .string t])).run Tryd.prog w = .ok true w := by
  have u4 := Tryd.underlying4
  have a4 := Tryd.isAgg4
  have z4 := Tryd.sizeOf4
  have u27 := Tryd.underlying27
  have a27 := Tryd.isAgg27
  have z27 := Tryd.sizeOf27
  have u9 := Tryd.underlying9
  have a9 := Tryd.isAgg9
  have z9 := Tryd.sizeOf9
  have hS : Tryd.prog.underlying 29 = some (.struct (Tryd.prog.fieldsOf 29)) := by kernel_rfl
  have hp : Tryd.prog.stoodInHeld 29 = false := by kernel_rfl
  rw [show (10000 : Nat) = 9999 + 1 from rfl, run_equalIn_agg w 9999 29 _ _ hS hp]
  simp only [Program.fieldsOf, Tryd.underlying29]
  go_simp
theorem neq29 (i : Bool) (n : Int) (t : ByteArray) (w : World) : (binOp .neq 29 (.agg #[.bool i, .int .u64 n, .string t]) (.agg #[.bool i, .int .u64 n, .string t])).run Tryd.prog w = .ok (.bool false) w := by
  rw [run_neq_struct, eq29]
  rfl
theorem guard29 : Tryd.prog.eqGuardType Tryd.prog.depth 29 = false := by kernel_rfl

def EqR (w : World) (e : Ending) (w' : World) : Prop := e = .returned (.bool true) ∧ Below w.heap.size w w'

set_option maxRecDepth 100000 in
set_option maxHeartbeats 2000000 in
theorem equal_any (l : List Part) (v1 v2 : Value) (w : World) (h1 : RdP w v1 l) (h2 : RdP w v2 l) : Calls Tryd.prog 17 #[v1, v2] w (EqR w) := by
  obtain ⟨a1, cap1, rfl, hlc1, hcm1, hc1⟩ := h1
  obtain ⟨a2, cap2, rfl, hlc2, hcm2, hc2⟩ := h2
  unfold maxLen at hcm1 hcm2
  obtain ⟨n, hn⟩ : ∃ n, n = l.length := ⟨_, rfl⟩
  rw [← hn] at hlc1 hlc2 hc1 hc2
  rw [← hn]
  have HN := Lib.hid hn
  have H1 := Lib.hid hc1
  have H2 := Lib.hid hc2
  clear hn hc1 hc2
  have t0 : ((n : Int) == (n : Int)) = true := by simp
  go_enter Tryd.func17, Tryd.ntmps17
  go_wp2
  go_loopw [5, 13, 14, 15, 16, 17, 18, 19, 20, 21, 22, 23, 24, 25] (fun _ i _ _ _ _ _ _ _ _ _ _ _ _ wr => ∃ k : Nat, k ≤ n ∧ i = .int .i64 k ∧ Below w.heap.size w wr) (fun _ i _ _ _ _ _ _ _ _ _ _ _ _ _ => n - (Lib.intOf i).toNat)
  case atStart => exact ⟨0, Nat.zero_le _, rfl, Below.refl _ _⟩
  case round =>
    obtain ⟨k, hk, rfl, hB⟩ := hrel
    by_cases hlt : k < n
    · obtain ⟨p, hp⟩ : ∃ p, l[k]? = some p := ⟨_, List.getElem?_eq_getElem (by have := HN.out; omega)⟩
      obtain ⟨g1, o1, rfl, hg1, hc1⟩ := H1.out (by omega)
      obtain ⟨g2, o2, rfl, hg2, hc2⟩ := H2.out (by omega)
      obtain ⟨q0, q1, q2⟩ := hc1 k p hp
      obtain ⟨s0, s1, s2⟩ := hc2 k p hp
      have r0 := (hB.cell (p := ⟨g1, _, none⟩) hg1).trans q0
      have r1 := (hB.cell (p := ⟨g1, _, none⟩) hg1).trans q1
      have r2 := (hB.cell (p := ⟨g1, _, none⟩) hg1).trans q2
      have x0 := (hB.cell (p := ⟨g2, _, none⟩) hg2).trans s0
      have x1 := (hB.cell (p := ⟨g2, _, none⟩) hg2).trans s1
      have x2 := (hB.cell (p := ⟨g2, _, none⟩) hg2).trans s2
      have hne := neq29 p.isText p.num ⟨p.text.toArray⟩
      have hgd := guard29
      clear q0 q1 q2 s0 s1 s2 hc1 hc2 hp
      go_wp2
      go_region
      go_wp2
      go_roundw
      case rel => exact ⟨k + 1, hlt, by go_num, hB.drew⟩
      case measure => simp [Lib.intOf]; omega
    · go_wp2
      go_ret
      exact ⟨rfl, hB⟩
end Go.Proofs.YtmamolhclohniaaDoor
