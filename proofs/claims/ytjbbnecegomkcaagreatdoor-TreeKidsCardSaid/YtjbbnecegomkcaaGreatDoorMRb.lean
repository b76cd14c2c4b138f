/- More of the shelf: what slices.Equal of texts does. | Proved here: slices.Equal, Same, few, own, Below and Kids of package tree, and wakes of puncheonlaw06, which returns true. | Proved here: Get of package tree at whatever path, and Do. | Proved here: Right of puncheonref06 says of a tree whether it may be, for every tree whose paths have at most two million letters each. | Proved here: Beneath of puncheonref01 for paths of at most two million letters each. | Proved here: Beneath of puncheonref01 again, with what its answer's row looks like. | Proved here: with, without, Under and Below of puncheonref06. | Proved here: with of puncheonref06. | Proved here: dir, open and makes of puncheonref06. -/
import Derived.Test.YtjbbnecegomkcaaGreatDoorShelf
import Derived.Shelf.LaysM
import Derived.Shelf.Strings.Shaped
import Derived.Shelf.Strings.Split
import Derived.Shelf.Strings.SplitShaped
import Derived.Test.YtjbbnecegomkcaaGreatDoorWEq
import Derived.Test.YtjbbnecegomkcaaGreatDoorOGrow
import Derived.Laws.StructEq
import Derived.Test.YtjbbnecegomkcaaGreatDoorOMov0
import Derived.Test.YtjbbnecegomkcaaGreatDoorOBusy
import Derived.Test.YtjbbnecegomkcaaGreatDoorParts
import Derived.Test.YtjbbnecegomkcaaGreatDoorMRo
import Derived.Test.YtjbbnecegomkcaaGreatDoorMRa
import Derived.Deep.RegionHeld
import Derived.Laws.AppendOwnNone
namespace Go.Proofs
def Tryz.lays102_ren : Go.Shelf.Ren := ⟨fun | 102 => 111 | 209 => 126 | 207 => 135 | n => n, fun | 9 => 9 | 4 => 4 | 3 => 3 | n => n, fun | n => n⟩
def Tryz.laysM146_ren : Go.Shelf.Ren := ⟨fun | 146 => 93 | 221 => 109 | 268 => 123 | 138 => 140 | 143 => 146 | 195 => 144 | 197 => 133 | 218 => 145 | 219 => 127 | 260 => 144 | 217 => 135 | 225 => 136 | 224 => 137 | 267 => 138 | 266 => 142 | 314 => 143 | n => n, fun | 9 => 9 | 31 => 41 | 3 => 3 | 4 => 4 | 0 => 0 | 105 => 156 | 21 => 21 | 5 => 5 | 46 => 60 | 119 => 174 | 139 => 177 | 138 => 176 | 146 => 155 | 51 => 118 | n => n, fun | 1 => 2 | 3 => 4 | 4 => 5 | n => n⟩
def Tryz.lays193_ren : Go.Shelf.Ren := ⟨fun | 193 => 25 | n => n, fun | 31 => 41 | 9 => 9 | 4 => 4 | 3 => 3 | 0 => 0 | n => n, fun | n => n⟩
theorem Tryz.lays193 : Go.Proofs.Lays.n193 Tryz.prog Tryz.lays193_ren := {
  mixed := by kernel_rfl
  f193 := Tryz.func25.trans (congrArg some (by kernel_rfl))
  t0 := Tryz.underlying0
  a0 := Tryz.isAgg0
  z0 := Tryz.sizeOf0
  v0 := Tryz.zeroValue0
  t3 := Tryz.underlying3
  a3 := Tryz.isAgg3
  z3 := Tryz.sizeOf3
  v3 := Tryz.zeroValue3
  t4 := Tryz.underlying4
  a4 := Tryz.isAgg4
  z4 := Tryz.sizeOf4
  v4 := Tryz.zeroValue4
  t9 := Tryz.underlying9
  a9 := Tryz.isAgg9
  z9 := Tryz.sizeOf9
  v9 := Tryz.zeroValue9
  t31 := Tryz.underlying41
  a31 := Tryz.isAgg41
  z31 := Tryz.sizeOf41
  v31 := Tryz.zeroValue41 }
open Go.RowKit Go.Lib in
theorem Tryz.slices_Equal_string (b1 o1 n c b2 o2 m d : Nat) (xs ys : List ByteArray) (w : World) (hx : n ≤ xs.length) (hy : m ≤ ys.length) (hbig : n ≤ 9223372036854775807) (hbig2 : m ≤ 9223372036854775807) (hc1 : ∀ j, j < xs.length → w.cell? ⟨b1, o1 + j, none⟩ = some (.string (xs.getD j ByteArray.empty))) (hc2 : ∀ j, j < ys.length → w.cell? ⟨b2, o2 + j, none⟩ = some (.string (ys.getD j ByteArray.empty))) :
    Calls Tryz.prog 25 #[.slice (some ⟨b1, o1, none⟩) n c, .slice (some ⟨b2, o2, none⟩) m d] w fun e w' => e = .returned (.bool (decide (xs.take n = ys.take m))) ∧ ∃ q, w' = w.drewN q := Any.slices_Equal_string Tryz.lays193 b1 o1 n c b2 o2 m d xs ys w hx hy hbig hbig2 hc1 hc2
open Go.RowKit Go.Lib in
theorem Tryz.slices_Equal_string_empty (a1 a2 : Option Addr) (c m d : Nat) (w : World) (hbig2 : m ≤ 9223372036854775807) :
    Calls Tryz.prog 25 #[.slice a1 0 c, .slice a2 m d] w fun e w' => e = .returned (.bool (decide (m = 0))) ∧ w' = w := Any.slices_Equal_string_empty Tryz.lays193 a1 a2 c m d w hbig2
def Tryz.laysNm216_ren : Go.Shelf.Ren := ⟨fun | 16 => 41 | n => n, fun | 24 => 41 | 9 => 9 | 4 => 4 | n => n, fun | n => n⟩
open Go.RowKit Go.Lib in
theorem Tryz.slices_Equal_string_lens (a1 a2 : Option Addr) (n c m d : Nat) (w : World) (hnm : n ≠ m) :
    Calls Tryz.prog 25 #[.slice a1 n c, .slice a2 m d] w fun e w' => e = .returned (.bool false) ∧ w' = w := Any.slices_Equal_string_lens Tryz.lays193 a1 a2 n c m d w hnm

end Go.Proofs

namespace Go.Proofs.YtjbbnecegomkcaaGreatDoor
open Go.RowKit Go.Shelf

theorem neq35 (x y : It) (b : Bool) (hb : b = !decide (x = y)) (w : World) : (binOp .neq 33 (.agg #[.string ⟨x.path.toArray⟩, .int .i64 x.kind, .string ⟨x.data.toArray⟩]) (.agg #[.string ⟨y.path.toArray⟩, .int .i64 y.kind, .string ⟨y.data.toArray⟩])).run Tryz.prog w = .ok (.bool b) w := by
  rw [run_neq_struct, eq35, hb]
  rfl
theorem guard35 : Tryz.prog.eqGuardType Tryz.prog.depth 33 = false := by kernel_rfl
theorem list_ne {α : Type} {l m : List α} {k : Nat} {x y : α} (hx : l[k]? = some x) (hy : m[k]? = some y) (h : x ≠ y) : l ≠ m := fun e => by
  subst e
  exact h (Option.some.inj (hx.symm.trans hy))
def EqR (b : Bool) (w : World) (e : Ending) (w' : World) : Prop := e = .returned (.bool b) ∧ Below w.heap.size w w'

set_option maxRecDepth 100000 in
set_option maxHeartbeats 2000000 in
theorem equal_any (l m : List It) (v1 v2 : Value) (w : World) (h1 : RdI w v1 l) (h2 : RdI w v2 m) : Calls Tryz.prog 17 #[v1, v2] w (EqR (decide (l = m)) w) := by
  obtain ⟨a1, cap1, rfl, hlc1, hcm1, hc1⟩ := h1.open
  obtain ⟨a2, cap2, rfl, hlc2, hcm2, hc2⟩ := h2.open
  unfold maxLen at hcm1 hcm2
  by_cases hlen : l.length = m.length
  · rw [← hlen] at hlc2 hc2 ⊢
    obtain ⟨n, hn⟩ : ∃ n, n = l.length := ⟨_, rfl⟩
    rw [← hn] at hlc1 hlc2 hc1 hc2
    rw [← hn]
    have HN := Lib.hid hn
    have HNM : Hid (n = m.length) := Lib.hid (hn.trans hlen)
    have H1 := Lib.hid hc1
    have H2 := Lib.hid hc2
    clear hn hc1 hc2 hlen h1 h2
    have t0 : ((n : Int) == (n : Int)) = true := by simp
    go_enter Tryz.func17, Tryz.ntmps17
    go_wp2
    go_loopw [5, 13, 14, 15, 16, 17, 18, 19, 20, 21, 22, 23, 24, 25] (fun _ i _ _ _ _ _ _ _ _ _ _ _ _ wr => ∃ k : Nat, k ≤ n ∧ i = .int .i64 k ∧ Hid (∀ j, j < k → l[j]? = m[j]?) ∧ Below w.heap.size w wr) (fun _ i _ _ _ _ _ _ _ _ _ _ _ _ _ => n - (Lib.intOf i).toNat)
    case atStart => exact ⟨0, Nat.zero_le _, rfl, Lib.hid (fun j h => by omega), Below.refl _ _⟩
    case round =>
      obtain ⟨k, hk, rfl, HE, hB⟩ := hrel
      by_cases hlt : k < n
      · obtain ⟨p, hp⟩ : ∃ p, l[k]? = some p := ⟨_, List.getElem?_eq_getElem (by have := HN.out; omega)⟩
        obtain ⟨q, hq⟩ : ∃ q, m[k]? = some q := ⟨_, List.getElem?_eq_getElem (by have := HNM.out; omega)⟩
        obtain ⟨g1, o1, rfl, hg1, hc1⟩ := H1.out (by omega)
        obtain ⟨g2, o2, rfl, hg2, hc2⟩ := H2.out (by omega)
        obtain ⟨q0, q1, q2⟩ := hc1 k p hp
        obtain ⟨s0, s1, s2⟩ := hc2 k q hq
        have r0 := (hB.cell (p := ⟨g1, _, none⟩) hg1).trans q0
        have r1 := (hB.cell (p := ⟨g1, _, none⟩) hg1).trans q1
        have r2 := (hB.cell (p := ⟨g1, _, none⟩) hg1).trans q2
        have x0 := (hB.cell (p := ⟨g2, _, none⟩) hg2).trans s0
        have x1 := (hB.cell (p := ⟨g2, _, none⟩) hg2).trans s1
        have x2 := (hB.cell (p := ⟨g2, _, none⟩) hg2).trans s2
        have hgd := guard35
        have HP := Lib.hid hp
        have HQ := Lib.hid hq
        clear q0 q1 q2 s0 s1 s2 hc1 hc2 hp hq
        by_cases hpq : p = q
        · have hne := neq35 p q false (by simp [hpq])
          have HE' : Hid (∀ j, j < k + 1 → l[j]? = m[j]?) := Lib.hid (fun j hj => by
            by_cases e : j = k
            · subst e; rw [HP.out, HQ.out, hpq]
            · exact HE.out j (by omega))
          clear hpq
          go_wp2
          go_region
          go_wp2
          go_roundw
          case rel => exact ⟨k + 1, hlt, by go_num, HE', hB.drew⟩
          case measure => simp [Lib.intOf]; omega
        · have hne := neq35 p q true (by simp [hpq])
          have HD : Hid (decide (l = m) = false) := Lib.hid (decide_eq_false (list_ne HP.out HQ.out hpq))
          clear hpq
          go_wp2
          go_region
          go_wp2
          go_ret
          exact ⟨by rw [HD.out]; rfl, hB.drew⟩
      · have HD : Hid (decide (l = m) = true) := Lib.hid (decide_eq_true (List.ext_getElem? fun j => by
          by_cases h : j < k
          · exact HE.out j h
          · rw [List.getElem?_eq_none (by have := HN.out; omega), List.getElem?_eq_none (by have := HNM.out; omega)]))
        go_wp2
        go_ret
        exact ⟨by rw [HD.out]; rfl, hB⟩
  · have t0 : ((l.length : Int) == (m.length : Int)) = false := by simpa using fun h => hlen (by omega)
    have HD : decide (l = m) = false := decide_eq_false fun e => hlen (by rw [e])
    obtain ⟨n1, hn1⟩ : ∃ n, n = l.length := ⟨_, rfl⟩
    obtain ⟨n2, hn2⟩ : ∃ n, n = m.length := ⟨_, rfl⟩
    rw [← hn1, ← hn2] at t0 ⊢
    rw [HD]
    clear hc1 hc2 h1 h2 hlen HD hlc1 hlc2 hn1 hn2
    have t1 : ¬ (n1 : Int) = (n2 : Int) := by simpa using t0
    go_enter Tryz.func17, Tryz.ntmps17
    go_wp2
    go_ret
    exact ⟨rfl, Below.refl _ _⟩

set_option maxRecDepth 100000 in
set_option maxHeartbeats 1000000 in
theorem same_any (l m : List It) (v1 v2 : Value) (w : World) (h1 : RdI w v1 l) (h2 : RdI w v2 m) : Calls Tryz.prog 18 #[.agg #[v1], .agg #[v2]] w (EqR (decide (l = m)) w) := by
  obtain ⟨w1, hw1⟩ : ∃ z, z = (w.alloc (.cells #[v1] 24)).alloc (.cells #[v2] 24) := ⟨_, rfl⟩
  have X : Box w1 w.heap.size 24 #[v1] := by rw [hw1]; exact box_new.alloc _
  have Y : Box w1 (w.heap.size + 1) 24 #[v2] := by rw [hw1, show w.heap.size + 1 = (w.alloc (.cells #[v1] 24)).heap.size from by simp]; exact box_new
  have HB : Hid (Below w.heap.size w w1) := Lib.hid (by rw [hw1]; exact bch (below_new _ _) (below_new _ _))
  have HE := Lib.hid (equal_any l m v1 v2 w1 (h1.on HB.out) (h2.on HB.out))
  obtain ⟨z, hz⟩ : ∃ z, z = decide (l = m) := ⟨_, rfl⟩
  rw [← hz] at HE ⊢
  obtain ⟨a1, c1, rfl, _⟩ := h1.open
  obtain ⟨a2, c2, rfl, _⟩ := h2.open
  have c0 := X.cell (k := 0) rfl
  have d0 := Y.cell (k := 0) rfl
  clear hz h1 h2
  go_enter Tryz.func18, Tryz.ntmps18
  go_upto_region 1 with fail
  rw [← hw1]
  clear hw1 X Y
  go_wp2_with fail
  refine HE.out.mono ?_
  rintro e w2 ⟨rfl, hb⟩
  go_wp2_with fail
  go_ret
  exact ⟨rfl, bch HB.out hb⟩

/-- The items that few keeps. -/
def fewL (l : List It) : List It := if 2000 < l.length then l.take 2001 else l.take 120
def FewR (l : List It) (w : World) (e : Ending) (w' : World) : Prop := ∃ x, e = .returned x ∧ OwnI w' w.heap.size x (fewL l) ∧ Below w.heap.size w w'
set_option maxRecDepth 100000 in
set_option maxHeartbeats 2000000 in
theorem few_any (l : List It) (v : Value) (w : World) (hv : RdI w v l) : Calls Tryz.prog 12 #[v] w (FewR l w) := by
  obtain ⟨a, c, rfl, hlc, hcm, _⟩ := hv.open
  obtain ⟨n, hn⟩ : ∃ n, n = l.length := ⟨_, rfl⟩
  have hv1 := hv
  rw [← hn] at hlc hv1 ⊢
  unfold maxLen at hcm
  by_cases hbig : 2000 < n
  · have hf : fewL l = l.take 2001 := if_pos (by omega)
    have HTK : RdI w (.slice a 2001 c) (l.take 2001) := RdI.take hn hv1 2001 (by omega)
    have HCL := Lib.hid (clone_any (l.take 2001) _ w HTK (by rw [List.length_take]; omega))
    have k1 : (2001 : Int) ≤ (c : Int) := by omega
    have k3 : (2000 : Int) < (n : Int) := by omega
    have hcI : (c : Int) ≤ 9223372036854775807 := by omega
    rw [show (2001 : Nat) = (l.take 2001).length by rw [List.length_take]; omega] at HTK
    obtain ⟨q, hq⟩ : ∃ q, q = (l.take 2001).length := ⟨_, rfl⟩
    have HQ := Lib.hid hq
    have HF := Lib.hid hf
    clear hv hv1 HTK hn hf hq
    go_enter Tryz.func12, Tryz.ntmps12
    go_wp2_with fail
    refine HCL.out.mono ?_
    rintro e w2 ⟨x', rfl, hown, hb2⟩
    go_wp2_with fail
    go_ret
    exact ⟨x', rfl, by rw [HF.out]; exact hown, hb2⟩
  · have hf : fewL l = l.take 120 := if_neg (by omega)
    obtain ⟨m, hm⟩ : ∃ m, m = min n 120 := ⟨_, rfl⟩
    have hmn : m ≤ n := by omega
    have HTK : RdI w (.slice a m c) (l.take 120) := by
      have := RdI.take hn hv1 m hmn
      rwa [show l.take m = l.take 120 by rw [List.take_eq_take_iff]; omega] at this
    have HCL := Lib.hid (clone_any (l.take 120) _ w HTK (by rw [List.length_take]; omega))
    have k1 : (m : Int) ≤ (c : Int) := by omega
    have k0 : (0 : Int) ≤ (m : Int) := by omega
    have k3 : ¬ (2000 : Int) < (n : Int) := by omega
    have hmm : min (n : Int) 120 = (m : Int) := by omega
    have hmx : m = n ∨ m = 120 := by omega
    have hcI : (c : Int) ≤ 9223372036854775807 := by omega
    have HF := Lib.hid hf
    clear hv hv1 HTK hn hf hm
    go_enter Tryz.func12, Tryz.ntmps12
    go_wp2_with fail
    refine HCL.out.mono ?_
    rintro e w2 ⟨x', rfl, hown, hb2⟩
    go_wp2_with fail
    go_ret
    exact ⟨x', rfl, by rw [HF.out]; exact hown, hb2⟩

def OwnR (l : List It) (w : World) (e : Ending) (w' : World) : Prop := ∃ x, e = .returned (.agg #[x]) ∧ OwnI w' w.heap.size x (fewL l) ∧ Below w.heap.size w w'
set_option maxRecDepth 100000 in
set_option maxHeartbeats 2000000 in
theorem own6_any (l : List It) (v : Value) (w : World) (hv : RdI w v l) : Calls Tryz.prog 9 #[.agg #[v]] w (OwnR l w) := by
  obtain ⟨w1, hw1⟩ : ∃ z, z = (w.alloc (.cells #[v] 24)).alloc (.cells #[.slice none 0 0] 24) := ⟨_, rfl⟩
  have X : Box w1 w.heap.size 24 #[v] := by rw [hw1]; exact box_new.alloc _
  have X1 : Hid (Box w1 (w.heap.size + 1) 24 #[.slice none 0 0]) := Lib.hid (by rw [hw1, show w.heap.size + 1 = (w.alloc (.cells #[v] 24)).heap.size from by simp]; exact box_new)
  have HB1 : Hid (Below w.heap.size w w1) := Lib.hid (by rw [hw1]; exact bch (below_new _ _) (below_new _ _))
  obtain ⟨b2, hb2⟩ : ∃ z, z = w.heap.size + 1 := ⟨_, rfl⟩
  rw [← hb2] at X1
  have HB2 : Hid (w.heap.size ≤ b2) := Lib.hid (by rw [hb2]; exact Nat.le_succ _)
  have c0 := X.cell (k := 0) rfl
  have HF := Lib.hid (few_any l v w1 (hv.on HB1.out))
  obtain ⟨a, c, rfl, _⟩ := hv.open
  clear hv X
  go_enter Tryz.func9, Tryz.ntmps9
  go_upto_region 1 with fail
  rw [← hw1, ← hb2]
  clear hw1 hb2
  go_wp2_with fail
  refine HF.out.mono ?_
  rintro e w2 ⟨x', rfl, hown, hb2⟩
  have HO := Lib.hid hown
  obtain ⟨a', n', c', rfl⟩ := own_any hown
  have X2 := Lib.hid (X1.out.on hb2)
  have HB3 := Lib.hid (bch HB1.out hb2)
  clear hown hb2 c0 HF
  go_wp2_with (refine wpList_store_row rfl 24 (.tmp 2) (.tmp 6) rfl b2 #[.slice a' n' c'] rfl rfl 24 _ X2.out (info24 _) rfl (slice_one _ _ _) ?_)
  exact bodyPost_ret (results_cell_row rfl _ _ b2 24 #[.slice a' n' c'] (0, 0) _ rfl (X2.out.row _) Tryz.underlying24 rfl (info24 _)) rfl
    ⟨_, rfl, own_base (own_grown HO.out (grown_row w2 b2 _) X1.out.lt) HB1.out.size, below_row HB3.out HB2.out _⟩
end Go.Proofs.YtjbbnecegomkcaaGreatDoor

namespace Go.Proofs.YtjbbnecegomkcaaGreatDoor
open Go.RowKit Go.Shelf
attribute [local go_sem] Oper.semAt_some

theorem ownR_far {w w' : World} {B e s n : Nat} {v : Value} {xs : List Value} (h : w.ownsRow B e s v n xs) (hb : ∀ k, v.ownBlock = some k → w'.heap[k]? = w.heap[k]?) : w'.ownsRow B e s v n xs := by
  obtain ⟨h1, hc⟩ := h
  rcases hc with h0 | ⟨g, c, cur, rfl, hB, hg, hr⟩
  · exact ⟨h1, .inl h0⟩
  · exact ⟨h1, .inr ⟨g, c, cur, rfl, hB, (hb g rfl).trans hg, hr⟩⟩
theorem ownR_form {w : World} {B e s n : Nat} {v : Value} {xs : List Value} (h : w.ownsRow B e s v n xs) : v.ownBlock = none ∨ ∃ b cs, v.ownBlock = some b ∧ B ≤ b ∧ w.heap[b]? = some (.cells cs e (0, 0)) := by
  rcases h.2 with ⟨rfl, _⟩ | ⟨g, c, cur, rfl, hB, hg, _⟩
  · exact .inl rfl
  · exact .inr ⟨g, cur, rfl, hB, hg⟩
theorem ownR_blk {w : World} {B e s n : Nat} {v : Value} {xs : List Value} (h : w.ownsRow B e s v n xs) {k : Nat} (hk : v.ownBlock = some k) : B ≤ k ∧ ∃ cs, w.heap[k]? = some (.cells cs e (0, 0)) := by
  rcases ownR_form h with q | ⟨b, cs, q, h1, h2⟩
  · rw [q] at hk; cases hk
  · rw [q] at hk; cases hk; exact ⟨h1, cs, h2⟩
theorem ownR_below {w w' : World} {B e s n : Nat} {v : Value} {xs : List Value} (h : w.ownsRow B e s v n xs) (hb : Below w.heap.size w w') : w'.ownsRow B e s v n xs :=
  ownR_far h fun k hk => by
    obtain ⟨_, cs, hc⟩ := ownR_blk h hk
    exact hb.block k (Array.getElem?_eq_some_iff.1 hc).1
theorem ownR_any {w : World} {B e s n : Nat} {v : Value} {xs : List Value} (h : w.ownsRow B e s v n xs) : ∃ a c, v = .slice a n c := by
  rcases h.2 with ⟨rfl, rfl⟩ | ⟨g, c, cur, rfl, _⟩
  · exact ⟨_, _, rfl⟩
  · exact ⟨_, _, rfl⟩

/-- What a gathering loop keeps: the box b (of type t) holds a row of its own. -/
def gI (V : World) (b t e s : Nat) {α : Type} (N : List α → Nat) (F : List α → List Value) (pre : List α) (W : World) : Prop :=
  ∃ v10, Box W b t #[v10] ∧ W.ownsRow V.heap.size e s v10 (N pre) (F pre) ∧ Nxt b (.slice none 0 0) v10 V W
theorem gI_own (V : World) (b t e s : Nat) {α : Type} (N : List α → Nat) (F : List α → List Value) : OwnFrom V.heap.size (gI V b t e s N F) := by
  rintro pre W W' row ⟨v10, hX, hO, hN⟩ hg hr
  have hne : ∀ r, row = some r → ∃ o : Obj, W.heap[r]? = some o ∧ o.isCells = false := fun r e => (hr r e).2
  refine ⟨v10, (hg.block _ hX.lt (cells_ne hX hne)).trans hX, ownR_far hO fun k hk => ?_, ⟨hg.os.trans hN.os, hg.tape.trans hN.tape, hg.output.trans hN.output, Nat.le_trans hN.size hg.size, fun k hk h2 h3 => ?_, hN.row⟩⟩
  · obtain ⟨_, cs, hc⟩ := ownR_blk hO hk
    exact hg.block _ (Array.getElem?_eq_some_iff.1 hc).1 (cells_ne hc hne)
  · refine (hg.block k (Nat.lt_of_lt_of_le hk hN.size) fun e => ?_).trans (hN.block k hk h2 h3)
    have := (hr k e.symm).1
    omega
theorem gI_on {V W W' : World} {b t e s : Nat} {α : Type} {N : List α → Nat} {F : List α → List Value} {pre : List α} (h : gI V b t e s N F pre W) (hb : Below W.heap.size W W') : gI V b t e s N F pre W' := by
  obtain ⟨v10, hX, hO, hN⟩ := h
  exact ⟨v10, hX.on hb, ownR_below hO hb, hN.trans (Nxt.below hb _ _)⟩
theorem gI_start {V : World} {b t e s : Nat} {α : Type} {N : List α → Nat} {F : List α → List Value} (hX : Box V b t #[.slice none 0 0]) (h0 : N [] = 0) (h1 : F [] = []) : gI V b t e s N F [] V :=
  ⟨_, hX, by rw [h0, h1]; exact World.ownsRow_nil _ _ _ _, ⟨rfl, rfl, rfl, Nat.le_refl _, fun _ _ _ _ => rfl, .inl rfl⟩⟩
/-- What a round that gathers comes to. -/
theorem gI_step {V W W5 w' : World} {b t e s : Nat} {α : Type} {N : List α → Nat} {F : List α → List Value} {pre : List α} {y : α} {v10 v' : Value} (hX : Box W b t #[v10]) (hO : W.ownsRow V.heap.size e s v10 (N pre) (F pre)) (hN : Nxt b (.slice none 0 0) v10 V W) (hbV : b < V.heap.size)
    (hb : Below W.heap.size W W5) (hown : w'.ownsRow V.heap.size e s v' (N (pre ++ [y])) (F (pre ++ [y]))) (hg : W5.grownBy w' v10.ownBlock) (S : Nat → Prop) (hS : ∀ k, S k → k < V.heap.size ∧ k ≠ b) :
    KeepsFrom V.heap.size W (w'.setCell ⟨b, 0, none⟩ v') ∧ LowK S W (w'.setCell ⟨b, 0, none⟩ v') ∧ gI V b t e s N F (pre ++ [y]) (w'.setCell ⟨b, 0, none⟩ v') := by
  have hVW := hN.size
  have hgW := hX.lt
  have hlow : ∀ k, v10.ownBlock = some k → V.heap.size ≤ k := fun k hk => (ownR_blk hO hk).1
  have keep : ∀ k, k < W.heap.size → k ≠ b → v10.ownBlock ≠ some k → (w'.setCell ⟨b, 0, none⟩ v').heap[k]? = W.heap[k]? := fun k h1 h3 h4 =>
    (heap_setCell_other _ _ _ _ h3).trans ((hg.block k (Nat.lt_of_lt_of_le h1 hb.size) (fun e => h4 e.symm)).trans (hb.block k h1))
  have hXw : Box w' b t #[v10] := (hg.block _ (Nat.lt_of_lt_of_le hgW hb.size) (fun e => by have := hlow b e.symm; omega)).trans ((hb.block _ hgW).trans hX)
  have hrow' : v'.ownBlock ≠ some b := fun e => by have := (ownR_blk hown e).1; omega
  have hsz : (w'.setCell ⟨b, 0, none⟩ v').heap.size = w'.heap.size := by simp
  have hsz2 := hg.size
  have hsz3 := hb.size
  refine ⟨⟨by omega, fun k ob hk hob hoc => ?_⟩, fun k hk => ?_, v', hXw.set (k := 0) v', ?_, ⟨?_, ?_, ?_, by omega, fun k h1 h2 h3 => ?_, .inr fun k hk => (ownR_blk hown hk).1⟩⟩
  · have hlt : k < W.heap.size := (Array.getElem?_eq_some_iff.1 hob).1
    rw [← hob]
    refine keep k hlt (fun e => by omega) (fun e => ?_)
    obtain ⟨_, cs, hc⟩ := ownR_blk hO e
    rw [hc] at hob; cases hob; cases hoc
  · obtain ⟨h1, h2⟩ := hS k hk
    exact keep k (by omega) h2 (fun e => by have := hlow k e; omega)
  · exact ownR_far hown fun k hk => heap_setCell_other _ _ _ _ (fun h => hrow' (by rw [hk, show k = b from h]))
  · exact hg.os.trans (hb.os.trans hN.os)
  · exact hg.tape.trans (hb.tape.trans hN.tape)
  · exact hg.output.trans (hb.output.trans hN.output)
  · exact (keep k (by omega) h2 (fun e => by have := hlow k e; omega)).trans (hN.block k h1 h2 h3)

def BelR (l : List It) (p : Str) (w : World) (e : Ending) (w' : World) : Prop := ∃ x, e = .returned x ∧ OwnI w' w.heap.size x (belowL l p) ∧ Below w.heap.size w w'
def itN {l : List It} {p : Str} (pre : List (Ben l p)) : Nat := (pre.map (·.1)).length
def itF {l : List It} {p : Str} (pre : List (Ben l p)) : List Value := flatI (pre.map (·.1))
theorem it_step {l : List It} {p : Str} (pre : List (Ben l p)) (y : Ben l p) : itN (pre ++ [y]) = itN pre + 1 ∧ itF (pre ++ [y]) = itF pre ++ flatI [y.1] := by
  unfold itN itF
  rw [List.map_append, flatI_append, List.length_append]
  exact ⟨rfl, rfl⟩

set_option maxRecDepth 100000 in
set_option maxHeartbeats 4000000 in
theorem below_any (B : Nat) (l : List It) (v : Value) (p : Str) (w : World) (ho : OwnI w B v l) (h : TreeOk l) (hp : p.length ≤ 140737488355328) (hT : Tabs w) :
    Calls Tryz.prog 24 #[.agg #[v], .string ⟨p.toArray⟩] w (BelR l p w) := by
  have hv : RdI w v l := RdF.of_own ho
  have hog : ∀ k, v.ownBlock = some k → k < w.heap.size := fun k e => by
    obtain ⟨_, cs, hc⟩ := ownR_blk ho e
    exact (Array.getElem?_eq_some_iff.1 hc).1
  have HOG := Lib.hid hog
  clear hog ho
  refine (callsIn_wide (n := 5)).1 ?_
  obtain ⟨w1, hw1⟩ : ∃ z, z = w.alloc (.cells #[v] 24) := ⟨_, rfl⟩
  obtain ⟨b2, hb2⟩ : ∃ z, z = w.heap.size := ⟨_, rfl⟩
  have HB1 : Hid (Below w.heap.size w w1) := Lib.hid (by rw [hw1]; exact below_new _ _)
  have X1 : Hid (Box w1 b2 24 #[v]) := Lib.hid (by rw [hw1, hb2]; exact box_new)
  have HVA := Lib.hid (tvalid_is l true ((valid_tree l).2 h).symm v w1 (hv.on HB1.out) (tree_sz h) (hT.on HB1.out))
  obtain ⟨a, c, rfl, _⟩ := hv.open
  obtain ⟨n, hn⟩ : ∃ n, n = l.length := ⟨_, rfl⟩
  rw [← hn] at hw1 X1 HVA HOG ⊢
  have HV : Hid (RdI w (.slice a n c) l) := Lib.hid (by rw [hn]; exact hv)
  have HOK := Lib.hid h
  have HBE : Hid (∀ W, Calls Tryz.prog 49 #[.slice a n c, .string ⟨p.toArray⟩] W fun e w' => e = .returned (.func (.func 70) #[] #[.pointer (some ⟨W.heap.size, 0, none⟩), .pointer (some ⟨W.heap.size + 1, 0, none⟩)]) ∧ (W.alloc (.cells #[.slice a n c] 22)).alloc (.cells #[.string ⟨p.toArray⟩] 9) = w') := Lib.hid (fun W => ben_any a n c p W)
  have HW1 := Lib.hid hw1
  have HB2 := Lib.hid hb2
  have c0 : (w.alloc (.cells #[.slice a n c] 24)).cell? ⟨w.heap.size, 0, none⟩ = some (.slice a n c) := by rw [← hw1, ← hb2]; exact X1.out.cell (k := 0) rfl
  clear hv h hT hw1 hb2 hn
  refine callsIn_of_wp_marks Tryz.func24 rfl trivial ?_ rfl
  simp only [Tryz.ntmps24, List.size_toArray, List.length_cons, List.length_nil, Nat.reduceAdd, Nat.reduceSub, Array.replicate_succ, Array.replicate_zero, List.push_toArray, List.append_toArray, List.nil_append, List.cons_append]
  gi_wp2_with (first | (refine ⟨trivial, ?_⟩; gi_at_call 38; rw [← HW1.out, ← HB2.out]; refine (callsIn_wide.2 HVA.out).mono ?_; rintro e w2 ⟨rfl, hb⟩; have X2 := Lib.hid (X1.out.on hb); have HB3 := Lib.hid (bch HB1.out hb); have p3 : (w2.alloc (.cells #[.slice none 0 0] 22)).cell? ⟨b2, 0, none⟩ = some (.slice a n c) := (X2.out.alloc _).cell (k := 0) rfl; clear hb c0))
  refine ⟨trivial, ?_⟩
  gi_at_call 49
  obtain ⟨b5, hb5⟩ : ∃ z, z = w2.heap.size := ⟨_, rfl⟩
  obtain ⟨w3, hw3⟩ : ∃ z, z = w2.alloc (.cells #[.slice none 0 0] 22) := ⟨_, rfl⟩
  have X5 : Hid (Box w3 b5 22 #[.slice none 0 0]) := Lib.hid (by rw [hw3, hb5]; exact box_new)
  have HB4 : Hid (Below w.heap.size w w3) := Lib.hid (by rw [hw3]; exact bch HB3.out (below_new _ _))
  have HG0 : Hid (w.heap.size < b5) := Lib.hid (by rw [hb5]; have := X2.out.lt; have := HB2.out; omega)
  rw [← hw3, ← hb5]
  clear hw3 hb5 p3
  refine (callsIn_wide.2 (HBE.out w3)).mono ?_
  rintro e V ⟨rfl, hV⟩
  have HV0 := Lib.hid hV
  clear hV
  gi_wp2
  have hV := HV0.out
  have hsV : V.heap.size = w3.heap.size + 2 := by rw [← hV]; simp
  have h53 := X5.out.lt
  have hw5 := HG0.out
  have HB5 : Below w3.heap.size w3 V := by rw [← hV]; exact bch (below_new _ _) (below_new _ _)
  have HBw : Hid (Below w.heap.size w V) := Lib.hid (bch HB4.out HB5)
  have Y5 : Box V b5 22 #[.slice none 0 0] := X5.out.on HB5
  have Y2 : Box V w3.heap.size 22 #[.slice a n c] := by rw [← hV]; exact box_new.alloc _
  have Y3 : Box V (w3.heap.size + 1) 9 #[.string ⟨p.toArray⟩] := by rw [← hV, show w3.heap.size + 1 = (w3.alloc (.cells #[.slice a n c] 22)).heap.size from by simp]; exact box_new
  have hvV : RdI V (.slice a n c) l := HV.out.on HBw.out
  obtain ⟨g0, hg0⟩ : ∃ g, b5 = g + 1 := ⟨b5 - 1, by omega⟩
  subst hg0
  have h0 : gI V (g0 + 1) 22 33 3 (itN (l := l) (p := p)) itF [] V := gI_start Y5 rfl rfl
  have HSS : Hid (∀ k, (k = w3.heap.size ∨ k = w3.heap.size + 1 ∨ (Value.slice a n c).ownBlock = some k) → k < V.heap.size ∧ k ≠ g0 + 1) := Lib.hid (fun k hk => by
    rcases hk with rfl | rfl | hk
    · omega
    · omega
    · have := HOG.out k hk; omega)
  have hgV : g0 + 1 < V.heap.size := by omega
  clear X5 Y5 HV0 hV HB5 HBE HVA
  refine wpIn_rangeFunc_ownH rfl (by omega) (gf := 70) (lb := #[.pointer (some ⟨w3.heap.size, 0, none⟩), .pointer (some ⟨w3.heap.size + 1, 0, none⟩)]) rfl trivial (enters_of Tryz.func70 (by kernel_rfl) rfl)
    (ben1_stops _ (by omega) w3.heap.size (w3.heap.size + 1) l (.slice a n c) p V Y2 Y3 hvV (srt_of HOK.out) HOK.out.many (tree_sz HOK.out) hp (fun k => k = w3.heap.size ∨ k = w3.heap.size + 1 ∨ (Value.slice a n c).ownBlock = some k) (fun k hk => (HSS.out k hk).1) (.inl rfl) (.inr (.inl rfl)) (fun g o n' c' e => .inr (.inr (by rw [e]; rfl)))) (fun h k => h.trans k)
    (fun W q o o' hq _ _ _ => lowk_put W q o' (fun hk => by have := (HSS.out _ hk).1; omega)) (Below.refl _ _) (fun _ => rfl)
    (gI V (g0 + 1) 22 33 3 itN itF) (fun _ _ _ => False) (gI_own V (g0 + 1) 22 33 3 itN itF) (fun _ _ _ _ _ hs _ _ => hs) h0
    (fun y a' W => ∃ Bx, mA V g0 y.1 Bx W ∧ a' = { tmps := #[.agg #[.slice a n c], .string ⟨p.toArray⟩, .pointer (some ⟨b2, 0, none⟩), undef, .slice none 0 0, .pointer (some ⟨g0 + 1, 0, none⟩), .pointer (some ⟨Bx, 0, none⟩), .pointer (some ⟨b2, 0, none⟩), .slice a n c, .bool true, .bool false, .pointer (some ⟨b2, 0, none⟩), .slice a n c, .string ⟨p.toArray⟩, .func (.func 70) #[] #[.pointer (some ⟨w3.heap.size, 0, none⟩), .pointer (some ⟨w3.heap.size + 1, 0, none⟩)], .agg y.1.arr, undef, undef, undef, undef, undef], defers := [] })
    ?own ?assign ?body ?done ?stop
  case own =>
    rintro y a' _ X Y row ⟨Bx, h1, h3⟩ hg hr
    exact ⟨Bx, mA_own (by omega) h1 hg hr, h3⟩
  case assign =>
    rintro q pre y X K ⟨v10, hX, hO, hN⟩ hK
    have e1 : (.agg y.1.arr : Value) = .agg #[.string ⟨y.1.path.toArray⟩, .int .i64 y.1.kind, .string ⟨y.1.data.toArray⟩] := rfl
    rw [e1]
    gi_wp2
    refine hK _ _ ((KeepsOthers.alloc _ _).from _) (fun k hk => Below.heap_alloc _ _ _ (by have := (HSS.out k hk).1; have := hN.size; omega)) ⟨v10, hX.alloc _, ownR_below hO (below_new _ _), hN.trans (Nxt.below (below_new _ _) _ _)⟩ ⟨X.heap.size, ⟨hN.size, heap_alloc_new X _, fun v hv e => ?_⟩, rfl⟩
    have hv2 := (hX.alloc (.cells y.1.arr 33)).cell (k := 0) rfl
    obtain rfl := Option.some.inj (hv2.symm.trans hv)
    obtain ⟨_, cs, hc⟩ := ownR_blk hO e
    have := (Array.getElem?_eq_some_iff.1 hc).1
    omega
  case body =>
    rintro q pre y a' W _ _ ⟨v10, hX, hO, hN⟩ ⟨Bx, hA, rfl⟩ hlen
    have hVW := hN.size
    obtain ⟨a1, c1, rfl⟩ := ownR_any hO
    obtain ⟨t0, t1, t2⟩ := hA.2.1.it
    have p10 : W.cell? ⟨g0 + 1, 0, none⟩ = some (.slice a1 (itN pre) c1) := hX.cell (k := 0) rfl
    have HIL : Hid (itN pre ≤ 2000) := Lib.hid (by
      have h1 := bel_le l p
      have h2 := HOK.out.many
      simp [itN]
      omega)
    obtain ⟨i0, hi, hz0, hz1, hz2⟩ := info_parts info35z
    obtain ⟨W7, hW7⟩ : ∃ z, z = W.alloc (.cells #[.string ⟨y.1.path.toArray⟩, .int .i64 y.1.kind, .string ⟨y.1.data.toArray⟩] 33) := ⟨_, rfl⟩
    have hB7 : Below W.heap.size W W7 := by rw [hW7]; exact below_new _ _
    have HOW : Hid (W7.ownsRow V.heap.size 33 3 (.slice a1 (itN pre) c1) (itN pre) (itF pre)) := Lib.hid (ownR_below hO hB7)
    have HZB : Hid (Box W7 W.heap.size 33 y.1.arr) := Lib.hid (by rw [hW7]; exact box_new)
    have HNW : Hid (∀ (j : Nat) (u : Value), (flatI [y.1])[j]? = some u → W7.cell? ((⟨W.heap.size, 0, none⟩ : Addr).add j) = some u) := Lib.hid (fun j u hu => by
      rw [add_to, Nat.zero_add]
      exact HZB.out.cell (by rw [← Array.getElem?_toList]; simpa [flatI, It.cells, It.arr] using hu))
    have HSZ7 : Hid (V.heap.size ≤ W7.heap.size) := Lib.hid (Nat.le_trans hVW hB7.size)
    have HXE : Hid (Box W7 (g0 + 1) 22 #[.slice a1 (itN pre) c1]) := Lib.hid (hX.on hB7)
    have HNG : Hid ((Value.slice a1 (itN pre) c1).ownBlock ≠ some (g0 + 1)) := Lib.hid (fun e => by have := (ownR_blk hO e).1; omega)
    have HFIN : Hid (∀ v' w', w'.ownsRow V.heap.size 33 3 v' (itN pre + 1) (itF pre ++ flatI [y.1]) → W7.grownBy w' (Value.slice a1 (itN pre) c1).ownBlock →
        KeepsFrom V.heap.size W (w'.setCell ⟨g0 + 1, 0, none⟩ v') ∧ LowK (fun k => k = w3.heap.size ∨ k = w3.heap.size + 1 ∨ (Value.slice a n c).ownBlock = some k) W (w'.setCell ⟨g0 + 1, 0, none⟩ v') ∧ gI V (g0 + 1) 22 33 3 itN itF (pre ++ [y]) (w'.setCell ⟨g0 + 1, 0, none⟩ v')) := Lib.hid (fun v' w' h1 h2 => by
      rw [← (it_step pre y).1, ← (it_step pre y).2] at h1
      exact gI_step hX hO hN hgV hB7 h1 h2 _ HSS.out)
    have HW7 := Lib.hid hW7
    obtain ⟨m, hm⟩ : ∃ m, m = itN pre := ⟨_, rfl⟩
    rw [← hm] at p10 HOW HXE HNG HFIN HIL
    clear hX hO hN hA hVW hlen hB7 hW7 hm
    gi_wp2_with (gi_at_builtin; rw [← HW7.out]; refine wpListIn_append_own_at _ rfl _ _ 22 rfl V.heap.size 33 i0 (.agg It.nil.arr) 3 40 Tryz.underlying22 hi hz0 hz1 hz2 rfl (by decide) _ _ _ rfl HOW.out ⟨W.heap.size, 0, none⟩ 1 1 (flatI [y.1]) rfl rfl HNW.out (flatI_one _) (by have := HIL.out; unfold maxLen; omega) (by have := HIL.out; omega) HSZ7.out ?_; intro v' w' hown' hgrow _ hat; have HXw := Lib.hid (HXE.out.kept hgrow (fun e => HNG.out e.symm)); have HM := Lib.hid (HFIN.out v' w' hown' hgrow); have xw := HXw.out.cell (k := 0) rfl; have fw := frozen_of_row w' (g0 + 1) 0 _ _ HXw.out; obtain ⟨aq, cq, rfl⟩ := ownR_any hown'; clear hown' hgrow hat t0 t1 t2 p10; refine Hid.out ?_)
    refine Lib.hid ?_
    gi_wp2
    exact ⟨HM.out.1, HM.out.2.1, HM.out.2.2⟩
  case done =>
    rintro D xs W hD rfl ⟨v10, hX, hO, hN⟩ hK
    obtain ⟨a1, c1, rfl⟩ := ownR_any hO
    have p10 : W.cell? ⟨g0 + 1, 0, none⟩ = some (.slice a1 (itN (belowL l p).attach) c1) := hX.cell (k := 0) rfl
    have eM : ((belowL l p).attach.map (·.1)) = belowL l p := List.attach_map_subtype_val _
    have HK := Lib.hid hK
    have HO2 : Hid (OwnI W V.heap.size (.slice a1 (itN (belowL l p).attach) c1) (belowL l p)) := Lib.hid (by
      unfold itN itF at hO
      unfold itN
      rw [eM] at hO ⊢
      exact hO)
    have HBW : Hid (Below w.heap.size w W) := Lib.hid ⟨hN.os.trans HBw.out.os, hN.tape.trans HBw.out.tape, hN.output.trans HBw.out.output, Nat.le_trans HBw.out.size hN.size, fun k hk => (hN.block k (by have := HBw.out.size; omega) (by omega) (fun e => by cases e)).trans (HBw.out.block k hk)⟩
    clear hX hO hN eM
    gi_wp2
    refine ⟨by simp, .inl ⟨_, _, rfl, run_takeDeferred HK.out, ?_⟩⟩
    refine ⟨.slice a1 (itN (belowL l p).attach) c1, ?_, ?_⟩
    · simp [results, Tryz.f24, go_sem]
    · have hVs := HBw.out.size
      refine ⟨_, rfl, own_base (HO2.out.far fun k hk => World.putObj_heap_other (fun e => ?_)) hVs, HBW.out.trans (belowK_b (w := w) (Nat.le_refl _) _ D _ _ (by omega) HK.out rfl rfl)⟩
      subst e
      obtain ⟨_, cs, hc⟩ := ownR_blk HO2.out hk
      rw [HK.out] at hc
      cases hc
  case stop =>
    rintro D cc pre W hD hpre h hK
    exact h.elim
end Go.Proofs.YtjbbnecegomkcaaGreatDoor

namespace Go.Proofs.YtjbbnecegomkcaaGreatDoor
open Go.RowKit Go.Shelf
attribute [local go_sem] Oper.semAt_some

/-- The names of those that stand in p. -/
def kL (p : Str) (L : List It) : List Str := (L.filter fun y => decide (upL y.path = p)).map fun y => baseL y.path
theorem kL_snoc_yes {p : Str} {L : List It} {y : It} (h : upL y.path = p) : kL p (L ++ [y]) = kL p L ++ [baseL y.path] := by
  unfold kL
  rw [List.filter_append, List.map_append]
  simp [h]
theorem kL_snoc_no {p : Str} {L : List It} {y : It} (h : upL y.path ≠ p) : kL p (L ++ [y]) = kL p L := by
  unfold kL
  rw [List.filter_append, List.map_append]
  simp [h]
theorem kL_len (p : Str) (L : List It) : (kL p L).length ≤ L.length := by
  unfold kL
  rw [List.length_map]
  exact List.length_filter_le _ _
def kN {l : List It} {p : Str} (pre : List (Ben l p)) : Nat := (kL p (pre.map (·.1))).length
def kF {l : List It} {p : Str} (pre : List (Ben l p)) : List Value := (kL p (pre.map (·.1))).map encS
theorem k_yes {l : List It} {p : Str} (pre : List (Ben l p)) (y : Ben l p) (h : upL y.1.path = p) : kN (pre ++ [y]) = kN pre + 1 ∧ kF (pre ++ [y]) = kF pre ++ [encS (baseL y.1.path)] := by
  unfold kN kF
  rw [List.map_append, List.map_cons, List.map_nil, kL_snoc_yes h, List.length_append, List.map_append]
  exact ⟨rfl, rfl⟩
theorem k_no {l : List It} {p : Str} (pre : List (Ben l p)) (y : Ben l p) (h : upL y.1.path ≠ p) : kN (pre ++ [y]) = kN pre ∧ kF (pre ++ [y]) = kF pre := by
  unfold kN kF
  rw [List.map_append, List.map_cons, List.map_nil, kL_snoc_no h]
  exact ⟨rfl, rfl⟩
def KidsR (l : List It) (p : Str) (w : World) (e : Ending) (w' : World) : Prop := ∃ x, e = .returned x ∧ w'.ownsRow w.heap.size 9 1 x (kL p (belowL l p)).length ((kL p (belowL l p)).map encS) ∧ Below w.heap.size w w'
set_option maxHeartbeats 400000 in
theorem base_any (p : ByteArray) (hp : p.size ≤ 140737488355328) (w : World) : Calls Tryz.prog 36 #[.string p] w fun e w' => e = .returned (.string ⟨(baseL p.data.toList).toArray⟩) ∧ Below w.heap.size w w' := by
  go_enter Tryz.func36, Tryz.ntmps36
  go_wp2_with (go_at_call 59; refine (cutlast_any p hp _).mono ?_; rintro e w' ⟨rfl, hb⟩)
  go_ret
  exact ⟨rfl, hb⟩

/-! ### behind -/

theorem base_is (x : Str) (hx : x.length ≤ 140737488355328) (w : World) : Calls Tryz.prog 36 #[.string ⟨x.toArray⟩] w fun e w' => e = .returned (.string ⟨(baseL x).toArray⟩) ∧ Below w.heap.size w w' :=
  base_any ⟨x.toArray⟩ (by show x.toArray.size ≤ _; rw [List.size_toArray]; exact hx) w
theorem info9z : (Tryz.prog.info? 9).map (fun i => (i.zero, i.size, i.bytes)) = some (some (.string ByteArray.empty), 1, 16) := by kernel_rfl

set_option maxRecDepth 100000 in
set_option maxHeartbeats 8000000 in
theorem kids_any (B : Nat) (l : List It) (v : Value) (p : Str) (w : World) (ho : OwnI w B v l) (h : TreeOk l) (hp : p.length ≤ 140737488355328) (hT : Tabs w) :
    Calls Tryz.prog 26 #[.agg #[v], .string ⟨p.toArray⟩] w (KidsR l p w) := by
  have hv : RdI w v l := RdF.of_own ho
  have hog : ∀ k, v.ownBlock = some k → k < w.heap.size := fun k e => by
    obtain ⟨_, cs, hc⟩ := ownR_blk ho e
    exact (Array.getElem?_eq_some_iff.1 hc).1
  have HOG := Lib.hid hog
  clear hog ho
  refine (callsIn_wide (n := 5)).1 ?_
  obtain ⟨w1, hw1⟩ : ∃ z, z = (w.alloc (.cells #[v] 24)).alloc (.cells #[.string ⟨p.toArray⟩] 9) := ⟨_, rfl⟩
  obtain ⟨b2, hb2⟩ : ∃ z, z = w.heap.size := ⟨_, rfl⟩
  have HB1 : Hid (Below w.heap.size w w1) := Lib.hid (by rw [hw1]; exact bch (below_new _ _) (below_new _ _))
  have X1 : Hid (Box w1 b2 24 #[v]) := Lib.hid (by rw [hw1, hb2]; exact box_new.alloc _)
  obtain ⟨b3, hb3⟩ : ∃ z, z = w.heap.size + 1 := ⟨_, rfl⟩
  have X13 : Hid (Box w1 b3 9 #[.string ⟨p.toArray⟩]) := Lib.hid (by rw [hw1, hb3, show w.heap.size + 1 = (w.alloc (.cells #[v] 24)).heap.size from by simp]; exact box_new)
  have HVA := Lib.hid (tvalid_is l true ((valid_tree l).2 h).symm v w1 (hv.on HB1.out) (tree_sz h) (hT.on HB1.out))
  obtain ⟨a, c, rfl, _⟩ := hv.open
  obtain ⟨n, hn⟩ : ∃ n, n = l.length := ⟨_, rfl⟩
  rw [← hn] at hw1 X1 HVA HOG ⊢
  have HV : Hid (RdI w (.slice a n c) l) := Lib.hid (by rw [hn]; exact hv)
  have HOK := Lib.hid h
  have HBE : Hid (∀ W, Calls Tryz.prog 49 #[.slice a n c, .string ⟨p.toArray⟩] W fun e w' => e = .returned (.func (.func 70) #[] #[.pointer (some ⟨W.heap.size, 0, none⟩), .pointer (some ⟨W.heap.size + 1, 0, none⟩)]) ∧ (W.alloc (.cells #[.slice a n c] 22)).alloc (.cells #[.string ⟨p.toArray⟩] 9) = w') := Lib.hid (fun W => ben_any a n c p W)
  have HW1 := Lib.hid hw1
  have HB2 := Lib.hid hb2
  have HB3e := Lib.hid hb3
  have c0 : ((w.alloc (.cells #[.slice a n c] 24)).alloc (.cells #[.string ⟨p.toArray⟩] 9)).cell? ⟨w.heap.size, 0, none⟩ = some (.slice a n c) := by rw [← hw1, ← hb2]; exact X1.out.cell (k := 0) rfl
  clear hv h hT hw1 hb2 hb3 hn
  refine callsIn_of_wp_marks Tryz.func26 rfl trivial ?_ rfl
  simp only [Tryz.ntmps26, List.size_toArray, List.length_cons, List.length_nil, Nat.reduceAdd, Nat.reduceSub, Array.replicate_succ, Array.replicate_zero, List.push_toArray, List.append_toArray, List.nil_append, List.cons_append]
  gi_wp2_with (first | (refine ⟨trivial, ?_⟩; gi_at_call 38; rw [← HW1.out, ← HB3e.out, ← HB2.out]; refine (callsIn_wide.2 HVA.out).mono ?_; rintro e w2 ⟨rfl, hb⟩; have X2 := Lib.hid (X1.out.on hb); have X23 := Lib.hid (X13.out.on hb); have p33 : (w2.alloc (.cells #[.slice none 0 0] 41)).cell? ⟨b3, 0, none⟩ = some (.string ⟨p.toArray⟩) := (X23.out.alloc _).cell (k := 0) rfl; have HB3 := Lib.hid (bch HB1.out hb); have p3 : (w2.alloc (.cells #[.slice none 0 0] 41)).cell? ⟨b2, 0, none⟩ = some (.slice a n c) := (X2.out.alloc _).cell (k := 0) rfl; clear hb c0))
  refine ⟨trivial, ?_⟩
  gi_at_call 49
  obtain ⟨b5, hb5⟩ : ∃ z, z = w2.heap.size := ⟨_, rfl⟩
  obtain ⟨w3, hw3⟩ : ∃ z, z = w2.alloc (.cells #[.slice none 0 0] 41) := ⟨_, rfl⟩
  have X5 : Hid (Box w3 b5 41 #[.slice none 0 0]) := Lib.hid (by rw [hw3, hb5]; exact box_new)
  have HB4 : Hid (Below w.heap.size w w3) := Lib.hid (by rw [hw3]; exact bch HB3.out (below_new _ _))
  have HG0 : Hid (w.heap.size < b5) := Lib.hid (by rw [hb5]; have := X2.out.lt; have := HB2.out; omega)
  rw [← hw3, ← hb5]
  have HX33 : Hid (Box w3 b3 9 #[.string ⟨p.toArray⟩]) := Lib.hid (by rw [hw3]; exact X23.out.alloc _)
  have HLb : Hid (b3 < b5) := Lib.hid (by rw [hb5]; exact X23.out.lt)
  clear hw3 hb5 p3 p33
  refine (callsIn_wide.2 (HBE.out w3)).mono ?_
  rintro e V ⟨rfl, hV⟩
  have HV0 := Lib.hid hV
  clear hV
  gi_wp2
  have hV := HV0.out
  have hsV : V.heap.size = w3.heap.size + 2 := by rw [← hV]; simp
  have h53 := X5.out.lt
  have hw5 := HG0.out
  have HB5 : Below w3.heap.size w3 V := by rw [← hV]; exact bch (below_new _ _) (below_new _ _)
  have HBw : Hid (Below w.heap.size w V) := Lib.hid (bch HB4.out HB5)
  have Y5 : Box V b5 41 #[.slice none 0 0] := X5.out.on HB5
  have Y2 : Box V w3.heap.size 22 #[.slice a n c] := by rw [← hV]; exact box_new.alloc _
  have Y3 : Box V (w3.heap.size + 1) 9 #[.string ⟨p.toArray⟩] := by rw [← hV, show w3.heap.size + 1 = (w3.alloc (.cells #[.slice a n c] 22)).heap.size from by simp]; exact box_new
  have hvV : RdI V (.slice a n c) l := HV.out.on HBw.out
  have HP3V : Hid (Box V b3 9 #[.string ⟨p.toArray⟩]) := Lib.hid (HX33.out.on HB5)
  obtain ⟨g0, hg0⟩ : ∃ g, b5 = g + 1 := ⟨b5 - 1, by omega⟩
  subst hg0
  have h0 : gI V (g0 + 1) 41 9 1 (kN (l := l) (p := p)) kF [] V := gI_start Y5 rfl rfl
  have HSS : Hid (∀ k, (k = w3.heap.size ∨ k = w3.heap.size + 1 ∨ (Value.slice a n c).ownBlock = some k) → k < V.heap.size ∧ k ≠ g0 + 1) := Lib.hid (fun k hk => by
    rcases hk with rfl | rfl | hk
    · omega
    · omega
    · have := HOG.out k hk; omega)
  have hgV : g0 + 1 < V.heap.size := by omega
  clear X5 Y5 HV0 hV HB5 HBE HVA
  refine wpIn_rangeFunc_ownH rfl (by omega) (gf := 70) (lb := #[.pointer (some ⟨w3.heap.size, 0, none⟩), .pointer (some ⟨w3.heap.size + 1, 0, none⟩)]) rfl trivial (enters_of Tryz.func70 (by kernel_rfl) rfl)
    (ben1_stops _ (by omega) w3.heap.size (w3.heap.size + 1) l (.slice a n c) p V Y2 Y3 hvV (srt_of HOK.out) HOK.out.many (tree_sz HOK.out) hp (fun k => k = w3.heap.size ∨ k = w3.heap.size + 1 ∨ (Value.slice a n c).ownBlock = some k) (fun k hk => (HSS.out k hk).1) (.inl rfl) (.inr (.inl rfl)) (fun g o n' c' e => .inr (.inr (by rw [e]; rfl)))) (fun h k => h.trans k)
    (fun W q o o' hq _ _ _ => lowk_put W q o' (fun hk => by have := (HSS.out _ hk).1; omega)) (Below.refl _ _) (fun _ => rfl)
    (gI V (g0 + 1) 41 9 1 kN kF) (fun _ _ _ => False) (gI_own V (g0 + 1) 41 9 1 kN kF) (fun _ _ _ _ _ hs _ _ => hs) h0
    (fun y a' W => ∃ Bx, mA V g0 y.1 Bx W ∧ a' = { tmps := #[.agg #[.slice a n c], .string ⟨p.toArray⟩, .pointer (some ⟨b2, 0, none⟩), .pointer (some ⟨b3, 0, none⟩), .slice none 0 0, .pointer (some ⟨g0 + 1, 0, none⟩), .pointer (some ⟨Bx, 0, none⟩), .pointer (some ⟨b2, 0, none⟩), .slice a n c, .bool true, .bool false, .pointer (some ⟨b2, 0, none⟩), .slice a n c, .string ⟨p.toArray⟩, .func (.func 70) #[] #[.pointer (some ⟨w3.heap.size, 0, none⟩), .pointer (some ⟨w3.heap.size + 1, 0, none⟩)], .agg y.1.arr, undef, undef, undef, undef, undef, undef, undef, undef, undef, undef, undef, undef], defers := [] })
    ?own ?assign ?body ?done ?stop
  case own =>
    rintro y a' _ X Y row ⟨Bx, h1, h3⟩ hg hr
    exact ⟨Bx, mA_own (by omega) h1 hg hr, h3⟩
  case assign =>
    rintro q pre y X K ⟨v10, hX, hO, hN⟩ hK
    have e1 : (.agg y.1.arr : Value) = .agg #[.string ⟨y.1.path.toArray⟩, .int .i64 y.1.kind, .string ⟨y.1.data.toArray⟩] := rfl
    rw [e1]
    gi_wp2
    refine hK _ _ ((KeepsOthers.alloc _ _).from _) (fun k hk => Below.heap_alloc _ _ _ (by have := (HSS.out k hk).1; have := hN.size; omega)) ⟨v10, hX.alloc _, ownR_below hO (below_new _ _), hN.trans (Nxt.below (below_new _ _) _ _)⟩ ⟨X.heap.size, ⟨hN.size, heap_alloc_new X _, fun v hv e => ?_⟩, rfl⟩
    have hv2 := (hX.alloc (.cells y.1.arr 33)).cell (k := 0) rfl
    obtain rfl := Option.some.inj (hv2.symm.trans hv)
    obtain ⟨_, cs, hc⟩ := ownR_blk hO e
    have := (Array.getElem?_eq_some_iff.1 hc).1
    omega
  case body =>
    rintro q pre y a' W _ _ ⟨v10, hX, hO, hN⟩ ⟨Bx, hA, rfl⟩ hlen
    have hVW := hN.size
    have HVW0 := Lib.hid hVW
    obtain ⟨hyl, hyu, _⟩ := (below_mem (srt_of HOK.out) p y.1).1 y.2
    have hypl : y.1.path.length ≤ 140737488355328 := tree_sz HOK.out y.1 hyl
    obtain ⟨u, hu⟩ : ∃ u, upL y.1.path = u := ⟨_, rfl⟩
    have HUP : Hid (∀ W', Calls Tryz.prog 35 #[.string ⟨y.1.path.toArray⟩] W' fun e w' => e = .returned (.string ⟨u.toArray⟩) ∧ Below W'.heap.size W' w') := Lib.hid (fun W' => up_is y.1.path hypl u hu W')
    have HBA : Hid (∀ W', Calls Tryz.prog 36 #[.string ⟨y.1.path.toArray⟩] W' fun e w' => e = .returned (.string ⟨(baseL y.1.path).toArray⟩) ∧ Below W'.heap.size W' w') := Lib.hid (fun W' => base_is y.1.path hypl W')
    obtain ⟨v0, hv0⟩ : ∃ z, z = World.drew W := ⟨_, rfl⟩
    have HB0 : Hid (Below W.heap.size W v0) := Lib.hid (by rw [hv0]; exact (Below.refl _ _).drew)
    have HAX : Hid (Box v0 Bx 33 y.1.arr) := Lib.hid (hA.2.1.on HB0.out)
    have HP3 : Hid (Box v0 b3 9 #[.string ⟨p.toArray⟩]) := Lib.hid ((show Box W b3 9 #[.string ⟨p.toArray⟩] from (hN.block b3 (by have := HP3V.out.lt; omega) (by have := HLb.out; omega) (fun e => by cases e)).trans HP3V.out).on HB0.out)
    have HU := Lib.hid hu
    have HX := Lib.hid hX
    have HO := Lib.hid hO
    have HN := Lib.hid hN
    have HA := Lib.hid hA
    have HIL0 : Hid (kN pre ≤ 2000) := Lib.hid (by
      have h1 := bel_le l p
      have h2 := HOK.out.many
      have h3 := kL_len p (pre.map (·.1))
      unfold kN
      rw [List.length_map] at h3
      omega)
    obtain ⟨t, ht⟩ : ∃ t, t = decide (u = p) := ⟨_, rfl⟩
    have HTT := Lib.hid ht
    have heq : (u == p) = t := by rw [ht]; by_cases h : u = p <;> simp [h]
    clear hX hO hN hA hu hyl hyu hypl hlen ht
    gi_wp2
    refine region_round (S := fun w' => Below v0.heap.size v0 w') (by kernel_rfl) (by kernel_rfl) (by rw [hv0]; exact Below.refl _ _) (fun hHeld => ?_)
    rw [← hv0] at hHeld ⊢
    clear hv0
    refine wpAnyH_take (i := 0) (oi := { dst := some 16, op := Op.fieldAddr 33 (Operand.tmp 6) 0, type := 0, pos := "tree.go:65", after := #[], guard := none }) (v := ?_) rfl (by kernel_rfl) (by kernel_rfl) (by kernel_rfl) (fun _ _ _ h => h) (Or.inl ⟨by rfl, ?_⟩) hHeld ?_
    rotate_left
    · (intro w hSw; go_simp; try with_reducible rfl)
    (try simp only [Act.put, List.setIfInBounds_toArray, List.set_cons_zero, List.set_cons_succ])
    refine wpAnyH_take (i := 1) (oi := { dst := some 17, op := Op.load 9 (Operand.tmp 16), type := 9, pos := "tree.go:65", after := #[{ on := 0, ground := Ground.data }], guard := none }) (v := ?_) rfl (by kernel_rfl) (by kernel_rfl) (by kernel_rfl) (fun _ _ _ h => h) (Or.inl ⟨by rfl, ?_⟩) hHeld ?_
    rotate_left
    · (intro w hSw; have p0 : w.cell? ⟨Bx, 0, none⟩ = some (.string ⟨y.1.path.toArray⟩) := (HAX.out.on hSw).it.c0; go_simp; try with_reducible rfl)
    (try simp only [Act.put, List.setIfInBounds_toArray, List.set_cons_zero, List.set_cons_succ])
    refine wpAnyH_take (i := 3) (oi := { dst := some 19, op := Op.load 9 (Operand.tmp 3), type := 9, pos := "tree.go:65", after := #[], guard := none }) (v := ?_) rfl (by kernel_rfl) (by kernel_rfl) (by kernel_rfl) (fun _ _ _ h => h) (Or.inl ⟨by rfl, ?_⟩) hHeld ?_
    rotate_left
    · (intro w hSw; have p0 : w.cell? ⟨b3, 0, none⟩ = some (.string ⟨p.toArray⟩) := (HP3.out.on hSw).cell (k := 0) rfl; go_simp; try with_reducible rfl)
    (try simp only [Act.put, List.setIfInBounds_toArray, List.set_cons_zero, List.set_cons_succ])
    refine wpAnyH_ready (rs := [2]) (by kernel_rfl) (by simp) (AllReadyH.cons (o := { dst := some 18, op := Op.call { callee := Callee.value (Operand.func 35), args := #[Operand.tmp 17], argTypes := #[9] }, type := 9, pos := "tree.go:65", after := #[{ on := 1, ground := Ground.data }], guard := none }) rfl (fun K hK => ?_) AllReadyH.nil)
    · go_simp
      refine (HUP.out _).mono ?_
      rintro e v102 ⟨rfl, hba⟩
      refine hK.out _ _ (bch hHeld hba) (fun hHeld => ?_)
      clear hba
      (try simp only [Act.put, List.setIfInBounds_toArray, List.set_cons_zero, List.set_cons_succ])
      refine wpAnyH_take (i := 4) (oi := { dst := some 20, op := Op.binOp BinOp.eql 9 (Operand.tmp 18) (Operand.tmp 19) 9, type := 4, pos := "tree.go:65", after := #[{ on := 2, ground := Ground.data }, { on := 3, ground := Ground.data }], guard := none }) (v := ?_) rfl (by kernel_rfl) (by kernel_rfl) (by kernel_rfl) (fun _ _ _ h => h) (Or.inl ⟨by rfl, ?_⟩) hHeld ?_
      rotate_left
      · (intro w hSw; go_simp; try with_reducible rfl)
      (try simp only [Act.put, List.setIfInBounds_toArray, List.set_cons_zero, List.set_cons_succ])
      refine wpAnyH_done (by kernel_rfl) ?_ _
      simp only [Plainly]
      have H6 := Lib.hid (bch HB0.out hHeld)
      clear hHeld heq
      cases t with
      | false =>
        have hne : upL y.1.path ≠ p := by rw [HU.out]; exact of_decide_eq_false HTT.out.symm
        obtain ⟨e1, e2⟩ := k_no pre y hne
        have HG1 : Hid (gI V (g0 + 1) 41 9 1 kN kF (pre ++ [y]) v102) := Lib.hid (by
          have : gI V (g0 + 1) 41 9 1 kN kF pre v102 := gI_on ⟨v10, HX.out, HO.out, HN.out⟩ H6.out
          unfold gI at this ⊢
          rw [e1, e2]
          exact this)
        clear hne e1 e2
        gi_wp2
        exact ⟨kf_below H6.out, fun k hk => H6.out.block k (by have := (HSS.out k hk).1; have := HVW0.out; omega), HG1.out⟩
      | true =>
        have hye : upL y.1.path = p := by rw [HU.out]; exact of_decide_eq_true HTT.out.symm
        obtain ⟨e1, e2⟩ := k_yes pre y hye
        obtain ⟨a1, c1, rfl⟩ := ownR_any HO.out
        obtain ⟨i0, hi, hz0, hz1, hz2⟩ := info_parts info9z
        obtain ⟨v7, hv7⟩ : ∃ z, z = World.drew v102 := ⟨_, rfl⟩
        have HB9 : Hid (Below W.heap.size W v7) := Lib.hid (by rw [hv7]; exact H6.out.drew)
        obtain ⟨m, hm⟩ : ∃ m, m = kN pre := ⟨_, rfl⟩
        have HFIN : Hid (∀ W5 v' w', Below W.heap.size W W5 → w'.ownsRow V.heap.size 9 1 v' (m + 1) (kF pre ++ [encS (baseL y.1.path)]) → W5.grownBy w' (Value.slice a1 m c1).ownBlock →
            KeepsFrom V.heap.size W (w'.setCell ⟨g0 + 1, 0, none⟩ v') ∧ LowK (fun k => k = w3.heap.size ∨ k = w3.heap.size + 1 ∨ (Value.slice a n c).ownBlock = some k) W (w'.setCell ⟨g0 + 1, 0, none⟩ v') ∧ gI V (g0 + 1) 41 9 1 kN kF (pre ++ [y]) (w'.setCell ⟨g0 + 1, 0, none⟩ v')) := Lib.hid (fun W5 v' w' h0 h1 h2 => by
          rw [hm] at h1 h2
          rw [← e1, ← e2] at h1
          exact gI_step HX.out HO.out HN.out hgV h0 h1 h2 _ HSS.out)
        have HNG : Hid ((Value.slice a1 m c1).ownBlock ≠ some (g0 + 1)) := Lib.hid (fun e => by rw [hm] at e; have := (ownR_blk HO.out e).1; omega)
        have HX9 : Hid (Box W (g0 + 1) 41 #[.slice a1 m c1]) := Lib.hid (by rw [hm]; exact HX.out)
        have HO9 : Hid (W.ownsRow V.heap.size 9 1 (.slice a1 m c1) m (kF pre)) := Lib.hid (by rw [hm]; exact HO.out)
        have HIL : Hid (m ≤ 2000) := Lib.hid (by rw [hm]; exact HIL0.out)
        have HVW : Hid (V.heap.size ≤ W.heap.size) := HVW0
        have HA9 : Hid (Box W Bx 33 y.1.arr) := Lib.hid HA.out.2.1
        have p10 : v7.cell? ⟨g0 + 1, 0, none⟩ = some (.slice a1 m c1) := (HX9.out.on HB9.out).cell (k := 0) rfl
        have t0 : v7.cell? ⟨Bx, 0, none⟩ = some (.string ⟨y.1.path.toArray⟩) := (HA9.out.on HB9.out).it.c0
        clear hye e1 e2 hm
        gi_wp2
        refine region_round (S := fun _ => True) (by kernel_rfl) (by kernel_rfl) trivial (fun hHeld => ?_)
        rw [← hv7]
        clear hv7
        refine wpAnyH_take (i := 1) (oi := { dst := some 22, op := Op.fieldAddr 33 (Operand.tmp 6) 0, type := 0, pos := "tree.go:66", after := #[], guard := none }) (v := ?_) rfl (by kernel_rfl) (by kernel_rfl) (by kernel_rfl) (fun _ _ _ h => h) (Or.inl ⟨by rfl, ?_⟩) hHeld ?_
        rotate_left
        · (intro w hSw; go_simp; try with_reducible rfl)
        (try simp only [Act.put, List.setIfInBounds_toArray, List.set_cons_zero, List.set_cons_succ])
        refine wpAnyH_ready (rs := [0, 2]) (by kernel_rfl) (by simp) (AllReadyH.cons (o := { dst := some 21, op := Op.load 41 (Operand.tmp 5), type := 41, pos := "tree.go:66", after := #[], guard := none }) rfl (fun K hK => ?_) (AllReadyH.cons (o := { dst := some 23, op := Op.load 9 (Operand.tmp 22), type := 9, pos := "tree.go:66", after := #[{ on := 1, ground := Ground.data }], guard := none }) rfl (fun K hK => ?_) AllReadyH.nil))
        · go_simp
          refine hK.out _ _ trivial (fun hHeld => ?_)
          (try simp only [Act.put, List.setIfInBounds_toArray, List.set_cons_zero, List.set_cons_succ])
          refine wpAnyH_ready (rs := [2]) (by kernel_rfl) (by simp) (AllReadyH.cons (o := { dst := some 23, op := Op.load 9 (Operand.tmp 22), type := 9, pos := "tree.go:66", after := #[{ on := 1, ground := Ground.data }], guard := none }) rfl (fun K hK => ?_) AllReadyH.nil)
          · go_simp
            refine hK.out _ _ trivial (fun hHeld => ?_)
            (try simp only [Act.put, List.setIfInBounds_toArray, List.set_cons_zero, List.set_cons_succ])
            refine wpAnyH_ready (rs := [3]) (by kernel_rfl) (by simp) (AllReadyH.cons (o := { dst := some 24, op := Op.call { callee := Callee.value (Operand.func 36), args := #[Operand.tmp 23], argTypes := #[9] }, type := 9, pos := "tree.go:66", after := #[{ on := 2, ground := Ground.data }], guard := none }) rfl (fun K hK => ?_) AllReadyH.nil)
            · go_simp
              refine (HBA.out _).mono ?_
              rintro e v103 ⟨rfl, hba⟩
              have HB9 := Lib.hid (bch HB9.out hba)
              have p10 : v103.cell? ⟨g0 + 1, 0, none⟩ = some (.slice a1 m c1) := (HX9.out.on HB9.out).cell (k := 0) rfl
              clear hba
              refine hK.out _ _ trivial (fun hHeld => ?_)
              (try simp only [Act.put, List.setIfInBounds_toArray, List.set_cons_zero, List.set_cons_succ])
              refine wpAnyH_ready (rs := [4]) (by kernel_rfl) (by simp) (AllReadyH.cons (o := { dst := some 25, op := Op.buildSlice 41 1 #[(0, Operand.tmp 24)], type := 41, pos := "tree.go:66", after := #[{ on := 3, ground := Ground.data }], guard := none }) rfl (fun K hK => ?_) AllReadyH.nil)
              · go_simp
                obtain ⟨v104, hv4⟩ : ∃ z, z = v103.alloc (.cells #[.string ⟨(baseL y.1.path).toArray⟩] 9) := ⟨_, rfl⟩
                obtain ⟨q9, hq9⟩ : ∃ z, z = v103.heap.size := ⟨_, rfl⟩
                have HZB : Hid (Box v104 q9 9 #[.string ⟨(baseL y.1.path).toArray⟩]) := Lib.hid (by rw [hv4, hq9]; exact box_new)
                have HB9 := Lib.hid (bch HB9.out (show Below v103.heap.size v103 v104 by rw [hv4]; exact below_new _ _))
                have p10 : v104.cell? ⟨g0 + 1, 0, none⟩ = some (.slice a1 m c1) := (HX9.out.on HB9.out).cell (k := 0) rfl
                refine hK.out _ _ trivial (fun hHeld => ?_)
                rw [← hv4, ← hq9]
                clear hv4 hq9
                (try simp only [Act.put, List.setIfInBounds_toArray, List.set_cons_zero, List.set_cons_succ])
                refine wpAnyH_ready (rs := [5]) (by kernel_rfl) (by simp) (AllReadyH.cons (o := { dst := some 26, op := Op.call { callee := Callee.builtin Builtin.append, args := #[Operand.tmp 21, Operand.tmp 25], argTypes := #[41, 41] }, type := 41, pos := "tree.go:66", after := #[{ on := 0, ground := Ground.data }, { on := 4, ground := Ground.data }, { on := 3, ground := Ground.chain }], guard := none }) rfl (fun K hK => ?_) AllReadyH.nil)
                · refine wp_append_own _ (.tmp 21) (.tmp 25) 41 rfl V.heap.size 9 i0 (.string ByteArray.empty) 1 16 Tryz.underlying41 hi hz0 hz1 hz2 rfl (by decide) _ m _ rfl (ownR_below HO9.out HB9.out) ⟨q9, 0, none⟩ 1 1 [encS (baseL y.1.path)] rfl rfl (fun j u hu => by
                  rw [add_to, Nat.zero_add]
                  exact HZB.out.cell (by rw [← Array.getElem?_toList]; simpa [encS] using hu)) (by simp [encS]; rfl) (by have := HIL.out; unfold maxLen; omega) (by have := HIL.out; omega) (Nat.le_trans HVW.out HB9.out.size) ?_
                  intro v' w9 hown' hgrow _
                  have HM := Lib.hid (HFIN.out v104 v' w9 HB9.out hown' hgrow)
                  have HXw := Lib.hid (((HX9.out.on HB9.out).kept hgrow (fun e => HNG.out e.symm)))
                  have xw := HXw.out.cell (k := 0) rfl
                  have fw := frozen_of_row w9 (g0 + 1) 0 _ _ HXw.out
                  obtain ⟨aq, cq, rfl⟩ := ownR_any hown'
                  clear hown' hgrow p10
                  refine hK.out _ _ trivial (fun hHeld => ?_)
                  (try simp only [Act.put, List.setIfInBounds_toArray, List.set_cons_zero, List.set_cons_succ])
                  refine wpAnyH_ready (rs := [6]) (by kernel_rfl) (by simp) (AllReadyH.cons (o := { dst := none, op := Op.store 41 (Operand.tmp 5) (Operand.tmp 26), type := 0, pos := "tree.go:66", after := #[{ on := 5, ground := Ground.data }, { on := 5, ground := Ground.chain }, { on := 0, ground := Ground.phase }, { on := 1, ground := Ground.phase }, { on := 2, ground := Ground.phase }, { on := 3, ground := Ground.phase }, { on := 4, ground := Ground.phase }, { on := 5, ground := Ground.phase }], guard := none }) rfl (fun K hK => ?_) AllReadyH.nil)
                  · go_simp
                    refine hK.out _ _ trivial (fun hHeld => ?_)
                    (try simp only [Act.put, List.setIfInBounds_toArray, List.set_cons_zero, List.set_cons_succ])
                    refine wpAnyH_done (by kernel_rfl) ?_ _
                    simp only [Plainly]
                    gi_wp2
                    exact ⟨HM.out.1, HM.out.2.1, HM.out.2.2⟩
        · go_simp
          refine hK.out _ _ trivial (fun hHeld => ?_)
          (try simp only [Act.put, List.setIfInBounds_toArray, List.set_cons_zero, List.set_cons_succ])
          refine wpAnyH_ready (rs := [0, 3]) (by kernel_rfl) (by simp) (AllReadyH.cons (o := { dst := some 21, op := Op.load 41 (Operand.tmp 5), type := 41, pos := "tree.go:66", after := #[], guard := none }) rfl (fun K hK => ?_) (AllReadyH.cons (o := { dst := some 24, op := Op.call { callee := Callee.value (Operand.func 36), args := #[Operand.tmp 23], argTypes := #[9] }, type := 9, pos := "tree.go:66", after := #[{ on := 2, ground := Ground.data }], guard := none }) rfl (fun K hK => ?_) AllReadyH.nil))
          · go_simp
            refine hK.out _ _ trivial (fun hHeld => ?_)
            (try simp only [Act.put, List.setIfInBounds_toArray, List.set_cons_zero, List.set_cons_succ])
            refine wpAnyH_ready (rs := [3]) (by kernel_rfl) (by simp) (AllReadyH.cons (o := { dst := some 24, op := Op.call { callee := Callee.value (Operand.func 36), args := #[Operand.tmp 23], argTypes := #[9] }, type := 9, pos := "tree.go:66", after := #[{ on := 2, ground := Ground.data }], guard := none }) rfl (fun K hK => ?_) AllReadyH.nil)
            · go_simp
              refine (HBA.out _).mono ?_
              rintro e v103 ⟨rfl, hba⟩
              have HB9 := Lib.hid (bch HB9.out hba)
              have p10 : v103.cell? ⟨g0 + 1, 0, none⟩ = some (.slice a1 m c1) := (HX9.out.on HB9.out).cell (k := 0) rfl
              clear hba
              refine hK.out _ _ trivial (fun hHeld => ?_)
              (try simp only [Act.put, List.setIfInBounds_toArray, List.set_cons_zero, List.set_cons_succ])
              refine wpAnyH_ready (rs := [4]) (by kernel_rfl) (by simp) (AllReadyH.cons (o := { dst := some 25, op := Op.buildSlice 41 1 #[(0, Operand.tmp 24)], type := 41, pos := "tree.go:66", after := #[{ on := 3, ground := Ground.data }], guard := none }) rfl (fun K hK => ?_) AllReadyH.nil)
              · go_simp
                obtain ⟨v104, hv4⟩ : ∃ z, z = v103.alloc (.cells #[.string ⟨(baseL y.1.path).toArray⟩] 9) := ⟨_, rfl⟩
                obtain ⟨q9, hq9⟩ : ∃ z, z = v103.heap.size := ⟨_, rfl⟩
                have HZB : Hid (Box v104 q9 9 #[.string ⟨(baseL y.1.path).toArray⟩]) := Lib.hid (by rw [hv4, hq9]; exact box_new)
                have HB9 := Lib.hid (bch HB9.out (show Below v103.heap.size v103 v104 by rw [hv4]; exact below_new _ _))
                have p10 : v104.cell? ⟨g0 + 1, 0, none⟩ = some (.slice a1 m c1) := (HX9.out.on HB9.out).cell (k := 0) rfl
                refine hK.out _ _ trivial (fun hHeld => ?_)
                rw [← hv4, ← hq9]
                clear hv4 hq9
                (try simp only [Act.put, List.setIfInBounds_toArray, List.set_cons_zero, List.set_cons_succ])
                refine wpAnyH_ready (rs := [5]) (by kernel_rfl) (by simp) (AllReadyH.cons (o := { dst := some 26, op := Op.call { callee := Callee.builtin Builtin.append, args := #[Operand.tmp 21, Operand.tmp 25], argTypes := #[41, 41] }, type := 41, pos := "tree.go:66", after := #[{ on := 0, ground := Ground.data }, { on := 4, ground := Ground.data }, { on := 3, ground := Ground.chain }], guard := none }) rfl (fun K hK => ?_) AllReadyH.nil)
                · refine wp_append_own _ (.tmp 21) (.tmp 25) 41 rfl V.heap.size 9 i0 (.string ByteArray.empty) 1 16 Tryz.underlying41 hi hz0 hz1 hz2 rfl (by decide) _ m _ rfl (ownR_below HO9.out HB9.out) ⟨q9, 0, none⟩ 1 1 [encS (baseL y.1.path)] rfl rfl (fun j u hu => by
                  rw [add_to, Nat.zero_add]
                  exact HZB.out.cell (by rw [← Array.getElem?_toList]; simpa [encS] using hu)) (by simp [encS]; rfl) (by have := HIL.out; unfold maxLen; omega) (by have := HIL.out; omega) (Nat.le_trans HVW.out HB9.out.size) ?_
                  intro v' w9 hown' hgrow _
                  have HM := Lib.hid (HFIN.out v104 v' w9 HB9.out hown' hgrow)
                  have HXw := Lib.hid (((HX9.out.on HB9.out).kept hgrow (fun e => HNG.out e.symm)))
                  have xw := HXw.out.cell (k := 0) rfl
                  have fw := frozen_of_row w9 (g0 + 1) 0 _ _ HXw.out
                  obtain ⟨aq, cq, rfl⟩ := ownR_any hown'
                  clear hown' hgrow p10
                  refine hK.out _ _ trivial (fun hHeld => ?_)
                  (try simp only [Act.put, List.setIfInBounds_toArray, List.set_cons_zero, List.set_cons_succ])
                  refine wpAnyH_ready (rs := [6]) (by kernel_rfl) (by simp) (AllReadyH.cons (o := { dst := none, op := Op.store 41 (Operand.tmp 5) (Operand.tmp 26), type := 0, pos := "tree.go:66", after := #[{ on := 5, ground := Ground.data }, { on := 5, ground := Ground.chain }, { on := 0, ground := Ground.phase }, { on := 1, ground := Ground.phase }, { on := 2, ground := Ground.phase }, { on := 3, ground := Ground.phase }, { on := 4, ground := Ground.phase }, { on := 5, ground := Ground.phase }], guard := none }) rfl (fun K hK => ?_) AllReadyH.nil)
                  · go_simp
                    refine hK.out _ _ trivial (fun hHeld => ?_)
                    (try simp only [Act.put, List.setIfInBounds_toArray, List.set_cons_zero, List.set_cons_succ])
                    refine wpAnyH_done (by kernel_rfl) ?_ _
                    simp only [Plainly]
                    gi_wp2
                    exact ⟨HM.out.1, HM.out.2.1, HM.out.2.2⟩
          · go_simp
            refine (HBA.out _).mono ?_
            rintro e v103 ⟨rfl, hba⟩
            have HB9 := Lib.hid (bch HB9.out hba)
            have p10 : v103.cell? ⟨g0 + 1, 0, none⟩ = some (.slice a1 m c1) := (HX9.out.on HB9.out).cell (k := 0) rfl
            clear hba
            refine hK.out _ _ trivial (fun hHeld => ?_)
            (try simp only [Act.put, List.setIfInBounds_toArray, List.set_cons_zero, List.set_cons_succ])
            refine wpAnyH_ready (rs := [0, 4]) (by kernel_rfl) (by simp) (AllReadyH.cons (o := { dst := some 21, op := Op.load 41 (Operand.tmp 5), type := 41, pos := "tree.go:66", after := #[], guard := none }) rfl (fun K hK => ?_) (AllReadyH.cons (o := { dst := some 25, op := Op.buildSlice 41 1 #[(0, Operand.tmp 24)], type := 41, pos := "tree.go:66", after := #[{ on := 3, ground := Ground.data }], guard := none }) rfl (fun K hK => ?_) AllReadyH.nil))
            · go_simp
              refine hK.out _ _ trivial (fun hHeld => ?_)
              (try simp only [Act.put, List.setIfInBounds_toArray, List.set_cons_zero, List.set_cons_succ])
              refine wpAnyH_ready (rs := [4]) (by kernel_rfl) (by simp) (AllReadyH.cons (o := { dst := some 25, op := Op.buildSlice 41 1 #[(0, Operand.tmp 24)], type := 41, pos := "tree.go:66", after := #[{ on := 3, ground := Ground.data }], guard := none }) rfl (fun K hK => ?_) AllReadyH.nil)
              · go_simp
                obtain ⟨v104, hv4⟩ : ∃ z, z = v103.alloc (.cells #[.string ⟨(baseL y.1.path).toArray⟩] 9) := ⟨_, rfl⟩
                obtain ⟨q9, hq9⟩ : ∃ z, z = v103.heap.size := ⟨_, rfl⟩
                have HZB : Hid (Box v104 q9 9 #[.string ⟨(baseL y.1.path).toArray⟩]) := Lib.hid (by rw [hv4, hq9]; exact box_new)
                have HB9 := Lib.hid (bch HB9.out (show Below v103.heap.size v103 v104 by rw [hv4]; exact below_new _ _))
                have p10 : v104.cell? ⟨g0 + 1, 0, none⟩ = some (.slice a1 m c1) := (HX9.out.on HB9.out).cell (k := 0) rfl
                refine hK.out _ _ trivial (fun hHeld => ?_)
                rw [← hv4, ← hq9]
                clear hv4 hq9
                (try simp only [Act.put, List.setIfInBounds_toArray, List.set_cons_zero, List.set_cons_succ])
                refine wpAnyH_ready (rs := [5]) (by kernel_rfl) (by simp) (AllReadyH.cons (o := { dst := some 26, op := Op.call { callee := Callee.builtin Builtin.append, args := #[Operand.tmp 21, Operand.tmp 25], argTypes := #[41, 41] }, type := 41, pos := "tree.go:66", after := #[{ on := 0, ground := Ground.data }, { on := 4, ground := Ground.data }, { on := 3, ground := Ground.chain }], guard := none }) rfl (fun K hK => ?_) AllReadyH.nil)
                · refine wp_append_own _ (.tmp 21) (.tmp 25) 41 rfl V.heap.size 9 i0 (.string ByteArray.empty) 1 16 Tryz.underlying41 hi hz0 hz1 hz2 rfl (by decide) _ m _ rfl (ownR_below HO9.out HB9.out) ⟨q9, 0, none⟩ 1 1 [encS (baseL y.1.path)] rfl rfl (fun j u hu => by
                  rw [add_to, Nat.zero_add]
                  exact HZB.out.cell (by rw [← Array.getElem?_toList]; simpa [encS] using hu)) (by simp [encS]; rfl) (by have := HIL.out; unfold maxLen; omega) (by have := HIL.out; omega) (Nat.le_trans HVW.out HB9.out.size) ?_
                  intro v' w9 hown' hgrow _
                  have HM := Lib.hid (HFIN.out v104 v' w9 HB9.out hown' hgrow)
                  have HXw := Lib.hid (((HX9.out.on HB9.out).kept hgrow (fun e => HNG.out e.symm)))
                  have xw := HXw.out.cell (k := 0) rfl
                  have fw := frozen_of_row w9 (g0 + 1) 0 _ _ HXw.out
                  obtain ⟨aq, cq, rfl⟩ := ownR_any hown'
                  clear hown' hgrow p10
                  refine hK.out _ _ trivial (fun hHeld => ?_)
                  (try simp only [Act.put, List.setIfInBounds_toArray, List.set_cons_zero, List.set_cons_succ])
                  refine wpAnyH_ready (rs := [6]) (by kernel_rfl) (by simp) (AllReadyH.cons (o := { dst := none, op := Op.store 41 (Operand.tmp 5) (Operand.tmp 26), type := 0, pos := "tree.go:66", after := #[{ on := 5, ground := Ground.data }, { on := 5, ground := Ground.chain }, { on := 0, ground := Ground.phase }, { on := 1, ground := Ground.phase }, { on := 2, ground := Ground.phase }, { on := 3, ground := Ground.phase }, { on := 4, ground := Ground.phase }, { on := 5, ground := Ground.phase }], guard := none }) rfl (fun K hK => ?_) AllReadyH.nil)
                  · go_simp
                    refine hK.out _ _ trivial (fun hHeld => ?_)
                    (try simp only [Act.put, List.setIfInBounds_toArray, List.set_cons_zero, List.set_cons_succ])
                    refine wpAnyH_done (by kernel_rfl) ?_ _
                    simp only [Plainly]
                    gi_wp2
                    exact ⟨HM.out.1, HM.out.2.1, HM.out.2.2⟩
            · go_simp
              obtain ⟨v104, hv4⟩ : ∃ z, z = v103.alloc (.cells #[.string ⟨(baseL y.1.path).toArray⟩] 9) := ⟨_, rfl⟩
              obtain ⟨q9, hq9⟩ : ∃ z, z = v103.heap.size := ⟨_, rfl⟩
              have HZB : Hid (Box v104 q9 9 #[.string ⟨(baseL y.1.path).toArray⟩]) := Lib.hid (by rw [hv4, hq9]; exact box_new)
              have HB9 := Lib.hid (bch HB9.out (show Below v103.heap.size v103 v104 by rw [hv4]; exact below_new _ _))
              have p10 : v104.cell? ⟨g0 + 1, 0, none⟩ = some (.slice a1 m c1) := (HX9.out.on HB9.out).cell (k := 0) rfl
              refine hK.out _ _ trivial (fun hHeld => ?_)
              rw [← hv4, ← hq9]
              clear hv4 hq9
              (try simp only [Act.put, List.setIfInBounds_toArray, List.set_cons_zero, List.set_cons_succ])
              refine wpAnyH_ready (rs := [0]) (by kernel_rfl) (by simp) (AllReadyH.cons (o := { dst := some 21, op := Op.load 41 (Operand.tmp 5), type := 41, pos := "tree.go:66", after := #[], guard := none }) rfl (fun K hK => ?_) AllReadyH.nil)
              · go_simp
                refine hK.out _ _ trivial (fun hHeld => ?_)
                (try simp only [Act.put, List.setIfInBounds_toArray, List.set_cons_zero, List.set_cons_succ])
                refine wpAnyH_ready (rs := [5]) (by kernel_rfl) (by simp) (AllReadyH.cons (o := { dst := some 26, op := Op.call { callee := Callee.builtin Builtin.append, args := #[Operand.tmp 21, Operand.tmp 25], argTypes := #[41, 41] }, type := 41, pos := "tree.go:66", after := #[{ on := 0, ground := Ground.data }, { on := 4, ground := Ground.data }, { on := 3, ground := Ground.chain }], guard := none }) rfl (fun K hK => ?_) AllReadyH.nil)
                · refine wp_append_own _ (.tmp 21) (.tmp 25) 41 rfl V.heap.size 9 i0 (.string ByteArray.empty) 1 16 Tryz.underlying41 hi hz0 hz1 hz2 rfl (by decide) _ m _ rfl (ownR_below HO9.out HB9.out) ⟨q9, 0, none⟩ 1 1 [encS (baseL y.1.path)] rfl rfl (fun j u hu => by
                  rw [add_to, Nat.zero_add]
                  exact HZB.out.cell (by rw [← Array.getElem?_toList]; simpa [encS] using hu)) (by simp [encS]; rfl) (by have := HIL.out; unfold maxLen; omega) (by have := HIL.out; omega) (Nat.le_trans HVW.out HB9.out.size) ?_
                  intro v' w9 hown' hgrow _
                  have HM := Lib.hid (HFIN.out v104 v' w9 HB9.out hown' hgrow)
                  have HXw := Lib.hid (((HX9.out.on HB9.out).kept hgrow (fun e => HNG.out e.symm)))
                  have xw := HXw.out.cell (k := 0) rfl
                  have fw := frozen_of_row w9 (g0 + 1) 0 _ _ HXw.out
                  obtain ⟨aq, cq, rfl⟩ := ownR_any hown'
                  clear hown' hgrow p10
                  refine hK.out _ _ trivial (fun hHeld => ?_)
                  (try simp only [Act.put, List.setIfInBounds_toArray, List.set_cons_zero, List.set_cons_succ])
                  refine wpAnyH_ready (rs := [6]) (by kernel_rfl) (by simp) (AllReadyH.cons (o := { dst := none, op := Op.store 41 (Operand.tmp 5) (Operand.tmp 26), type := 0, pos := "tree.go:66", after := #[{ on := 5, ground := Ground.data }, { on := 5, ground := Ground.chain }, { on := 0, ground := Ground.phase }, { on := 1, ground := Ground.phase }, { on := 2, ground := Ground.phase }, { on := 3, ground := Ground.phase }, { on := 4, ground := Ground.phase }, { on := 5, ground := Ground.phase }], guard := none }) rfl (fun K hK => ?_) AllReadyH.nil)
                  · go_simp
                    refine hK.out _ _ trivial (fun hHeld => ?_)
                    (try simp only [Act.put, List.setIfInBounds_toArray, List.set_cons_zero, List.set_cons_succ])
                    refine wpAnyH_done (by kernel_rfl) ?_ _
                    simp only [Plainly]
                    gi_wp2
                    exact ⟨HM.out.1, HM.out.2.1, HM.out.2.2⟩
  case done =>
    rintro D xs W hD rfl ⟨v10, hX, hO, hN⟩ hK
    obtain ⟨a1, c1, rfl⟩ := ownR_any hO
    have p10 : W.cell? ⟨g0 + 1, 0, none⟩ = some (.slice a1 (kN (belowL l p).attach) c1) := hX.cell (k := 0) rfl
    have eM : ((belowL l p).attach.map (·.1)) = belowL l p := List.attach_map_subtype_val _
    have HK := Lib.hid hK
    have HO2 : Hid (W.ownsRow V.heap.size 9 1 (.slice a1 (kN (belowL l p).attach) c1) (kL p (belowL l p)).length ((kL p (belowL l p)).map encS)) := Lib.hid (by
      unfold kN kF at hO
      unfold kN
      rw [eM] at hO ⊢
      exact hO)
    have HBW : Hid (Below w.heap.size w W) := Lib.hid ⟨hN.os.trans HBw.out.os, hN.tape.trans HBw.out.tape, hN.output.trans HBw.out.output, Nat.le_trans HBw.out.size hN.size, fun k hk => (hN.block k (by have := HBw.out.size; omega) (by omega) (fun e => by cases e)).trans (HBw.out.block k hk)⟩
    clear hX hO hN eM
    gi_wp2
    refine ⟨by simp, .inl ⟨_, _, rfl, run_takeDeferred HK.out, ?_⟩⟩
    refine ⟨.slice a1 (kN (belowL l p).attach) c1, ?_, ?_⟩
    · simp [results, Tryz.f26, go_sem]
    · have hVs := HBw.out.size
      refine ⟨_, rfl, own_base (ownR_far HO2.out fun k hk => World.putObj_heap_other (fun e => ?_)) hVs, HBW.out.trans (belowK_b (w := w) (Nat.le_refl _) _ D _ _ (by omega) HK.out rfl rfl)⟩
      subst e
      obtain ⟨_, cs, hc⟩ := ownR_blk HO2.out hk
      rw [HK.out] at hc
      cases hc
  case stop =>
    rintro D cc pre W hD hpre h hK
    exact h.elim
end Go.Proofs.YtjbbnecegomkcaaGreatDoor

namespace Go.Proofs.YtjbbnecegomkcaaGreatDoor
open Go.RowKit Go.Shelf

def bas (l : List Str) : List ByteArray := l.map fun s => ⟨s.toArray⟩
theorem bas_len (l : List Str) : (bas l).length = l.length := by simp [bas]
theorem bas_inj (l m : List Str) : bas l = bas m ↔ l = m := by
  constructor
  · intro h
    have : (bas l).map (·.data.toList) = (bas m).map (·.data.toList) := by rw [h]
    have id_ : ∀ k : List Str, (bas k).map (·.data.toList) = k := fun k => by
      unfold bas
      rw [List.map_map]; exact (List.map_congr_left (fun _ _ => rfl)).trans (List.map_id k)
    rwa [id_, id_] at this
  · intro h; rw [h]
theorem bas_cell {w : World} {B g n cap : Nat} {l : List Str} (h : w.ownsRow B 9 1 (.slice (some ⟨g, 0, none⟩) n cap) n (l.map encS)) (j : Nat) (hj : j < (bas l).length) :
    w.cell? ⟨g, 0 + j, none⟩ = some (.string ((bas l).getD j ByteArray.empty)) := by
  rw [bas_len] at hj
  have h1 := own_cell h j (encS l[j]) (by rw [List.getElem?_map, List.getElem?_eq_getElem hj]; rfl)
  rw [Nat.zero_add, h1]
  congr 1
  unfold bas
  rw [List.getD_eq_getElem?_getD, List.getElem?_map, List.getElem?_eq_getElem hj]
  rfl

theorem eq_any (l m : List Str) (b1 b2 : Nat) (v1 v2 : Value) (w : World) (h1 : w.ownsRow b1 9 1 v1 l.length (l.map encS)) (h2 : w.ownsRow b2 9 1 v2 m.length (m.map encS)) (hl : l.length ≤ 1000000) (hm : m.length ≤ 1000000) :
    Calls Tryz.prog 25 #[v1, v2] w fun e w' => e = .returned (.bool (decide (l = m))) ∧ ∃ q, w' = w.drewN q := by
  by_cases hlen : l.length = m.length
  · by_cases h0 : l.length = 0
    · have e1 : l = [] := List.eq_nil_of_length_eq_zero h0
      have e2 : m = [] := List.eq_nil_of_length_eq_zero (by omega)
      subst e1; subst e2
      have key : ∀ a1 c a2 d, Calls Tryz.prog 25 #[.slice a1 0 c, .slice a2 0 d] w fun e w' => e = .returned (.bool (decide (([] : List Str) = []))) ∧ ∃ q, w' = w.drewN q := fun a1 c a2 d =>
        (Tryz.slices_Equal_string_empty a1 a2 c 0 d w (by omega)).mono fun _ _ ⟨he, hw⟩ => ⟨he, 0, hw⟩
      obtain ⟨a1, c1, rfl⟩ := own_len h1
      obtain ⟨a2, c2, rfl⟩ := own_len h2
      exact key a1 c1 a2 c2
    · obtain ⟨g1, c1, rfl, _, _⟩ := h1.form (by omega)
      obtain ⟨g2, c2, rfl, _, _⟩ := h2.form (by omega)
      refine (Tryz.slices_Equal_string g1 0 l.length c1 g2 0 m.length c2 (bas l) (bas m) w (by rw [bas_len]; exact Nat.le_refl _) (by rw [bas_len]; exact Nat.le_refl _) (by omega) (by omega) (bas_cell h1) (bas_cell h2)).mono fun _ _ ⟨he, hw⟩ => ⟨?_, hw⟩
      rw [he]
      refine ret_bool ?_
      rw [List.take_of_length_le (by rw [bas_len]; exact Nat.le_refl _), List.take_of_length_le (by rw [bas_len]; exact Nat.le_refl _)]
      exact decide_eq_decide.2 (bas_inj l m)
  · obtain ⟨a1, c1, rfl⟩ := own_len h1
    obtain ⟨a2, c2, rfl⟩ := own_len h2
    refine (Tryz.slices_Equal_string_lens a1 a2 l.length c1 m.length c2 w hlen).mono fun _ _ ⟨he, hw⟩ => ⟨?_, 0, hw⟩
    rw [he]
    refine ret_bool (decide_eq_false ?_).symm
    intro e; rw [e] at hlen; exact hlen rfl


def wOps : List Opn := [⟨1, [47, 97], [], []⟩, ⟨2, [47, 97, 47, 102], [], [7]⟩, ⟨4, [47, 97, 47, 108], [], [102]⟩, ⟨5, [47, 97], [47, 122], []⟩, ⟨1, [47, 98, 47, 99], [], []⟩]
def wT : List It := [⟨[47, 122], 1, []⟩, ⟨[47, 122, 47, 102], 2, [7]⟩, ⟨[47, 122, 47, 108], 3, [102]⟩]
theorem wRun : runM [] wOps = (wT, 4, 4) := by decide +kernel
theorem wValid : validT wT = true := by decide +kernel
theorem wOk : TreeOk wT := tree_ok wValid
theorem wKids : kL [47, 122] (belowL wT [47, 122]) = [[102], [108]] := by decide +kernel
theorem wBelow : (belowL wT [47]).length = 3 := by decide +kernel
theorem b24 : Tryz.prog.built 24 [] = some #[.slice none 0 0] := by kernel_rfl
theorem b26a : Tryz.prog.built 51 [(0, .int .i64 1), (1, .string ⟨#[47, 97]⟩)] = some #[.int .i64 1, .string ⟨#[47, 97]⟩, .string ⟨#[]⟩, .string ⟨#[]⟩] := by kernel_rfl
theorem b26b : Tryz.prog.built 51 [(0, .int .i64 2), (1, .string ⟨#[47, 97, 47, 102]⟩), (3, .string ⟨#[7]⟩)] = some #[.int .i64 2, .string ⟨#[47, 97, 47, 102]⟩, .string ⟨#[]⟩, .string ⟨#[7]⟩] := by kernel_rfl
theorem b26c : Tryz.prog.built 51 [(0, .int .i64 4), (1, .string ⟨#[47, 97, 47, 108]⟩), (3, .string ⟨#[102]⟩)] = some #[.int .i64 4, .string ⟨#[47, 97, 47, 108]⟩, .string ⟨#[]⟩, .string ⟨#[102]⟩] := by kernel_rfl
theorem b26d : Tryz.prog.built 51 [(0, .int .i64 5), (1, .string ⟨#[47, 97]⟩), (2, .string ⟨#[47, 122]⟩)] = some #[.int .i64 5, .string ⟨#[47, 97]⟩, .string ⟨#[47, 122]⟩, .string ⟨#[]⟩] := by kernel_rfl
theorem b26e : Tryz.prog.built 51 [(0, .int .i64 1), (1, .string ⟨#[47, 98, 47, 99]⟩)] = some #[.int .i64 1, .string ⟨#[47, 98, 47, 99]⟩, .string ⟨#[]⟩, .string ⟨#[]⟩] := by kernel_rfl
def wCells : Array Value := #[.int .i64 1, .string ⟨#[47, 97]⟩, .string ⟨#[]⟩, .string ⟨#[]⟩, .int .i64 2, .string ⟨#[47, 97, 47, 102]⟩, .string ⟨#[]⟩, .string ⟨#[7]⟩, .int .i64 4, .string ⟨#[47, 97, 47, 108]⟩, .string ⟨#[]⟩, .string ⟨#[102]⟩, .int .i64 5, .string ⟨#[47, 97]⟩, .string ⟨#[47, 122]⟩, .string ⟨#[]⟩, .int .i64 1, .string ⟨#[47, 98, 47, 99]⟩, .string ⟨#[]⟩, .string ⟨#[]⟩]
theorem wRd {w : World} {g : Nat} (X : Box w g 51 wCells) : RdO w (.slice (some ⟨g, 0, none⟩) 5 5) wOps :=
  ⟨_, 5, rfl, Nat.le_refl _, by decide, fun _ => ⟨g, 0, rfl, X.lt, fun j u hu => by
    rw [Nat.zero_add]
    exact X.cell (by rw [← Array.getElem?_toList]; exact hu)⟩⟩
theorem two_own {w : World} {g : Nat} (X : Box w g 9 #[.string ⟨#[102]⟩, .string ⟨#[108]⟩]) : w.ownsRow 0 9 1 (.slice (some ⟨g, 0, none⟩) 2 2) [[102], [108]].length ([[102], [108]].map encS) :=
  ⟨rfl, .inr ⟨g, 2, _, rfl, Nat.zero_le _, X, Nat.le_refl _, by decide, rfl, rfl⟩⟩

set_option maxRecDepth 100000 in
set_option maxHeartbeats 8000000 in
theorem wakes6_any (w : World) (hT : TabS w) : Calls Tryz.prog 8 #[] w fun e w' => e = .returned (.bool true) ∧ Below w.heap.size w w' := by
  have HT := Lib.hid hT
  obtain ⟨w1, hw1⟩ : ∃ z, z = w.alloc (.cells wCells 51) := ⟨_, rfl⟩
  obtain ⟨g1, hg1⟩ : ∃ z, z = w.heap.size := ⟨_, rfl⟩
  have HB1 : Hid (Below w.heap.size w w1) := Lib.hid (by rw [hw1]; exact below_new _ _)
  have HRU : Hid (Calls Tryz.prog 31 #[.agg #[.slice none 0 0], .slice (some ⟨g1, 0, none⟩) 5 5] w1 (RunR [] wOps w1)) := Lib.hid (run_any [] (.slice none 0 0) wOps _ w1 (RdI.nil _) (fun x hx => by cases hx) (wRd (by rw [hw1, hg1]; exact box_new)) (by decide) (HT.out.on HB1.out))
  have hw1' : w1 = w.alloc (.cells #[.int .i64 1, .string ⟨#[47, 97]⟩, .string ⟨#[]⟩, .string ⟨#[]⟩, .int .i64 2, .string ⟨#[47, 97, 47, 102]⟩, .string ⟨#[]⟩, .string ⟨#[7]⟩, .int .i64 4, .string ⟨#[47, 97, 47, 108]⟩, .string ⟨#[]⟩, .string ⟨#[102]⟩, .int .i64 5, .string ⟨#[47, 97]⟩, .string ⟨#[47, 122]⟩, .string ⟨#[]⟩, .int .i64 1, .string ⟨#[47, 98, 47, 99]⟩, .string ⟨#[]⟩, .string ⟨#[]⟩] 51) := hw1
  have k0 := b24
  have k1 := b26a
  have k2 := b26b
  have k3 := b26c
  have k4 := b26d
  have k5 := b26e
  clear hT hw1
  go_enter Tryz.func8, Tryz.ntmps8
  go_wp2_with fail
  rw [← hw1', ← hg1]
  clear hw1' hg1 k0 k1 k2 k3 k4 k5
  refine HRU.out.mono ?_
  rintro e a1 ⟨hb1, hr⟩
  rw [wRun] at hr
  obtain ⟨_, v1, rfl, ho1⟩ := hr.resolve_left (fun h => by have := h.1; revert this; decide +kernel)
  obtain ⟨aa, an, ac, rfl⟩ := own_any ho1
  obtain ⟨g2, hg2⟩ : ∃ z, z = a1.heap.size := ⟨_, rfl⟩
  obtain ⟨v2, hv2⟩ : ∃ z, z = (a1.alloc (.cells #[.slice none 0 0] 24)).setRow a1.heap.size #[.slice aa an ac] := ⟨_, rfl⟩
  have hn2 : Below a1.heap.size a1 v2 := by rw [hv2]; exact below_row (below_new _ _) (Nat.le_refl _) _
  have X2 : Hid (Box v2 g2 24 #[.slice aa an ac]) := Lib.hid (by rw [hv2, hg2]; exact Box.row (box_new (w := a1) (t := 24) (cs := #[.slice none 0 0])) _)
  have HB2 : Hid (Below w.heap.size w v2) := Lib.hid (bch HB1.out (bch hb1 hn2))
  have HO2 : Hid (OwnI v2 w1.heap.size (.slice aa an ac) wT) := Lib.hid (ho1.on hn2)
  have HV2 := Lib.hid hv2
  have HG2 := Lib.hid hg2
  have p2 : v2.cell? ⟨g2, 0, none⟩ = some (.slice aa an ac) := X2.out.cell (k := 0) rfl
  have HGE : Hid (Calls Tryz.prog 23 #[.agg #[.slice aa an ac], .string ⟨#[47, 122, 47, 102]⟩] v2 fun e w' => e = .returned (.tuple #[.agg #[.string ⟨#[47, 122, 47, 102]⟩, .int .i64 2, .string ⟨#[7]⟩], .bool true]) ∧ Below v2.heap.size v2 w') := Lib.hid (get_any wT _ ⟨[47, 122, 47, 102], 2, [7]⟩ wOk (.inr (by decide)) v2 HO2.out.rd (tree_sz wOk) (HT.out.on HB2.out).tab)
  clear hb1 hr ho1 hn2 hv2 hg2 HRU
  go_wp2_with (first
    | (refine wpList_store_row rfl 24 (.tmp 1) (.tmp 15) rfl a1.heap.size #[.slice aa an ac] rfl rfl 24 #[.slice none 0 0] box_new (info24 _) rfl (slice_one _ _ _) ?_; rw [← HV2.out, ← HG2.out])
    | fail)
  refine HGE.out.mono ?_
  rintro e a3 ⟨rfl, hb3⟩
  obtain ⟨g4, hg4⟩ : ∃ z, z = a3.heap.size := ⟨_, rfl⟩
  obtain ⟨v4, hv4⟩ : ∃ z, z = (a3.alloc (.cells #[.string ⟨#[]⟩, .int .i64 0, .string ⟨#[]⟩] 33)).setRow a3.heap.size (It.arr ⟨[47, 122, 47, 102], 2, [7]⟩) := ⟨_, rfl⟩
  have X4 : Hid (Box v4 g4 33 (It.arr ⟨[47, 122, 47, 102], 2, [7]⟩)) := Lib.hid (by rw [hv4, hg4]; exact Box.row (box_new (w := a3) (t := 33) (cs := It.nil.arr)) _)
  have hn4 : Below v2.heap.size v2 v4 := by rw [hv4]; exact bch hb3 (below_row (below_new _ _) (Nat.le_refl _) _)
  have HB4 : Hid (Below w.heap.size w v4) := Lib.hid (bch HB2.out hn4)
  have X24 : Hid (Box v4 g2 24 #[.slice aa an ac]) := Lib.hid (X2.out.on hn4)
  have HO4 : Hid (OwnI v4 w1.heap.size (.slice aa an ac) wT) := Lib.hid (HO2.out.on hn4)
  have HV4 := Lib.hid hv4
  have HG4 := Lib.hid hg4
  have c42 : v4.cell? ⟨g4, 2, none⟩ = some (.string ⟨#[7]⟩) := X4.out.cell (k := 2) rfl
  have p4 : v4.cell? ⟨g2, 0, none⟩ = some (.slice aa an ac) := X24.out.cell (k := 0) rfl
  have HKI := Lib.hid (kids_any w1.heap.size wT (.slice aa an ac) [47, 122] v4 HO4.out wOk (by decide) (HT.out.on HB4.out).tab)
  clear hb3 hn4 hv4 hg4 HGE p2
  go_wp2_with (first
    | (refine wpList_store_row rfl 33 (.tmp 4) (.tmp 21) rfl a3.heap.size (It.arr ⟨[47, 122, 47, 102], 2, [7]⟩) rfl rfl 33 It.nil.arr box_new (info35 _) rfl (iarr_one _) ?_; rw [← HV4.out, ← HG4.out])
    | fail)
  refine HKI.out.mono ?_
  rintro e a5 ⟨x5, rfl, ho5, hb5⟩
  rw [wKids] at ho5
  obtain ⟨a6, c6, rfl⟩ := own_len ho5
  obtain ⟨w6, hw6⟩ : ∃ z, z = a5.alloc (.cells #[.string ⟨#[102]⟩, .string ⟨#[108]⟩] 9) := ⟨_, rfl⟩
  obtain ⟨g6, hg6⟩ : ∃ z, z = a5.heap.size := ⟨_, rfl⟩
  have hb56 : Below a5.heap.size a5 w6 := by rw [hw6]; exact below_new _ _
  have X6 : Box w6 g6 9 #[.string ⟨#[102]⟩, .string ⟨#[108]⟩] := by rw [hw6, hg6]; exact box_new
  have HEQ : Hid (Calls Tryz.prog 25 #[.slice a6 2 c6, .slice (some ⟨g6, 0, none⟩) 2 2] w6 fun e w' => e = .returned (.bool true) ∧ ∃ q, w' = w6.drewN q) := Lib.hid ((eq_any [[102], [108]] [[102], [108]] v4.heap.size 0 (.slice a6 2 c6) (.slice (some ⟨g6, 0, none⟩) 2 2) w6 (owns_below ho5 hb56) (two_own X6) (by decide) (by decide)).mono fun _ _ h => ⟨by rw [h.1]; exact ret_bool (by decide), h.2⟩)
  have hn6 : Below v4.heap.size v4 w6 := bch hb5 hb56
  have HB6 : Hid (Below w.heap.size w w6) := Lib.hid (bch HB4.out hn6)
  have X26 := Lib.hid (X24.out.on hn6)
  have HO6 : Hid (OwnI w6 w1.heap.size (.slice aa an ac) wT) := Lib.hid (HO4.out.on hn6)
  clear ho5 hb5 hb56 hn6 X6 HKI p4 c42
  go_wp2_with fail
  rw [← hw6, ← hg6]
  clear hw6 hg6
  refine HEQ.out.mono ?_
  rintro e a7 ⟨rfl, q, hq⟩
  have hb7 : Below w6.heap.size w6 a7 := by rw [hq]; exact below_drewN' (Below.refl _ _) q
  have p7 : a7.cell? ⟨g2, 0, none⟩ = some (.slice aa an ac) := (X26.out.on hb7).cell (k := 0) rfl
  have HB7 : Hid (Below w.heap.size w a7) := Lib.hid (bch HB6.out hb7)
  have HBL := Lib.hid (below_any w1.heap.size wT (.slice aa an ac) [47] a7 (HO6.out.on hb7) wOk (by decide) (HT.out.on HB7.out).tab)
  clear hq hb7 HEQ
  go_wp2_with fail
  refine HBL.out.mono ?_
  rintro e a8 ⟨x8, rfl, ho8, hb8⟩
  obtain ⟨a9, c9, rfl, _⟩ := own_slice ho8
  rw [wBelow]
  have HB8 := Lib.hid (bch HB7.out hb8)
  clear ho8 hb8 HBL
  go_wp2_with fail
  go_ret
  exact ⟨rfl, HB8.out⟩
end Go.Proofs.YtjbbnecegomkcaaGreatDoor

namespace Go.Proofs.YtjbbnecegomkcaaGreatDoor
open Go.RowKit Go.Shelf

theorem own_row {W : World} {B b : Nat} {v : Value} {l : List It} {cs cs' : Array Value} (h : OwnI W B v l) (Z : Box W b 24 cs) : OwnI (W.setRow b cs') B v l :=
  ownR_far h fun k hk => setRow_other W b k _ (fun e => by
    subst e
    obtain ⟨_, c, hc⟩ := ownR_blk h hk
    rw [show W.heap[k]? = _ from Z] at hc
    cases hc)
/-- What Get hands back. -/
def getT (l : List It) (p : Str) : Option It := if validT l = true then getI l p else none
set_option maxRecDepth 100000 in
set_option maxHeartbeats 4000000 in
theorem get_gen (l : List It) (v : Value) (p : Str) (w : World) (hv : RdI w v l) (hx : ∀ x ∈ l, x.path.length ≤ 140737488355328) (hp : p.length ≤ 140737488355328) (hT : Tabs w) :
    Calls Tryz.prog 23 #[.agg #[v], .string ⟨p.toArray⟩] w (GetR (getT l p) w) := by
  obtain ⟨w1, hw1⟩ : ∃ z, z = (w.alloc (.cells #[v] 24)).alloc (.cells #[.string ⟨#[]⟩, .int .i64 0, .string ⟨#[]⟩] 33) := ⟨_, rfl⟩
  have X : Box w1 w.heap.size 24 #[v] := by rw [hw1]; exact box_new.alloc _
  have X1 : Hid (Box w1 (w.heap.size + 1) 33 It.nil.arr) := Lib.hid (by rw [hw1, show w.heap.size + 1 = (w.alloc (.cells #[v] 24)).heap.size from by simp]; exact box_new)
  have HB1 : Hid (Below w.heap.size w w1) := Lib.hid (by rw [hw1]; exact bch (below_new _ _) (below_new _ _))
  obtain ⟨bb, hbb⟩ : ∃ z, z = validT l := ⟨_, rfl⟩
  have HVA := Lib.hid (tvalid_is l bb hbb v w1 (hv.on HB1.out) hx (hT.on HB1.out))
  have HV := Lib.hid (hv.on HB1.out)
  have HT := Lib.hid (hT.on HB1.out)
  have HX := Lib.hid hx
  have HBB := Lib.hid hbb
  obtain ⟨b4, hb4⟩ : ∃ z, z = w.heap.size + 1 := ⟨_, rfl⟩
  rw [← hb4] at X1
  have H4 : Hid (w.heap.size ≤ b4) := Lib.hid (by rw [hb4]; exact Nat.le_succ _)
  have HLT : Hid (w.heap.size < w1.heap.size) := Lib.hid X.lt
  have c0 := X.cell (k := 0) rfl
  obtain ⟨a, c, rfl, _⟩ := hv.open
  have k0 := zeroI
  clear hv hT hx hbb X
  cases bb with
  | false =>
    have HN : Hid (getT l p = none) := Lib.hid (by unfold getT; rw [← HBB.out]; rfl)
    go_enter Tryz.func23, Tryz.ntmps23
    go_upto_region 1 with fail
    rw [← hw1, ← hb4]
    clear hw1 hb4
    go_wp2_with fail
    refine HVA.out.mono ?_
    rintro e w2 ⟨rfl, hb2⟩
    have HB2 := Lib.hid (bch HB1.out hb2)
    have X2 := Lib.hid (X1.out.on hb2)
    clear hb2 c0 X1 HVA
    go_wp2_with (refine wpList_store_row rfl 33 (.tmp 4) (.tmp 10) rfl b4 It.nil.arr rfl rfl 33 _ X2.out (info35 _) rfl (iarr_one _) ?_)
    exact bodyPost_ret (end_item rfl _ (X2.out.row _) rfl rfl) rfl ⟨by rw [HN.out]; rfl, below_row HB2.out H4.out _⟩
  | true =>
    have HOK : Hid (TreeOk l) := Lib.hid (tree_ok HBB.out.symm)
    obtain ⟨o, ho⟩ : ∃ z, z = getT l p := ⟨_, rfl⟩
    have HG0 : Hid (o = getI l p) := Lib.hid (by rw [ho]; unfold getT; rw [if_pos HBB.out.symm])
    rw [← ho]
    obtain ⟨y, hy⟩ : ∃ y, y = o.getD .nil := ⟨_, rfl⟩
    obtain ⟨is, his⟩ : ∃ z, z = o.isSome := ⟨_, rfl⟩
    have HE : Hid (∀ W', Below w.heap.size w W' → GetR o w (.returned (.tuple #[.agg y.arr, .bool is])) W') := Lib.hid (fun W' h => ⟨by rw [hy, his], h⟩)
    have HY := Lib.hid hy
    have HI := Lib.hid his
    clear ho hy his
    go_enter Tryz.func23, Tryz.ntmps23
    go_upto_region 1 with fail
    rw [← hw1, ← hb4]
    clear hw1 hb4
    go_wp2_with fail
    refine HVA.out.mono ?_
    rintro e w2 ⟨rfl, hb2⟩
    have HB2 := Lib.hid (bch HB1.out hb2)
    have c2 := (hb2.cell (p := ⟨w.heap.size, 0, none⟩) HLT.out).trans c0
    have X2 := Lib.hid (X1.out.on hb2)
    have HG : Hid (Calls Tryz.prog 48 #[.slice a l.length c, .string ⟨p.toArray⟩] w2 fun e w' => e = .returned (.tuple #[.agg y.arr, .bool is]) ∧ Below w2.heap.size w2 w') := Lib.hid (by
      have := tget_gen l (.slice a l.length c) p w2 (srt_of HOK.out) HOK.out.many (HV.out.on hb2) HX.out hp (HT.out.on hb2)
      rw [← HG0.out] at this
      rw [HY.out, HI.out]
      exact this)
    clear hb2 c0 X1 HVA
    go_wp2_with fail
    refine HG.out.mono ?_
    rintro e w3 ⟨rfl, hb3⟩
    have X3 := Lib.hid (X2.out.on hb3)
    have HB3 := Lib.hid (bch HB2.out hb3)
    clear hb3 c2 HG
    go_wp2_with (refine wpList_store_row rfl 33 (.tmp 4) (.tmp 15) rfl b4 y.arr rfl rfl 33 _ X3.out (info35 _) rfl (iarr_one _) ?_)
    refine bodyPost_ret ?_ rfl (HE.out _ (below_row HB3.out H4.out _))
    exact end_item rfl _ (X3.out.row _) rfl rfl

/-- What Do comes to. -/
def doM (l : List It) (o : Opn) : Except Int (List It) := if validT l = true then actM l o else .error 160
theorem end_tree2 {fn : Func} {p q : Tmp} (h : fn.results = #[.cell p 24, .tmp q]) (tmps : Array Value) {w : World} {g : Nat} {v : Value} (X : Box w g 24 #[v]) (hp : tmps.getD p undef = .pointer (some ⟨g, 0, none⟩)) {x : Value} (hq : tmps.getD q undef = x) :
    (results fn tmps).run Tryz.prog w = .ok (.tuple #[.agg #[v], x]) w := by
  rw [← hq]
  exact results_two h tmps w g hp #[v] (run_loadVar_row _ g 24 24 #[v] (0, 0) _ X Tryz.underlying24 rfl (info24 v))
theorem one_rd {w : World} {g : Nat} {o : Opn} (X : Box w g 51 o.arr) : RdO w (.slice (some ⟨g, 0, none⟩) 1 1) [o] :=
  ⟨_, 1, rfl, Nat.le_refl _, by decide, fun _ => ⟨g, 0, rfl, X.lt, fun j u hu => by
    rw [Nat.zero_add]
    exact X.cell (by rw [← Array.getElem?_toList]; simpa [flatO, Opn.cells, Opn.arr] using hu)⟩⟩
theorem run_one (l : List It) (v : Value) (o : Opn) (vo : Value) (w : World) (hv : RdI w v l) (hx : ∀ x ∈ l, x.path.length ≤ 140737488355328) (ho : RdO w vo [o]) (hso : o.path.length ≤ 140737488355328 ∧ o.to.length ≤ 140737488355328) (hT : TabS w) :
    Calls Tryz.prog 31 #[.agg #[v], vo] w fun e w' => Below w.heap.size w w' ∧ ∃ a n c many er, e = .returned (.tuple #[.agg #[.slice a n c], .int .i64 many, .int .i64 er]) ∧ ((er ≠ 0 ∧ doM l o = .error er) ∨ (er = 0 ∧ ∃ l', doM l o = .ok l' ∧ OwnI w' w.heap.size (.slice a n c) l')) :=
  (run_any l v [o] vo w hv hx ho (fun q hq => by obtain rfl := List.mem_singleton.1 hq; exact hso) hT).mono fun e w' ⟨hb, hc⟩ => by
    refine ⟨hb, ?_⟩
    rcases hc with ⟨h0, rfl⟩ | ⟨h0, v', he, hown⟩
    · exact ⟨_, _, _, _, _, rfl, .inl ⟨by decide, by unfold doM; rw [h0]; rfl⟩⟩
    · obtain ⟨a, n, c, rfl⟩ := own_any hown
      refine ⟨a, n, c, _, _, he, ?_⟩
      cases ha : actM l o with
      | error z =>
        rw [run_no ha]
        exact .inl ⟨act_err ha, by unfold doM; rw [if_pos h0, ha]⟩
      | ok l' =>
        rw [run_yes ha] at hown ⊢
        exact .inr ⟨rfl, l', by unfold doM; rw [if_pos h0, ha], hown⟩
def DoR (l : List It) (o : Opn) (w : World) (e : Ending) (w' : World) : Prop :=
  Below w.heap.size w w' ∧ ((∃ z, doM l o = .error z ∧ z ≠ 0 ∧ e = .returned (.tuple #[.agg #[.slice none 0 0], .int .i64 z])) ∨ (∃ l' v', doM l o = .ok l' ∧ e = .returned (.tuple #[.agg #[v'], .int .i64 0]) ∧ OwnI w' w.heap.size v' l'))

set_option maxRecDepth 100000 in
set_option maxHeartbeats 8000000 in
theorem do_any (l : List It) (v : Value) (o : Opn) (w : World) (hv : RdI w v l) (hx : ∀ x ∈ l, x.path.length ≤ 140737488355328) (hso : o.path.length ≤ 140737488355328 ∧ o.to.length ≤ 140737488355328) (hT : TabS w) :
    Calls Tryz.prog 27 #[.agg #[v], .agg o.arr] w (DoR l o w) := by
  obtain ⟨w1, hw1⟩ : ∃ z, z = ((w.alloc (.cells #[v] 24)).alloc (.cells o.arr 51)).alloc (.cells #[.slice none 0 0] 24) := ⟨_, rfl⟩
  obtain ⟨b2, hb2⟩ : ∃ z, z = w.heap.size := ⟨_, rfl⟩
  have X2 : Hid (Box w1 b2 24 #[v]) := Lib.hid (by rw [hw1, hb2]; exact (box_new.alloc _).alloc _)
  have X3 : Hid (Box w1 (b2 + 1) 51 o.arr) := Lib.hid (by rw [hw1, hb2, show w.heap.size + 1 = (w.alloc (.cells #[v] 24)).heap.size from by simp]; exact box_new.alloc _)
  have X4 : Hid (Box w1 (b2 + 1 + 1) 24 #[.slice none 0 0]) := Lib.hid (by rw [hw1, hb2, show w.heap.size + 1 + 1 = ((w.alloc (.cells #[v] 24)).alloc (.cells o.arr 51)).heap.size from by simp]; exact box_new)
  have HB1 : Hid (Below w.heap.size w w1) := Lib.hid (by rw [hw1]; exact bch (bch (below_new _ _) (below_new _ _)) (below_new _ _))
  obtain ⟨w2, hw2⟩ : ∃ z, z = w1.alloc (.cells o.arr 51) := ⟨_, rfl⟩
  obtain ⟨g2, hg2⟩ : ∃ z, z = w1.heap.size := ⟨_, rfl⟩
  have hb12 : Below w1.heap.size w1 w2 := by rw [hw2]; exact below_new _ _
  have XO : Box w2 g2 51 o.arr := by rw [hw2, hg2]; exact box_new
  have HB2 : Hid (Below w.heap.size w w2) := Lib.hid (bch HB1.out hb12)
  have X42 : Hid (Box w2 (b2 + 1 + 1) 24 #[.slice none 0 0]) := Lib.hid (X4.out.on hb12)
  have HRU := Lib.hid (run_one l v o (.slice (some ⟨g2, 0, none⟩) 1 1) w2 (hv.on HB2.out) hx (one_rd XO) hso (hT.on HB2.out))
  have H4 : Hid (w.heap.size ≤ b2 + 1 + 1) := Lib.hid (by omega)
  obtain ⟨a, c, rfl, _⟩ := hv.open
  have hw1' : w1 = ((w.alloc (.cells #[.slice a l.length c] 24)).alloc (.cells #[.int .i64 o.kind, .string ⟨o.path.toArray⟩, .string ⟨o.to.toArray⟩, .string ⟨o.data.toArray⟩] 51)).alloc (.cells #[.slice none 0 0] 24) := hw1
  have hw2' : w2 = w1.alloc (.cells #[.int .i64 o.kind, .string ⟨o.path.toArray⟩, .string ⟨o.to.toArray⟩, .string ⟨o.data.toArray⟩] 51) := hw2
  have c2 : w1.cell? ⟨b2, 0, none⟩ = some (.slice a l.length c) := X2.out.cell (k := 0) rfl
  have m0 : w1.cell? ⟨b2 + 1, 0, none⟩ = some (.int .i64 o.kind) := X3.out.cell (k := 0) rfl
  have m1 : w1.cell? ⟨b2 + 1, 1, none⟩ = some (.string ⟨o.path.toArray⟩) := X3.out.cell (k := 1) rfl
  have m2 : w1.cell? ⟨b2 + 1, 2, none⟩ = some (.string ⟨o.to.toArray⟩) := X3.out.cell (k := 2) rfl
  have m3 : w1.cell? ⟨b2 + 1, 3, none⟩ = some (.string ⟨o.data.toArray⟩) := X3.out.cell (k := 3) rfl
  have HW1 := Lib.hid hw1'
  have HW2 := Lib.hid hw2'
  have HG2 := Lib.hid hg2
  have HBE := Lib.hid hb2
  have e1 : (.agg o.arr : Value) = .agg #[.int .i64 o.kind, .string ⟨o.path.toArray⟩, .string ⟨o.to.toArray⟩, .string ⟨o.data.toArray⟩] := rfl
  rw [e1]
  have k0 := b24
  clear hv hx hT hw1 hw2 hw1' hw2' hg2 hb2 e1 XO hb12
  go_enter Tryz.func27, Tryz.ntmps27
  go_upto_region 1 with fail
  rw [← HBE.out, ← HW1.out]
  go_wp2_with fail
  rw [← HW2.out, ← HG2.out]
  refine HRU.out.mono ?_
  rintro e a3 ⟨hb3, xa, xn, xc, many, er, rfl, hc⟩
  obtain ⟨g6, hg6⟩ : ∃ z, z = a3.heap.size := ⟨_, rfl⟩
  obtain ⟨v6, hv6⟩ : ∃ z, z = (a3.alloc (.cells #[.slice none 0 0] 24)).setRow a3.heap.size #[.slice xa xn xc] := ⟨_, rfl⟩
  have hn6 : Below a3.heap.size a3 v6 := by rw [hv6]; exact below_row (below_new _ _) (Nat.le_refl _) _
  have X6 : Hid (Box v6 g6 24 #[.slice xa xn xc]) := Lib.hid (by rw [hv6, hg6]; exact Box.row (box_new (w := a3) (t := 24) (cs := #[.slice none 0 0])) _)
  have HB6 : Hid (Below w.heap.size w v6) := Lib.hid (bch HB2.out (bch hb3 hn6))
  have X46 : Hid (Box v6 (b2 + 1 + 1) 24 #[.slice none 0 0]) := Lib.hid (X42.out.on (bch hb3 hn6))
  have p6 : v6.cell? ⟨g6, 0, none⟩ = some (.slice xa xn xc) := X6.out.cell (k := 0) rfl
  have HC : Hid ((er ≠ 0 ∧ doM l o = .error er) ∨ (er = 0 ∧ ∃ l', doM l o = .ok l' ∧ OwnI v6 w2.heap.size (.slice xa xn xc) l')) := Lib.hid (hc.imp id fun ⟨h0, l', h1, h2⟩ => ⟨h0, l', h1, h2.on hn6⟩)
  have HV6 := Lib.hid hv6
  have HG6 := Lib.hid hg6
  clear hb3 hc hn6 hv6 hg6 HRU m0 m1 m2 m3 c2
  by_cases he : er = 0
  · subst he
    obtain ⟨l', hd, hown⟩ : ∃ l', doM l o = .ok l' ∧ OwnI v6 w2.heap.size (.slice xa xn xc) l' := by
      rcases HC.out with h | h
      · exact absurd rfl h.1
      · exact h.2
    have HD := Lib.hid hd
    have HO := Lib.hid hown
    clear hd hown
    go_wp2_with (first
      | (refine wpList_store_row rfl 24 (.tmp 6) (.tmp 14) rfl a3.heap.size #[.slice xa xn xc] rfl rfl 24 #[.slice none 0 0] box_new (info24 _) rfl (slice_one _ _ _) ?_; rw [← HV6.out, ← HG6.out])
      | (refine wpList_store_row rfl 24 (.tmp 4) (.tmp 21) rfl (b2 + 1 + 1) #[.slice xa xn xc] rfl rfl 24 _ X46.out (info24 _) rfl (slice_one _ _ _) ?_)
      | fail)
    exact bodyPost_ret (end_tree2 rfl _ (X46.out.row _) rfl rfl) rfl ⟨below_row HB6.out H4.out _, .inr ⟨l', _, HD.out, rfl, own_base (own_row HO.out X46.out) HB2.out.size⟩⟩
  · have t1 : (er == 0) = false := by simpa using he
    have t2 : (er != 0) = true := by simpa using he
    have HD : Hid (doM l o = .error er) := Lib.hid (by
      rcases HC.out with h | h
      · exact h.2
      · exact absurd h.1 he)
    have HE := Lib.hid he
    clear he
    go_wp2_with (first
      | (refine wpList_store_row rfl 24 (.tmp 6) (.tmp 14) rfl a3.heap.size #[.slice xa xn xc] rfl rfl 24 #[.slice none 0 0] box_new (info24 _) rfl (slice_one _ _ _) ?_; rw [← HV6.out, ← HG6.out])
      | (refine wpList_store_row rfl 24 (.tmp 4) (.tmp 19) rfl (b2 + 1 + 1) #[.slice none 0 0] rfl rfl 24 _ X46.out (info24 _) rfl (slice_one _ _ _) ?_)
      | fail)
    exact bodyPost_ret (end_tree2 rfl _ (X46.out.row _) rfl rfl) rfl ⟨below_row HB6.out H4.out _, .inl ⟨er, HD.out, HE.out, rfl⟩⟩
end Go.Proofs.YtjbbnecegomkcaaGreatDoor

namespace Go.Proofs.YtjbbnecegomkcaaGreatDoor
open Go.RowKit Go.Shelf

/-- A stack of texts in memory of the call's own; the topmost stands last. -/
def OwnS (w : World) (B : Nat) (v : Value) (T : List Str) : Prop := w.ownsRow B 9 1 v T.length (T.reverse.map encS)
theorem OwnS.pop {w : World} {B : Nat} {a : Option Addr} {n c : Nat} {t : Str} {r : List Str} (h : OwnS w B (.slice a n c) (t :: r)) : OwnS w B (.slice a r.length c) r := by
  obtain ⟨h1, h2⟩ := h
  refine ⟨by simp, ?_⟩
  rcases h2 with ⟨_, h3⟩ | ⟨g, cap, cur, hv, hg, hh, hn, hcap, hcs, htake⟩
  · cases h3
  · right
    injection hv with e1 e2 e3
    subst e1 e3
    refine ⟨g, c, cur, rfl, hg, hh, by rw [List.length_cons] at hn; omega, hcap, hcs, ?_⟩
    have : cur.toList.take (r.length * 1) = (cur.toList.take ((t :: r).length * 1)).take (r.length * 1) := by
      rw [List.take_take, Nat.min_eq_left (by rw [List.length_cons]; omega)]
    rw [this, htake, List.reverse_cons, List.map_append, List.take_append_of_le_length (by simp), List.take_of_length_le (by simp)]
theorem OwnS.on {w w' : World} {B : Nat} {v : Value} {T : List Str} (h : OwnS w B v T) (hw : Below w.heap.size w w') : OwnS w' B v T := by
  refine h.kept (row := none) ⟨hw.os, hw.tape, hw.output, hw.size, fun k hk _ => hw.block k hk⟩ ?_
  cases e : v.ownBlock <;> simp
theorem OwnS.form {w : World} {B : Nat} {v : Value} {t : Str} {r : List Str} (h : OwnS w B v (t :: r)) : ∃ g c, v = .slice (some ⟨g, 0, none⟩) (r.length + 1) c ∧ B ≤ g ∧ g < w.heap.size ∧ r.length + 1 ≤ c ∧ c ≤ maxLen ∧
    w.cell? ⟨g, r.length, none⟩ = some (.string ⟨t.toArray⟩) := by
  have h' := h
  rcases h.2 with ⟨_, h3⟩ | ⟨g, cap, cur, rfl, hg, hh, hn, hcap, hcs, htake⟩
  · cases h3
  · refine ⟨g, cap, rfl, hg, (h'.lt g rfl).2, hn, hcap, ?_⟩
    have k := World.ownsRow.cellAt (g := g) (cap := cap) h' r.length (by rw [List.length_cons]; omega)
    rw [k, List.reverse_cons, List.map_append, List.getElem?_append_right (by simp)]
    simp [encS]
theorem OwnS.slice {w : World} {B : Nat} {v : Value} {T : List Str} (h : OwnS w B v T) : ∃ a c, v = .slice a T.length c ∧ T.length ≤ c ∧ c ≤ maxLen := by
  rcases h.2 with ⟨h2, h3⟩ | ⟨g, cap, cur, rfl, hg, hh, hn, hcap, hcs, htake⟩
  · exact ⟨none, 0, by rw [h2, h3], by omega, Nat.zero_le _⟩
  · exact ⟨_, cap, rfl, hn, hcap⟩
theorem OwnS.blk {w : World} {B : Nat} {v : Value} {T : List Str} (h : OwnS w B v T) : ∀ q, v.ownBlock = some q → B ≤ q := by
  intro q hq
  rcases h.2 with ⟨rfl, _⟩ | ⟨g, cap, cur, rfl, hg, _⟩
  · simp [Value.ownBlock] at hq
  · simp [Value.ownBlock] at hq; omega
theorem OwnS.push {w : World} {B : Nat} {v : Value} {T : List Str} {p : Str} (h : w.ownsRow B 9 1 v (T.length + 1) (T.reverse.map encS ++ [.string ⟨p.toArray⟩])) : OwnS w B v (p :: T) := by
  unfold OwnS
  rw [List.length_cons, List.reverse_cons, List.map_append]
  exact h
theorem chain_snoc (A : List It) (y x : It) : chainR (A ++ [y, x]) = (chainR (A ++ [y]) && decide (cmpL y.path x.path < 0)) := by
  induction A with
  | nil => simp [chainR]
  | cons a A ih =>
    cases A with
    | nil => simp [chainR]
    | cons b A =>
      simp only [List.cons_append, chainR] at ih ⊢
      rw [ih, Bool.and_assoc]
theorem take_one {l : List It} {k : Nat} {x : It} (h : l[k]? = some x) : l.take (k + 1) = l.take k ++ [x] := by
  rw [List.take_add_one, h]; rfl
theorem chain_take {l : List It} {k : Nat} {y x : It} (hy : l[k]? = some y) (hx : l[k + 1]? = some x) : chainR (l.take (k + 2)) = (chainR (l.take (k + 1)) && decide (cmpL y.path x.path < 0)) := by
  rw [take_one hx, take_one hy, List.append_assoc]
  exact chain_snoc _ _ _
theorem chain_not {l : List It} {k : Nat} {y x : It} (hy : l[k]? = some y) (hx : l[k + 1]? = some x) (h : ¬ cmpL y.path x.path < 0) : rightR l = false := by
  cases e : rightR l with
  | false => rfl
  | true =>
    unfold rightR at e
    rw [Bool.and_eq_true, Bool.and_eq_true, Bool.and_eq_true, chain_pair] at e
    obtain ⟨h1, rfl⟩ := List.getElem?_eq_some_iff.1 hy
    obtain ⟨h2, rfl⟩ := List.getElem?_eq_some_iff.1 hx
    exact absurd (List.pairwise_iff_getElem.1 e.2.1.2 k (k + 1) h1 h2 (Nat.lt_succ_self k)) h
theorem item_not {l : List It} {k : Nat} {x : It} (hx : l[k]? = some x) (h : rightI x = false) : rightR l = false := by
  cases e : rightR l with
  | false => rfl
  | true =>
    unfold rightR at e
    rw [Bool.and_eq_true, Bool.and_eq_true, Bool.and_eq_true, List.all_eq_true] at e
    rw [e.2.1.1 x (List.mem_of_getElem? hx)] at h
    cases h
theorem run2_dead (l m : List It) (h : run2 l = none) : run2 (l ++ m) = none := by
  unfold run2 at *
  rw [List.foldl_append, h]
  induction m with
  | nil => rfl
  | cons a m ih => simpa using ih
theorem run2_not {l : List It} {k : Nat} (h : run2 (l.take k) = none) : rightR l = false := by
  have := run2_dead _ (l.drop k) h
  rw [List.take_append_drop] at this
  unfold rightR
  rw [this]
  simp
theorem run2_take {l : List It} {k : Nat} {x : It} {T : List Str} (hx : l[k]? = some x) (h : run2 (l.take k) = some T) : run2 (l.take (k + 1)) = step2 T x := by
  rw [take_one hx, run2_snoc, h]; rfl
theorem pop_cons_ne {t u : Str} {r : List Str} (h : t ≠ u) : popR (t :: r) u = popR r u := by
  unfold popR
  rw [List.dropWhile_cons, if_pos (by simp [h])]
theorem pop_cons_eq {t u : Str} {r : List Str} (h : t = u) : popR (t :: r) u = t :: r := by
  unfold popR
  rw [List.dropWhile_cons, if_neg (by simp [h])]

set_option maxRecDepth 100000 in
set_option maxHeartbeats 8000000 in
theorem rtree_any (l : List It) (v : Value) (w : World) (hv : RdI w v l) (hsz : ∀ x ∈ l, x.path.length ≤ 2000000) : Calls Tryz.prog 11 #[.agg #[v]] w fun e w' => e = .returned (.bool (validT l)) ∧ Below w.heap.size w w' := by
  rw [← right_is]
  obtain ⟨w1, hw1⟩ : ∃ z, z = w.alloc (.cells #[v] 24) := ⟨_, rfl⟩
  have X : Hid (Box w1 w.heap.size 24 #[v]) := Lib.hid (by rw [hw1]; exact box_new)
  have HB1 : Hid (Below w.heap.size w w1) := Lib.hid (by rw [hw1]; exact below_new _ _)
  have HV := Lib.hid (hv.on HB1.out)
  obtain ⟨a, c, rfl, hlc, hcm, _⟩ := hv.open
  obtain ⟨n, hn⟩ : ∃ n, n = l.length := ⟨_, rfl⟩
  rw [← hn] at HV X hlc hw1 ⊢
  have HN := Lib.hid hn
  have HSZ := Lib.hid hsz
  have c0 := X.out.cell (k := 0) rfl
  clear hv hn hsz
  go_enter Tryz.func11, Tryz.ntmps11
  go_upto_region 1 with fail
  rw [← hw1]
  clear hw1
  by_cases h2 : n ≤ 2000
  · have e4 : decide ((n : Int) > 2000) = false := decide_eq_false (by omega)
    unfold maxLen at hcm
    go_wp2_with fail
    clear c0 e4
    go_loopw [16] (fun i W => ∃ k : Nat, k ≤ n ∧ i = .int .i64 k ∧ Hid ((l.take k).all rightI = true ∧ chainR (l.take k) = true) ∧ Hid (Below w1.heap.size w1 W)) (fun i _ => n - (Lib.intOf i).toNat)
    case atStart => exact ⟨0, Nat.zero_le _, rfl, Lib.hid ⟨rfl, rfl⟩, Lib.hid (Below.refl _ _)⟩
    case round =>
      obtain ⟨k, hk, rfl, HP, HBk⟩ := hrel
      obtain ⟨wq, hwq⟩ : ∃ q, q = wr := ⟨_, rfl⟩
      rw [← hwq] at HBk ⊢
      clear hwq
      by_cases hlt : k < n
      · obtain ⟨x, hx⟩ : ∃ x, l[k]? = some x := ⟨_, List.getElem?_eq_getElem (by rw [← HN.out]; exact hlt)⟩
        obtain ⟨a', c', e, _, _, hc⟩ := (HV.out.on HBk.out).open
        rw [← HN.out] at e
        cases e
        obtain ⟨g, o, rfl, hg, hc⟩ := hc (by rw [← HN.out]; omega)
        obtain ⟨q0, q1, q2⟩ := hc k x hx
        have k1 : (k : Int) < (n : Int) := by omega
        have k2 : (0 : Int) ≤ (k : Int) := by omega
        have k4 : IntKind.i64.wrap ((k : Int) + 1) = (k : Int) + 1 := IntWalk.i64_in _ (by omega)
        obtain ⟨w5, hw5⟩ : ∃ q, q = wq.alloc (.cells #[.string ⟨x.path.toArray⟩, .int .i64 x.kind, .string ⟨x.data.toArray⟩] 33) := ⟨_, rfl⟩
        have hb5 : Below wq.heap.size wq w5 := by rw [hw5]; exact below_new _ _
        have HX5 : Hid (Box w5 wq.heap.size 33 x.arr) := Lib.hid (by rw [hw5]; exact box_new)
        have HB5 : Hid (Below w1.heap.size w1 w5) := Lib.hid (bch HBk.out hb5)
        have HIA : Hid (∀ (j : Nat) (y : It), l[j]? = some y → IAt w5 g (o + j * 3) y) := Lib.hid (fun j y hj => (hc j y hj).on hg hb5)
        have HG5 : Hid (g < w5.heap.size) := Lib.hid (Nat.lt_of_lt_of_le hg hb5.size)
        have X15 : Hid (Box w5 w.heap.size 24 #[.slice (some ⟨g, o, none⟩) n c]) := Lib.hid (X.out.on HB5.out)
        obtain ⟨ri, hri⟩ : ∃ b, b = rightI x := ⟨_, rfl⟩
        have HRI : Hid (∀ W, Calls Tryz.prog 39 #[.agg #[.string ⟨x.path.toArray⟩, .int .i64 x.kind, .string ⟨x.data.toArray⟩]] W fun e w' => e = .returned (.bool ri) ∧ Below W.heap.size W w') := Lib.hid (fun W => by rw [hri]; exact rightitem_at x (HSZ.out x (List.mem_of_getElem? hx)) _ rfl W)
        have HRX := Lib.hid hri
        have HX := Lib.hid hx
        clear hc hx hri hb5 hg
        go_upto_region 6 with fail
        obtain ⟨b7, hb7⟩ : ∃ q, q = wq.heap.size := ⟨_, rfl⟩
        rw [← hb7] at HX5 ⊢
        rw [← hw5]
        clear hw5 hb7 q0 q1 q2 HBk
        obtain ⟨v0, hv0⟩ : ∃ z, z = World.drew w5 := ⟨_, rfl⟩
        refine wp_region_held_drew (S := fun w' => Below w5.heap.size w5 w') (by kernel_rfl) (Below.refl _ _).drew (fun hHeld => ?_)
        rw [← hv0] at hHeld ⊢
        clear hv0
        cases ri with
        | false =>
          have HR : Hid (rightR l = false) := Lib.hid (item_not HX.out HRX.out.symm)
          refine wpAnyH_take (i := 0) (oi := { dst := some 21, op := Op.load 33 (Operand.tmp 4), type := 33, pos := "ref.go:56", after := #[], guard := none }) (v := ?_) rfl (by kernel_rfl) (by kernel_rfl) (by kernel_rfl) (fun _ _ _ h => h) (Or.inl ⟨by rfl, ?_⟩) hHeld ?_
          rotate_left
          · (intro w hSw; obtain ⟨d0, d1, d2⟩ := (HX5.out.on hSw).it; go_simp; try with_reducible rfl)
          (try simp only [Act.put, List.setIfInBounds_toArray, List.set_cons_zero, List.set_cons_succ])
          refine wpAnyH_ready (rs := [1]) (by kernel_rfl) (by simp) (AllReadyH.cons (o := { dst := some 22, op := Op.call { callee := Callee.value (Operand.func 39), args := #[Operand.tmp 21], argTypes := #[33] }, type := 4, pos := "ref.go:56", after := #[{ on := 0, ground := Ground.data }], guard := none }) rfl (fun K hK => ?_) AllReadyH.nil)
          · go_simp
            refine (HRI.out _).mono ?_
            rintro e v101 ⟨rfl, hba⟩
            refine hK.out _ _ (bch hHeld hba) (fun hHeld => ?_)
            clear hba
            (try simp only [Act.put, List.setIfInBounds_toArray, List.set_cons_zero, List.set_cons_succ])
            refine wpAnyH_take (i := 2) (oi := { dst := some 23, op := Op.unOp UnOp.not 4 (Operand.tmp 22), type := 4, pos := "ref.go:56", after := #[{ on := 1, ground := Ground.data }], guard := none }) (v := ?_) rfl (by kernel_rfl) (by kernel_rfl) (by kernel_rfl) (fun _ _ _ h => h) (Or.inl ⟨by rfl, ?_⟩) hHeld ?_
            rotate_left
            · (intro w hSw; go_simp; try with_reducible rfl)
            (try simp only [Act.put, List.setIfInBounds_toArray, List.set_cons_zero, List.set_cons_succ])
            refine wpAnyH_take (i := 3) (oi := { dst := some 24, op := Op.move (Operand.tmp 23), type := 4, pos := "ref.go:56", after := #[{ on := 2, ground := Ground.data }, { on := 1, ground := Ground.chain }], guard := none }) (v := ?_) rfl (by kernel_rfl) (by kernel_rfl) (by kernel_rfl) (fun _ _ _ h => h) (Or.inl ⟨by rfl, ?_⟩) hHeld ?_
            rotate_left
            · (intro w hSw; go_simp; try with_reducible rfl)
            (try simp only [Act.put, List.setIfInBounds_toArray, List.set_cons_zero, List.set_cons_succ])
            refine wpAnyH_take (i := 4) (oi := { dst := some 25, op := Op.move (Operand.tmp 3), type := 3, pos := "ref.go:56", after := #[{ on := 3, ground := Ground.guard }], guard := some (3, false) }) (v := undef) rfl (by kernel_rfl) (by kernel_rfl) (by kernel_rfl) (fun _ _ _ h => h) (Or.inr ⟨by rfl, rfl⟩) hHeld ?_
            (try simp only [Act.put, List.setIfInBounds_toArray, List.set_cons_zero, List.set_cons_succ])
            refine wpAnyH_take (i := 5) (oi := { dst := some 26, op := Op.binOp BinOp.gtr 3 (Operand.tmp 25) (Operand.const (Value.int IntKind.i64 0)) 3, type := 4, pos := "ref.go:56", after := #[{ on := 4, ground := Ground.data }, { on := 3, ground := Ground.guard }], guard := some (3, false) }) (v := undef) rfl (by kernel_rfl) (by kernel_rfl) (by kernel_rfl) (fun _ _ _ h => h) (Or.inr ⟨by rfl, rfl⟩) hHeld ?_
            (try simp only [Act.put, List.setIfInBounds_toArray, List.set_cons_zero, List.set_cons_succ])
            refine wpAnyH_take (i := 6) (oi := { dst := some 27, op := Op.move (Operand.tmp 26), type := 4, pos := "ref.go:56", after := #[{ on := 5, ground := Ground.data }, { on := 3, ground := Ground.chain }, { on := 3, ground := Ground.guard }], guard := some (3, false) }) (v := undef) rfl (by kernel_rfl) (by kernel_rfl) (by kernel_rfl) (fun _ _ _ h => h) (Or.inr ⟨by rfl, rfl⟩) hHeld ?_
            (try simp only [Act.put, List.setIfInBounds_toArray, List.set_cons_zero, List.set_cons_succ])
            refine wpAnyH_take (i := 7) (oi := { dst := some 28, op := Op.fieldAddr 24 (Operand.tmp 1) 0, type := 0, pos := "ref.go:56", after := #[{ on := 6, ground := Ground.guard }], guard := some (6, true) }) (v := undef) rfl (by kernel_rfl) (by kernel_rfl) (by kernel_rfl) (fun _ _ _ h => h) (Or.inr ⟨by rfl, rfl⟩) hHeld ?_
            (try simp only [Act.put, List.setIfInBounds_toArray, List.set_cons_zero, List.set_cons_succ])
            refine wpAnyH_take (i := 8) (oi := { dst := some 29, op := Op.load 22 (Operand.tmp 28), type := 22, pos := "ref.go:56", after := #[{ on := 7, ground := Ground.data }, { on := 6, ground := Ground.guard }], guard := some (6, true) }) (v := undef) rfl (by kernel_rfl) (by kernel_rfl) (by kernel_rfl) (fun _ _ _ h => h) (Or.inr ⟨by rfl, rfl⟩) hHeld ?_
            (try simp only [Act.put, List.setIfInBounds_toArray, List.set_cons_zero, List.set_cons_succ])
            refine wpAnyH_take (i := 9) (oi := { dst := some 30, op := Op.move (Operand.tmp 3), type := 3, pos := "ref.go:56", after := #[{ on := 6, ground := Ground.guard }], guard := some (6, true) }) (v := undef) rfl (by kernel_rfl) (by kernel_rfl) (by kernel_rfl) (fun _ _ _ h => h) (Or.inr ⟨by rfl, rfl⟩) hHeld ?_
            (try simp only [Act.put, List.setIfInBounds_toArray, List.set_cons_zero, List.set_cons_succ])
            refine wpAnyH_take (i := 10) (oi := { dst := some 31, op := Op.binOp BinOp.sub 3 (Operand.tmp 30) (Operand.const (Value.int IntKind.i64 1)) 3, type := 3, pos := "ref.go:56", after := #[{ on := 9, ground := Ground.data }, { on := 6, ground := Ground.guard }], guard := some (6, true) }) (v := undef) rfl (by kernel_rfl) (by kernel_rfl) (by kernel_rfl) (fun _ _ _ h => h) (Or.inr ⟨by rfl, rfl⟩) hHeld ?_
            (try simp only [Act.put, List.setIfInBounds_toArray, List.set_cons_zero, List.set_cons_succ])
            refine wpAnyH_take (i := 11) (oi := { dst := some 32, op := Op.indexAddr 22 (Operand.tmp 29) (Operand.tmp 31), type := 0, pos := "ref.go:56", after := #[{ on := 8, ground := Ground.data }, { on := 10, ground := Ground.data }, { on := 6, ground := Ground.guard }], guard := some (6, true) }) (v := undef) rfl (by kernel_rfl) (by kernel_rfl) (by kernel_rfl) (fun _ _ _ h => h) (Or.inr ⟨by rfl, rfl⟩) hHeld ?_
            (try simp only [Act.put, List.setIfInBounds_toArray, List.set_cons_zero, List.set_cons_succ])
            refine wpAnyH_take (i := 12) (oi := { dst := some 33, op := Op.fieldAddr 33 (Operand.tmp 32) 0, type := 0, pos := "ref.go:56", after := #[{ on := 11, ground := Ground.data }, { on := 6, ground := Ground.guard }], guard := some (6, true) }) (v := undef) rfl (by kernel_rfl) (by kernel_rfl) (by kernel_rfl) (fun _ _ _ h => h) (Or.inr ⟨by rfl, rfl⟩) hHeld ?_
            (try simp only [Act.put, List.setIfInBounds_toArray, List.set_cons_zero, List.set_cons_succ])
            refine wpAnyH_take (i := 13) (oi := { dst := some 34, op := Op.load 9 (Operand.tmp 33), type := 9, pos := "ref.go:56", after := #[{ on := 12, ground := Ground.data }, { on := 6, ground := Ground.guard }], guard := some (6, true) }) (v := undef) rfl (by kernel_rfl) (by kernel_rfl) (by kernel_rfl) (fun _ _ _ h => h) (Or.inr ⟨by rfl, rfl⟩) hHeld ?_
            (try simp only [Act.put, List.setIfInBounds_toArray, List.set_cons_zero, List.set_cons_succ])
            refine wpAnyH_take (i := 14) (oi := { dst := some 35, op := Op.fieldAddr 33 (Operand.tmp 4) 0, type := 0, pos := "ref.go:56", after := #[{ on := 6, ground := Ground.guard }], guard := some (6, true) }) (v := undef) rfl (by kernel_rfl) (by kernel_rfl) (by kernel_rfl) (fun _ _ _ h => h) (Or.inr ⟨by rfl, rfl⟩) hHeld ?_
            (try simp only [Act.put, List.setIfInBounds_toArray, List.set_cons_zero, List.set_cons_succ])
            refine wpAnyH_take (i := 15) (oi := { dst := some 36, op := Op.load 9 (Operand.tmp 35), type := 9, pos := "ref.go:56", after := #[{ on := 14, ground := Ground.data }, { on := 6, ground := Ground.guard }], guard := some (6, true) }) (v := undef) rfl (by kernel_rfl) (by kernel_rfl) (by kernel_rfl) (fun _ _ _ h => h) (Or.inr ⟨by rfl, rfl⟩) hHeld ?_
            (try simp only [Act.put, List.setIfInBounds_toArray, List.set_cons_zero, List.set_cons_succ])
            refine wpAnyH_take (i := 16) (oi := { dst := some 37, op := Op.call { callee := Callee.value (Operand.func 40), args := #[Operand.tmp 34, Operand.tmp 36], argTypes := #[9, 9] }, type := 3, pos := "ref.go:56", after := #[{ on := 13, ground := Ground.data }, { on := 15, ground := Ground.data }, { on := 6, ground := Ground.chain }, { on := 6, ground := Ground.guard }], guard := some (6, true) }) (v := undef) rfl (by kernel_rfl) (by kernel_rfl) (by kernel_rfl) (fun _ _ _ h => h) (Or.inr ⟨by rfl, rfl⟩) hHeld ?_
            (try simp only [Act.put, List.setIfInBounds_toArray, List.set_cons_zero, List.set_cons_succ])
            refine wpAnyH_take (i := 17) (oi := { dst := some 38, op := Op.binOp BinOp.geq 3 (Operand.tmp 37) (Operand.const (Value.int IntKind.i64 0)) 3, type := 4, pos := "ref.go:56", after := #[{ on := 16, ground := Ground.data }, { on := 6, ground := Ground.guard }], guard := some (6, true) }) (v := undef) rfl (by kernel_rfl) (by kernel_rfl) (by kernel_rfl) (fun _ _ _ h => h) (Or.inr ⟨by rfl, rfl⟩) hHeld ?_
            (try simp only [Act.put, List.setIfInBounds_toArray, List.set_cons_zero, List.set_cons_succ])
            refine wpAnyH_take (i := 18) (oi := { dst := some 39, op := Op.pick (Operand.tmp 27) (Operand.tmp 38) (Operand.const (Value.bool false)), type := 4, pos := "ref.go:56", after := #[{ on := 6, ground := Ground.data }, { on := 17, ground := Ground.data }, { on := 3, ground := Ground.guard }], guard := some (3, false) }) (v := undef) rfl (by kernel_rfl) (by kernel_rfl) (by kernel_rfl) (fun _ _ _ h => h) (Or.inr ⟨by rfl, rfl⟩) hHeld ?_
            (try simp only [Act.put, List.setIfInBounds_toArray, List.set_cons_zero, List.set_cons_succ])
            refine wpAnyH_take (i := 19) (oi := { dst := some 40, op := Op.pick (Operand.tmp 24) (Operand.const (Value.bool true)) (Operand.tmp 39), type := 4, pos := "ref.go:56", after := #[{ on := 3, ground := Ground.data }, { on := 18, ground := Ground.data }], guard := none }) (v := ?_) rfl (by kernel_rfl) (by kernel_rfl) (by kernel_rfl) (fun _ _ _ h => h) (Or.inl ⟨by rfl, ?_⟩) hHeld ?_
            rotate_left
            · (intro w hSw; go_simp; try with_reducible rfl)
            (try simp only [Act.put, List.setIfInBounds_toArray, List.set_cons_zero, List.set_cons_succ])
            refine wpAnyH_done (by kernel_rfl) ?_ _
            have HD := Lib.hid hHeld
            clear hHeld
            go_wp2_with fail
            go_ret
            exact ⟨retb HR.out.symm, bch HB1.out (bch HB5.out HD.out)⟩
        | true =>
          obtain hk0 | ⟨j, hkj⟩ : k = 0 ∨ ∃ j, k = j + 1 := by cases k with | zero => exact .inl rfl | succ j => exact .inr ⟨j, rfl⟩
          · have kp : decide ((k : Int) > 0) = false := decide_eq_false (by omega)
            have kz : ¬ 0 < k := by omega
            have HP2 : Hid ((l.take (k + 1)).all rightI = true ∧ chainR (l.take (k + 1)) = true) := Lib.hid (by
              rw [take_one HX.out, hk0]
              exact ⟨by simp [← HRX.out], rfl⟩)
            clear hk0
            refine wpAnyH_take (i := 0) (oi := { dst := some 21, op := Op.load 33 (Operand.tmp 4), type := 33, pos := "ref.go:56", after := #[], guard := none }) (v := ?_) rfl (by kernel_rfl) (by kernel_rfl) (by kernel_rfl) (fun _ _ _ h => h) (Or.inl ⟨by rfl, ?_⟩) hHeld ?_
            rotate_left
            · (intro w hSw; obtain ⟨d0, d1, d2⟩ := (HX5.out.on hSw).it; go_simp; try with_reducible rfl)
            (try simp only [Act.put, List.setIfInBounds_toArray, List.set_cons_zero, List.set_cons_succ])
            refine wpAnyH_ready (rs := [1]) (by kernel_rfl) (by simp) (AllReadyH.cons (o := { dst := some 22, op := Op.call { callee := Callee.value (Operand.func 39), args := #[Operand.tmp 21], argTypes := #[33] }, type := 4, pos := "ref.go:56", after := #[{ on := 0, ground := Ground.data }], guard := none }) rfl (fun K hK => ?_) AllReadyH.nil)
            · go_simp
              refine (HRI.out _).mono ?_
              rintro e v101 ⟨rfl, hba⟩
              refine hK.out _ _ (bch hHeld hba) (fun hHeld => ?_)
              clear hba
              (try simp only [Act.put, List.setIfInBounds_toArray, List.set_cons_zero, List.set_cons_succ])
              refine wpAnyH_take (i := 2) (oi := { dst := some 23, op := Op.unOp UnOp.not 4 (Operand.tmp 22), type := 4, pos := "ref.go:56", after := #[{ on := 1, ground := Ground.data }], guard := none }) (v := ?_) rfl (by kernel_rfl) (by kernel_rfl) (by kernel_rfl) (fun _ _ _ h => h) (Or.inl ⟨by rfl, ?_⟩) hHeld ?_
              rotate_left
              · (intro w hSw; go_simp; try with_reducible rfl)
              (try simp only [Act.put, List.setIfInBounds_toArray, List.set_cons_zero, List.set_cons_succ])
              refine wpAnyH_take (i := 3) (oi := { dst := some 24, op := Op.move (Operand.tmp 23), type := 4, pos := "ref.go:56", after := #[{ on := 2, ground := Ground.data }, { on := 1, ground := Ground.chain }], guard := none }) (v := ?_) rfl (by kernel_rfl) (by kernel_rfl) (by kernel_rfl) (fun _ _ _ h => h) (Or.inl ⟨by rfl, ?_⟩) hHeld ?_
              rotate_left
              · (intro w hSw; go_simp; try with_reducible rfl)
              (try simp only [Act.put, List.setIfInBounds_toArray, List.set_cons_zero, List.set_cons_succ])
              refine wpAnyH_take (i := 4) (oi := { dst := some 25, op := Op.move (Operand.tmp 3), type := 3, pos := "ref.go:56", after := #[{ on := 3, ground := Ground.guard }], guard := some (3, false) }) (v := ?_) rfl (by kernel_rfl) (by kernel_rfl) (by kernel_rfl) (fun _ _ _ h => h) (Or.inl ⟨by rfl, ?_⟩) hHeld ?_
              rotate_left
              · (intro w hSw; go_simp; try with_reducible rfl)
              (try simp only [Act.put, List.setIfInBounds_toArray, List.set_cons_zero, List.set_cons_succ])
              refine wpAnyH_take (i := 5) (oi := { dst := some 26, op := Op.binOp BinOp.gtr 3 (Operand.tmp 25) (Operand.const (Value.int IntKind.i64 0)) 3, type := 4, pos := "ref.go:56", after := #[{ on := 4, ground := Ground.data }, { on := 3, ground := Ground.guard }], guard := some (3, false) }) (v := ?_) rfl (by kernel_rfl) (by kernel_rfl) (by kernel_rfl) (fun _ _ _ h => h) (Or.inl ⟨by rfl, ?_⟩) hHeld ?_
              rotate_left
              · (intro w hSw; go_simp; try with_reducible rfl)
              (try simp only [Act.put, List.setIfInBounds_toArray, List.set_cons_zero, List.set_cons_succ])
              refine wpAnyH_take (i := 6) (oi := { dst := some 27, op := Op.move (Operand.tmp 26), type := 4, pos := "ref.go:56", after := #[{ on := 5, ground := Ground.data }, { on := 3, ground := Ground.chain }, { on := 3, ground := Ground.guard }], guard := some (3, false) }) (v := ?_) rfl (by kernel_rfl) (by kernel_rfl) (by kernel_rfl) (fun _ _ _ h => h) (Or.inl ⟨by rfl, ?_⟩) hHeld ?_
              rotate_left
              · (intro w hSw; go_simp; try with_reducible rfl)
              (try simp only [Act.put, List.setIfInBounds_toArray, List.set_cons_zero, List.set_cons_succ])
              refine wpAnyH_take (i := 7) (oi := { dst := some 28, op := Op.fieldAddr 24 (Operand.tmp 1) 0, type := 0, pos := "ref.go:56", after := #[{ on := 6, ground := Ground.guard }], guard := some (6, true) }) (v := undef) rfl (by kernel_rfl) (by kernel_rfl) (by kernel_rfl) (fun _ _ _ h => h) (Or.inr ⟨by rfl, rfl⟩) hHeld ?_
              (try simp only [Act.put, List.setIfInBounds_toArray, List.set_cons_zero, List.set_cons_succ])
              refine wpAnyH_take (i := 8) (oi := { dst := some 29, op := Op.load 22 (Operand.tmp 28), type := 22, pos := "ref.go:56", after := #[{ on := 7, ground := Ground.data }, { on := 6, ground := Ground.guard }], guard := some (6, true) }) (v := undef) rfl (by kernel_rfl) (by kernel_rfl) (by kernel_rfl) (fun _ _ _ h => h) (Or.inr ⟨by rfl, rfl⟩) hHeld ?_
              (try simp only [Act.put, List.setIfInBounds_toArray, List.set_cons_zero, List.set_cons_succ])
              refine wpAnyH_take (i := 9) (oi := { dst := some 30, op := Op.move (Operand.tmp 3), type := 3, pos := "ref.go:56", after := #[{ on := 6, ground := Ground.guard }], guard := some (6, true) }) (v := undef) rfl (by kernel_rfl) (by kernel_rfl) (by kernel_rfl) (fun _ _ _ h => h) (Or.inr ⟨by rfl, rfl⟩) hHeld ?_
              (try simp only [Act.put, List.setIfInBounds_toArray, List.set_cons_zero, List.set_cons_succ])
              refine wpAnyH_take (i := 10) (oi := { dst := some 31, op := Op.binOp BinOp.sub 3 (Operand.tmp 30) (Operand.const (Value.int IntKind.i64 1)) 3, type := 3, pos := "ref.go:56", after := #[{ on := 9, ground := Ground.data }, { on := 6, ground := Ground.guard }], guard := some (6, true) }) (v := undef) rfl (by kernel_rfl) (by kernel_rfl) (by kernel_rfl) (fun _ _ _ h => h) (Or.inr ⟨by rfl, rfl⟩) hHeld ?_
              (try simp only [Act.put, List.setIfInBounds_toArray, List.set_cons_zero, List.set_cons_succ])
              refine wpAnyH_take (i := 11) (oi := { dst := some 32, op := Op.indexAddr 22 (Operand.tmp 29) (Operand.tmp 31), type := 0, pos := "ref.go:56", after := #[{ on := 8, ground := Ground.data }, { on := 10, ground := Ground.data }, { on := 6, ground := Ground.guard }], guard := some (6, true) }) (v := undef) rfl (by kernel_rfl) (by kernel_rfl) (by kernel_rfl) (fun _ _ _ h => h) (Or.inr ⟨by rfl, rfl⟩) hHeld ?_
              (try simp only [Act.put, List.setIfInBounds_toArray, List.set_cons_zero, List.set_cons_succ])
              refine wpAnyH_take (i := 12) (oi := { dst := some 33, op := Op.fieldAddr 33 (Operand.tmp 32) 0, type := 0, pos := "ref.go:56", after := #[{ on := 11, ground := Ground.data }, { on := 6, ground := Ground.guard }], guard := some (6, true) }) (v := undef) rfl (by kernel_rfl) (by kernel_rfl) (by kernel_rfl) (fun _ _ _ h => h) (Or.inr ⟨by rfl, rfl⟩) hHeld ?_
              (try simp only [Act.put, List.setIfInBounds_toArray, List.set_cons_zero, List.set_cons_succ])
              refine wpAnyH_take (i := 13) (oi := { dst := some 34, op := Op.load 9 (Operand.tmp 33), type := 9, pos := "ref.go:56", after := #[{ on := 12, ground := Ground.data }, { on := 6, ground := Ground.guard }], guard := some (6, true) }) (v := undef) rfl (by kernel_rfl) (by kernel_rfl) (by kernel_rfl) (fun _ _ _ h => h) (Or.inr ⟨by rfl, rfl⟩) hHeld ?_
              (try simp only [Act.put, List.setIfInBounds_toArray, List.set_cons_zero, List.set_cons_succ])
              refine wpAnyH_take (i := 14) (oi := { dst := some 35, op := Op.fieldAddr 33 (Operand.tmp 4) 0, type := 0, pos := "ref.go:56", after := #[{ on := 6, ground := Ground.guard }], guard := some (6, true) }) (v := undef) rfl (by kernel_rfl) (by kernel_rfl) (by kernel_rfl) (fun _ _ _ h => h) (Or.inr ⟨by rfl, rfl⟩) hHeld ?_
              (try simp only [Act.put, List.setIfInBounds_toArray, List.set_cons_zero, List.set_cons_succ])
              refine wpAnyH_take (i := 15) (oi := { dst := some 36, op := Op.load 9 (Operand.tmp 35), type := 9, pos := "ref.go:56", after := #[{ on := 14, ground := Ground.data }, { on := 6, ground := Ground.guard }], guard := some (6, true) }) (v := undef) rfl (by kernel_rfl) (by kernel_rfl) (by kernel_rfl) (fun _ _ _ h => h) (Or.inr ⟨by rfl, rfl⟩) hHeld ?_
              (try simp only [Act.put, List.setIfInBounds_toArray, List.set_cons_zero, List.set_cons_succ])
              refine wpAnyH_take (i := 16) (oi := { dst := some 37, op := Op.call { callee := Callee.value (Operand.func 40), args := #[Operand.tmp 34, Operand.tmp 36], argTypes := #[9, 9] }, type := 3, pos := "ref.go:56", after := #[{ on := 13, ground := Ground.data }, { on := 15, ground := Ground.data }, { on := 6, ground := Ground.chain }, { on := 6, ground := Ground.guard }], guard := some (6, true) }) (v := undef) rfl (by kernel_rfl) (by kernel_rfl) (by kernel_rfl) (fun _ _ _ h => h) (Or.inr ⟨by rfl, rfl⟩) hHeld ?_
              (try simp only [Act.put, List.setIfInBounds_toArray, List.set_cons_zero, List.set_cons_succ])
              refine wpAnyH_take (i := 17) (oi := { dst := some 38, op := Op.binOp BinOp.geq 3 (Operand.tmp 37) (Operand.const (Value.int IntKind.i64 0)) 3, type := 4, pos := "ref.go:56", after := #[{ on := 16, ground := Ground.data }, { on := 6, ground := Ground.guard }], guard := some (6, true) }) (v := undef) rfl (by kernel_rfl) (by kernel_rfl) (by kernel_rfl) (fun _ _ _ h => h) (Or.inr ⟨by rfl, rfl⟩) hHeld ?_
              (try simp only [Act.put, List.setIfInBounds_toArray, List.set_cons_zero, List.set_cons_succ])
              refine wpAnyH_take (i := 18) (oi := { dst := some 39, op := Op.pick (Operand.tmp 27) (Operand.tmp 38) (Operand.const (Value.bool false)), type := 4, pos := "ref.go:56", after := #[{ on := 6, ground := Ground.data }, { on := 17, ground := Ground.data }, { on := 3, ground := Ground.guard }], guard := some (3, false) }) (v := ?_) rfl (by kernel_rfl) (by kernel_rfl) (by kernel_rfl) (fun _ _ _ h => h) (Or.inl ⟨by rfl, ?_⟩) hHeld ?_
              rotate_left
              · (intro w hSw; go_simp; try with_reducible rfl)
              (try simp only [Act.put, List.setIfInBounds_toArray, List.set_cons_zero, List.set_cons_succ])
              refine wpAnyH_take (i := 19) (oi := { dst := some 40, op := Op.pick (Operand.tmp 24) (Operand.const (Value.bool true)) (Operand.tmp 39), type := 4, pos := "ref.go:56", after := #[{ on := 3, ground := Ground.data }, { on := 18, ground := Ground.data }], guard := none }) (v := ?_) rfl (by kernel_rfl) (by kernel_rfl) (by kernel_rfl) (fun _ _ _ h => h) (Or.inl ⟨by rfl, ?_⟩) hHeld ?_
              rotate_left
              · (intro w hSw; go_simp; try with_reducible rfl)
              (try simp only [Act.put, List.setIfInBounds_toArray, List.set_cons_zero, List.set_cons_succ])
              refine wpAnyH_done (by kernel_rfl) ?_ _
              have HD := Lib.hid hHeld
              clear hHeld
              go_wp2_with fail
              go_roundw
              case rel => exact ⟨k + 1, hlt, by go_num, HP2, Lib.hid (bch HB5.out HD.out)⟩
              case measure => simp [Lib.intOf]; omega
          · obtain ⟨y, hy⟩ : ∃ y, l[j]? = some y := ⟨_, List.getElem?_eq_getElem (by rw [← HN.out]; omega)⟩
            have kp : decide ((k : Int) > 0) = true := decide_eq_true (by omega)
            have kz : 0 < k := by omega
            have ks : IntKind.i64.wrap ((k : Int) - 1) = (j : Int) := by rw [show (k : Int) - 1 = (j : Int) by omega]; exact IntWalk.i64_in _ (by omega)
            have j1 : (j : Int) < (n : Int) := by omega
            have j2 : (0 : Int) ≤ (j : Int) := by omega
            have HY := Lib.hid hy
            have HKJ := Lib.hid hkj
            obtain ⟨cm, hcm2⟩ : ∃ z, z = cmpL y.path x.path := ⟨_, rfl⟩
            have HCM : Hid (∀ W, Calls Tryz.prog 40 #[.string ⟨y.path.toArray⟩, .string ⟨x.path.toArray⟩] W fun e w' => e = .returned (.int .i64 cm) ∧ Below W.heap.size W w') := Lib.hid (fun W => by rw [hcm2]; exact rcmp_any ⟨y.path.toArray⟩ ⟨x.path.toArray⟩ (HSZ.out y (List.mem_of_getElem? hy)) (HSZ.out x (List.mem_of_getElem? HX.out)) W)
            have HCX := Lib.hid hcm2
            clear hy hkj hcm2
            obtain ⟨bd, hbd⟩ : ∃ b : Bool, decide (cm ≥ 0) = b := ⟨_, rfl⟩
            cases bd with
            | true =>
              have HR : Hid (rightR l = false) := Lib.hid (chain_not HY.out (by rw [← HKJ.out]; exact HX.out) (by have := of_decide_eq_true hbd; rw [← HCX.out]; omega))
              refine wpAnyH_take (i := 0) (oi := { dst := some 21, op := Op.load 33 (Operand.tmp 4), type := 33, pos := "ref.go:56", after := #[], guard := none }) (v := ?_) rfl (by kernel_rfl) (by kernel_rfl) (by kernel_rfl) (fun _ _ _ h => h) (Or.inl ⟨by rfl, ?_⟩) hHeld ?_
              rotate_left
              · (intro w hSw; obtain ⟨d0, d1, d2⟩ := (HX5.out.on hSw).it; go_simp; try with_reducible rfl)
              (try simp only [Act.put, List.setIfInBounds_toArray, List.set_cons_zero, List.set_cons_succ])
              refine wpAnyH_ready (rs := [1]) (by kernel_rfl) (by simp) (AllReadyH.cons (o := { dst := some 22, op := Op.call { callee := Callee.value (Operand.func 39), args := #[Operand.tmp 21], argTypes := #[33] }, type := 4, pos := "ref.go:56", after := #[{ on := 0, ground := Ground.data }], guard := none }) rfl (fun K hK => ?_) AllReadyH.nil)
              · go_simp
                refine (HRI.out _).mono ?_
                rintro e v101 ⟨rfl, hba⟩
                refine hK.out _ _ (bch hHeld hba) (fun hHeld => ?_)
                clear hba
                (try simp only [Act.put, List.setIfInBounds_toArray, List.set_cons_zero, List.set_cons_succ])
                refine wpAnyH_take (i := 2) (oi := { dst := some 23, op := Op.unOp UnOp.not 4 (Operand.tmp 22), type := 4, pos := "ref.go:56", after := #[{ on := 1, ground := Ground.data }], guard := none }) (v := ?_) rfl (by kernel_rfl) (by kernel_rfl) (by kernel_rfl) (fun _ _ _ h => h) (Or.inl ⟨by rfl, ?_⟩) hHeld ?_
                rotate_left
                · (intro w hSw; go_simp; try with_reducible rfl)
                (try simp only [Act.put, List.setIfInBounds_toArray, List.set_cons_zero, List.set_cons_succ])
                refine wpAnyH_take (i := 3) (oi := { dst := some 24, op := Op.move (Operand.tmp 23), type := 4, pos := "ref.go:56", after := #[{ on := 2, ground := Ground.data }, { on := 1, ground := Ground.chain }], guard := none }) (v := ?_) rfl (by kernel_rfl) (by kernel_rfl) (by kernel_rfl) (fun _ _ _ h => h) (Or.inl ⟨by rfl, ?_⟩) hHeld ?_
                rotate_left
                · (intro w hSw; go_simp; try with_reducible rfl)
                (try simp only [Act.put, List.setIfInBounds_toArray, List.set_cons_zero, List.set_cons_succ])
                refine wpAnyH_take (i := 4) (oi := { dst := some 25, op := Op.move (Operand.tmp 3), type := 3, pos := "ref.go:56", after := #[{ on := 3, ground := Ground.guard }], guard := some (3, false) }) (v := ?_) rfl (by kernel_rfl) (by kernel_rfl) (by kernel_rfl) (fun _ _ _ h => h) (Or.inl ⟨by rfl, ?_⟩) hHeld ?_
                rotate_left
                · (intro w hSw; go_simp; try with_reducible rfl)
                (try simp only [Act.put, List.setIfInBounds_toArray, List.set_cons_zero, List.set_cons_succ])
                refine wpAnyH_take (i := 5) (oi := { dst := some 26, op := Op.binOp BinOp.gtr 3 (Operand.tmp 25) (Operand.const (Value.int IntKind.i64 0)) 3, type := 4, pos := "ref.go:56", after := #[{ on := 4, ground := Ground.data }, { on := 3, ground := Ground.guard }], guard := some (3, false) }) (v := ?_) rfl (by kernel_rfl) (by kernel_rfl) (by kernel_rfl) (fun _ _ _ h => h) (Or.inl ⟨by rfl, ?_⟩) hHeld ?_
                rotate_left
                · (intro w hSw; go_simp; try with_reducible rfl)
                (try simp only [Act.put, List.setIfInBounds_toArray, List.set_cons_zero, List.set_cons_succ])
                refine wpAnyH_take (i := 6) (oi := { dst := some 27, op := Op.move (Operand.tmp 26), type := 4, pos := "ref.go:56", after := #[{ on := 5, ground := Ground.data }, { on := 3, ground := Ground.chain }, { on := 3, ground := Ground.guard }], guard := some (3, false) }) (v := ?_) rfl (by kernel_rfl) (by kernel_rfl) (by kernel_rfl) (fun _ _ _ h => h) (Or.inl ⟨by rfl, ?_⟩) hHeld ?_
                rotate_left
                · (intro w hSw; go_simp; try with_reducible rfl)
                (try simp only [Act.put, List.setIfInBounds_toArray, List.set_cons_zero, List.set_cons_succ])
                refine wpAnyH_take (i := 7) (oi := { dst := some 28, op := Op.fieldAddr 24 (Operand.tmp 1) 0, type := 0, pos := "ref.go:56", after := #[{ on := 6, ground := Ground.guard }], guard := some (6, true) }) (v := ?_) rfl (by kernel_rfl) (by kernel_rfl) (by kernel_rfl) (fun _ _ _ h => h) (Or.inl ⟨by rfl, ?_⟩) hHeld ?_
                rotate_left
                · (intro w hSw; go_simp; try with_reducible rfl)
                (try simp only [Act.put, List.setIfInBounds_toArray, List.set_cons_zero, List.set_cons_succ])
                refine wpAnyH_take (i := 8) (oi := { dst := some 29, op := Op.load 22 (Operand.tmp 28), type := 22, pos := "ref.go:56", after := #[{ on := 7, ground := Ground.data }, { on := 6, ground := Ground.guard }], guard := some (6, true) }) (v := ?_) rfl (by kernel_rfl) (by kernel_rfl) (by kernel_rfl) (fun _ _ _ h => h) (Or.inl ⟨by rfl, ?_⟩) hHeld ?_
                rotate_left
                · (intro w hSw; have p0 := (X15.out.on hSw).cell (k := 0) rfl; go_simp; try with_reducible rfl)
                (try simp only [Act.put, List.setIfInBounds_toArray, List.set_cons_zero, List.set_cons_succ])
                refine wpAnyH_take (i := 9) (oi := { dst := some 30, op := Op.move (Operand.tmp 3), type := 3, pos := "ref.go:56", after := #[{ on := 6, ground := Ground.guard }], guard := some (6, true) }) (v := ?_) rfl (by kernel_rfl) (by kernel_rfl) (by kernel_rfl) (fun _ _ _ h => h) (Or.inl ⟨by rfl, ?_⟩) hHeld ?_
                rotate_left
                · (intro w hSw; go_simp; try with_reducible rfl)
                (try simp only [Act.put, List.setIfInBounds_toArray, List.set_cons_zero, List.set_cons_succ])
                refine wpAnyH_take (i := 10) (oi := { dst := some 31, op := Op.binOp BinOp.sub 3 (Operand.tmp 30) (Operand.const (Value.int IntKind.i64 1)) 3, type := 3, pos := "ref.go:56", after := #[{ on := 9, ground := Ground.data }, { on := 6, ground := Ground.guard }], guard := some (6, true) }) (v := ?_) rfl (by kernel_rfl) (by kernel_rfl) (by kernel_rfl) (fun _ _ _ h => h) (Or.inl ⟨by rfl, ?_⟩) hHeld ?_
                rotate_left
                · (intro w hSw; go_simp; try with_reducible rfl)
                (try simp only [Act.put, List.setIfInBounds_toArray, List.set_cons_zero, List.set_cons_succ])
                refine wpAnyH_take (i := 11) (oi := { dst := some 32, op := Op.indexAddr 22 (Operand.tmp 29) (Operand.tmp 31), type := 0, pos := "ref.go:56", after := #[{ on := 8, ground := Ground.data }, { on := 10, ground := Ground.data }, { on := 6, ground := Ground.guard }], guard := some (6, true) }) (v := ?_) rfl (by kernel_rfl) (by kernel_rfl) (by kernel_rfl) (fun _ _ _ h => h) (Or.inl ⟨by rfl, ?_⟩) hHeld ?_
                rotate_left
                · (intro w hSw; go_simp; try with_reducible rfl)
                (try simp only [Act.put, List.setIfInBounds_toArray, List.set_cons_zero, List.set_cons_succ])
                refine wpAnyH_take (i := 12) (oi := { dst := some 33, op := Op.fieldAddr 33 (Operand.tmp 32) 0, type := 0, pos := "ref.go:56", after := #[{ on := 11, ground := Ground.data }, { on := 6, ground := Ground.guard }], guard := some (6, true) }) (v := ?_) rfl (by kernel_rfl) (by kernel_rfl) (by kernel_rfl) (fun _ _ _ h => h) (Or.inl ⟨by rfl, ?_⟩) hHeld ?_
                rotate_left
                · (intro w hSw; go_simp; try with_reducible rfl)
                (try simp only [Act.put, List.setIfInBounds_toArray, List.set_cons_zero, List.set_cons_succ])
                refine wpAnyH_take (i := 13) (oi := { dst := some 34, op := Op.load 9 (Operand.tmp 33), type := 9, pos := "ref.go:56", after := #[{ on := 12, ground := Ground.data }, { on := 6, ground := Ground.guard }], guard := some (6, true) }) (v := ?_) rfl (by kernel_rfl) (by kernel_rfl) (by kernel_rfl) (fun _ _ _ h => h) (Or.inl ⟨by rfl, ?_⟩) hHeld ?_
                rotate_left
                · (intro w hSw; obtain ⟨d0, _, _⟩ := (HIA.out j y HY.out).on HG5.out hSw; go_simp; try with_reducible rfl)
                (try simp only [Act.put, List.setIfInBounds_toArray, List.set_cons_zero, List.set_cons_succ])
                refine wpAnyH_take (i := 14) (oi := { dst := some 35, op := Op.fieldAddr 33 (Operand.tmp 4) 0, type := 0, pos := "ref.go:56", after := #[{ on := 6, ground := Ground.guard }], guard := some (6, true) }) (v := ?_) rfl (by kernel_rfl) (by kernel_rfl) (by kernel_rfl) (fun _ _ _ h => h) (Or.inl ⟨by rfl, ?_⟩) hHeld ?_
                rotate_left
                · (intro w hSw; go_simp; try with_reducible rfl)
                (try simp only [Act.put, List.setIfInBounds_toArray, List.set_cons_zero, List.set_cons_succ])
                refine wpAnyH_take (i := 15) (oi := { dst := some 36, op := Op.load 9 (Operand.tmp 35), type := 9, pos := "ref.go:56", after := #[{ on := 14, ground := Ground.data }, { on := 6, ground := Ground.guard }], guard := some (6, true) }) (v := ?_) rfl (by kernel_rfl) (by kernel_rfl) (by kernel_rfl) (fun _ _ _ h => h) (Or.inl ⟨by rfl, ?_⟩) hHeld ?_
                rotate_left
                · (intro w hSw; obtain ⟨d0, d1, d2⟩ := (HX5.out.on hSw).it; go_simp; try with_reducible rfl)
                (try simp only [Act.put, List.setIfInBounds_toArray, List.set_cons_zero, List.set_cons_succ])
                refine wpAnyH_ready (rs := [16]) (by kernel_rfl) (by simp) (AllReadyH.cons (o := { dst := some 37, op := Op.call { callee := Callee.value (Operand.func 40), args := #[Operand.tmp 34, Operand.tmp 36], argTypes := #[9, 9] }, type := 3, pos := "ref.go:56", after := #[{ on := 13, ground := Ground.data }, { on := 15, ground := Ground.data }, { on := 6, ground := Ground.chain }, { on := 6, ground := Ground.guard }], guard := some (6, true) }) rfl (fun K hK => ?_) AllReadyH.nil)
                · go_simp
                  refine (HCM.out _).mono ?_
                  rintro e v102 ⟨rfl, hba⟩
                  refine hK.out _ _ (bch hHeld hba) (fun hHeld => ?_)
                  clear hba
                  (try simp only [Act.put, List.setIfInBounds_toArray, List.set_cons_zero, List.set_cons_succ])
                  refine wpAnyH_take (i := 17) (oi := { dst := some 38, op := Op.binOp BinOp.geq 3 (Operand.tmp 37) (Operand.const (Value.int IntKind.i64 0)) 3, type := 4, pos := "ref.go:56", after := #[{ on := 16, ground := Ground.data }, { on := 6, ground := Ground.guard }], guard := some (6, true) }) (v := ?_) rfl (by kernel_rfl) (by kernel_rfl) (by kernel_rfl) (fun _ _ _ h => h) (Or.inl ⟨by rfl, ?_⟩) hHeld ?_
                  rotate_left
                  · (intro w hSw; go_simp; try with_reducible rfl)
                  (try simp only [Act.put, List.setIfInBounds_toArray, List.set_cons_zero, List.set_cons_succ])
                  refine wpAnyH_take (i := 18) (oi := { dst := some 39, op := Op.pick (Operand.tmp 27) (Operand.tmp 38) (Operand.const (Value.bool false)), type := 4, pos := "ref.go:56", after := #[{ on := 6, ground := Ground.data }, { on := 17, ground := Ground.data }, { on := 3, ground := Ground.guard }], guard := some (3, false) }) (v := ?_) rfl (by kernel_rfl) (by kernel_rfl) (by kernel_rfl) (fun _ _ _ h => h) (Or.inl ⟨by rfl, ?_⟩) hHeld ?_
                  rotate_left
                  · (intro w hSw; go_simp; try with_reducible rfl)
                  (try simp only [Act.put, List.setIfInBounds_toArray, List.set_cons_zero, List.set_cons_succ])
                  refine wpAnyH_take (i := 19) (oi := { dst := some 40, op := Op.pick (Operand.tmp 24) (Operand.const (Value.bool true)) (Operand.tmp 39), type := 4, pos := "ref.go:56", after := #[{ on := 3, ground := Ground.data }, { on := 18, ground := Ground.data }], guard := none }) (v := ?_) rfl (by kernel_rfl) (by kernel_rfl) (by kernel_rfl) (fun _ _ _ h => h) (Or.inl ⟨by rfl, ?_⟩) hHeld ?_
                  rotate_left
                  · (intro w hSw; go_simp; try with_reducible rfl)
                  (try simp only [Act.put, List.setIfInBounds_toArray, List.set_cons_zero, List.set_cons_succ])
                  refine wpAnyH_done (by kernel_rfl) ?_ _
                  have HD := Lib.hid hHeld
                  clear hHeld
                  go_wp2_with fail
                  go_ret
                  exact ⟨retb HR.out.symm, bch HB1.out (bch HB5.out HD.out)⟩
            | false =>
              have HP2 : Hid ((l.take (k + 1)).all rightI = true ∧ chainR (l.take (k + 1)) = true) := Lib.hid (by
                have h9 := HX.out
                have h8 := HP.out
                have h7 := of_decide_eq_false hbd
                refine ⟨by rw [take_one h9, List.all_append, h8.1]; simp [← HRX.out], ?_⟩
                rw [HKJ.out] at h9 h8 ⊢
                rw [chain_take HY.out h9, h8.2, decide_eq_true (by rw [← HCX.out]; omega)]; rfl)
              refine wpAnyH_take (i := 0) (oi := { dst := some 21, op := Op.load 33 (Operand.tmp 4), type := 33, pos := "ref.go:56", after := #[], guard := none }) (v := ?_) rfl (by kernel_rfl) (by kernel_rfl) (by kernel_rfl) (fun _ _ _ h => h) (Or.inl ⟨by rfl, ?_⟩) hHeld ?_
              rotate_left
              · (intro w hSw; obtain ⟨d0, d1, d2⟩ := (HX5.out.on hSw).it; go_simp; try with_reducible rfl)
              (try simp only [Act.put, List.setIfInBounds_toArray, List.set_cons_zero, List.set_cons_succ])
              refine wpAnyH_ready (rs := [1]) (by kernel_rfl) (by simp) (AllReadyH.cons (o := { dst := some 22, op := Op.call { callee := Callee.value (Operand.func 39), args := #[Operand.tmp 21], argTypes := #[33] }, type := 4, pos := "ref.go:56", after := #[{ on := 0, ground := Ground.data }], guard := none }) rfl (fun K hK => ?_) AllReadyH.nil)
              · go_simp
                refine (HRI.out _).mono ?_
                rintro e v101 ⟨rfl, hba⟩
                refine hK.out _ _ (bch hHeld hba) (fun hHeld => ?_)
                clear hba
                (try simp only [Act.put, List.setIfInBounds_toArray, List.set_cons_zero, List.set_cons_succ])
                refine wpAnyH_take (i := 2) (oi := { dst := some 23, op := Op.unOp UnOp.not 4 (Operand.tmp 22), type := 4, pos := "ref.go:56", after := #[{ on := 1, ground := Ground.data }], guard := none }) (v := ?_) rfl (by kernel_rfl) (by kernel_rfl) (by kernel_rfl) (fun _ _ _ h => h) (Or.inl ⟨by rfl, ?_⟩) hHeld ?_
                rotate_left
                · (intro w hSw; go_simp; try with_reducible rfl)
                (try simp only [Act.put, List.setIfInBounds_toArray, List.set_cons_zero, List.set_cons_succ])
                refine wpAnyH_take (i := 3) (oi := { dst := some 24, op := Op.move (Operand.tmp 23), type := 4, pos := "ref.go:56", after := #[{ on := 2, ground := Ground.data }, { on := 1, ground := Ground.chain }], guard := none }) (v := ?_) rfl (by kernel_rfl) (by kernel_rfl) (by kernel_rfl) (fun _ _ _ h => h) (Or.inl ⟨by rfl, ?_⟩) hHeld ?_
                rotate_left
                · (intro w hSw; go_simp; try with_reducible rfl)
                (try simp only [Act.put, List.setIfInBounds_toArray, List.set_cons_zero, List.set_cons_succ])
                refine wpAnyH_take (i := 4) (oi := { dst := some 25, op := Op.move (Operand.tmp 3), type := 3, pos := "ref.go:56", after := #[{ on := 3, ground := Ground.guard }], guard := some (3, false) }) (v := ?_) rfl (by kernel_rfl) (by kernel_rfl) (by kernel_rfl) (fun _ _ _ h => h) (Or.inl ⟨by rfl, ?_⟩) hHeld ?_
                rotate_left
                · (intro w hSw; go_simp; try with_reducible rfl)
                (try simp only [Act.put, List.setIfInBounds_toArray, List.set_cons_zero, List.set_cons_succ])
                refine wpAnyH_take (i := 5) (oi := { dst := some 26, op := Op.binOp BinOp.gtr 3 (Operand.tmp 25) (Operand.const (Value.int IntKind.i64 0)) 3, type := 4, pos := "ref.go:56", after := #[{ on := 4, ground := Ground.data }, { on := 3, ground := Ground.guard }], guard := some (3, false) }) (v := ?_) rfl (by kernel_rfl) (by kernel_rfl) (by kernel_rfl) (fun _ _ _ h => h) (Or.inl ⟨by rfl, ?_⟩) hHeld ?_
                rotate_left
                · (intro w hSw; go_simp; try with_reducible rfl)
                (try simp only [Act.put, List.setIfInBounds_toArray, List.set_cons_zero, List.set_cons_succ])
                refine wpAnyH_take (i := 6) (oi := { dst := some 27, op := Op.move (Operand.tmp 26), type := 4, pos := "ref.go:56", after := #[{ on := 5, ground := Ground.data }, { on := 3, ground := Ground.chain }, { on := 3, ground := Ground.guard }], guard := some (3, false) }) (v := ?_) rfl (by kernel_rfl) (by kernel_rfl) (by kernel_rfl) (fun _ _ _ h => h) (Or.inl ⟨by rfl, ?_⟩) hHeld ?_
                rotate_left
                · (intro w hSw; go_simp; try with_reducible rfl)
                (try simp only [Act.put, List.setIfInBounds_toArray, List.set_cons_zero, List.set_cons_succ])
                refine wpAnyH_take (i := 7) (oi := { dst := some 28, op := Op.fieldAddr 24 (Operand.tmp 1) 0, type := 0, pos := "ref.go:56", after := #[{ on := 6, ground := Ground.guard }], guard := some (6, true) }) (v := ?_) rfl (by kernel_rfl) (by kernel_rfl) (by kernel_rfl) (fun _ _ _ h => h) (Or.inl ⟨by rfl, ?_⟩) hHeld ?_
                rotate_left
                · (intro w hSw; go_simp; try with_reducible rfl)
                (try simp only [Act.put, List.setIfInBounds_toArray, List.set_cons_zero, List.set_cons_succ])
                refine wpAnyH_take (i := 8) (oi := { dst := some 29, op := Op.load 22 (Operand.tmp 28), type := 22, pos := "ref.go:56", after := #[{ on := 7, ground := Ground.data }, { on := 6, ground := Ground.guard }], guard := some (6, true) }) (v := ?_) rfl (by kernel_rfl) (by kernel_rfl) (by kernel_rfl) (fun _ _ _ h => h) (Or.inl ⟨by rfl, ?_⟩) hHeld ?_
                rotate_left
                · (intro w hSw; have p0 := (X15.out.on hSw).cell (k := 0) rfl; go_simp; try with_reducible rfl)
                (try simp only [Act.put, List.setIfInBounds_toArray, List.set_cons_zero, List.set_cons_succ])
                refine wpAnyH_take (i := 9) (oi := { dst := some 30, op := Op.move (Operand.tmp 3), type := 3, pos := "ref.go:56", after := #[{ on := 6, ground := Ground.guard }], guard := some (6, true) }) (v := ?_) rfl (by kernel_rfl) (by kernel_rfl) (by kernel_rfl) (fun _ _ _ h => h) (Or.inl ⟨by rfl, ?_⟩) hHeld ?_
                rotate_left
                · (intro w hSw; go_simp; try with_reducible rfl)
                (try simp only [Act.put, List.setIfInBounds_toArray, List.set_cons_zero, List.set_cons_succ])
                refine wpAnyH_take (i := 10) (oi := { dst := some 31, op := Op.binOp BinOp.sub 3 (Operand.tmp 30) (Operand.const (Value.int IntKind.i64 1)) 3, type := 3, pos := "ref.go:56", after := #[{ on := 9, ground := Ground.data }, { on := 6, ground := Ground.guard }], guard := some (6, true) }) (v := ?_) rfl (by kernel_rfl) (by kernel_rfl) (by kernel_rfl) (fun _ _ _ h => h) (Or.inl ⟨by rfl, ?_⟩) hHeld ?_
                rotate_left
                · (intro w hSw; go_simp; try with_reducible rfl)
                (try simp only [Act.put, List.setIfInBounds_toArray, List.set_cons_zero, List.set_cons_succ])
                refine wpAnyH_take (i := 11) (oi := { dst := some 32, op := Op.indexAddr 22 (Operand.tmp 29) (Operand.tmp 31), type := 0, pos := "ref.go:56", after := #[{ on := 8, ground := Ground.data }, { on := 10, ground := Ground.data }, { on := 6, ground := Ground.guard }], guard := some (6, true) }) (v := ?_) rfl (by kernel_rfl) (by kernel_rfl) (by kernel_rfl) (fun _ _ _ h => h) (Or.inl ⟨by rfl, ?_⟩) hHeld ?_
                rotate_left
                · (intro w hSw; go_simp; try with_reducible rfl)
                (try simp only [Act.put, List.setIfInBounds_toArray, List.set_cons_zero, List.set_cons_succ])
                refine wpAnyH_take (i := 12) (oi := { dst := some 33, op := Op.fieldAddr 33 (Operand.tmp 32) 0, type := 0, pos := "ref.go:56", after := #[{ on := 11, ground := Ground.data }, { on := 6, ground := Ground.guard }], guard := some (6, true) }) (v := ?_) rfl (by kernel_rfl) (by kernel_rfl) (by kernel_rfl) (fun _ _ _ h => h) (Or.inl ⟨by rfl, ?_⟩) hHeld ?_
                rotate_left
                · (intro w hSw; go_simp; try with_reducible rfl)
                (try simp only [Act.put, List.setIfInBounds_toArray, List.set_cons_zero, List.set_cons_succ])
                refine wpAnyH_take (i := 13) (oi := { dst := some 34, op := Op.load 9 (Operand.tmp 33), type := 9, pos := "ref.go:56", after := #[{ on := 12, ground := Ground.data }, { on := 6, ground := Ground.guard }], guard := some (6, true) }) (v := ?_) rfl (by kernel_rfl) (by kernel_rfl) (by kernel_rfl) (fun _ _ _ h => h) (Or.inl ⟨by rfl, ?_⟩) hHeld ?_
                rotate_left
                · (intro w hSw; obtain ⟨d0, _, _⟩ := (HIA.out j y HY.out).on HG5.out hSw; go_simp; try with_reducible rfl)
                (try simp only [Act.put, List.setIfInBounds_toArray, List.set_cons_zero, List.set_cons_succ])
                refine wpAnyH_take (i := 14) (oi := { dst := some 35, op := Op.fieldAddr 33 (Operand.tmp 4) 0, type := 0, pos := "ref.go:56", after := #[{ on := 6, ground := Ground.guard }], guard := some (6, true) }) (v := ?_) rfl (by kernel_rfl) (by kernel_rfl) (by kernel_rfl) (fun _ _ _ h => h) (Or.inl ⟨by rfl, ?_⟩) hHeld ?_
                rotate_left
                · (intro w hSw; go_simp; try with_reducible rfl)
                (try simp only [Act.put, List.setIfInBounds_toArray, List.set_cons_zero, List.set_cons_succ])
                refine wpAnyH_take (i := 15) (oi := { dst := some 36, op := Op.load 9 (Operand.tmp 35), type := 9, pos := "ref.go:56", after := #[{ on := 14, ground := Ground.data }, { on := 6, ground := Ground.guard }], guard := some (6, true) }) (v := ?_) rfl (by kernel_rfl) (by kernel_rfl) (by kernel_rfl) (fun _ _ _ h => h) (Or.inl ⟨by rfl, ?_⟩) hHeld ?_
                rotate_left
                · (intro w hSw; obtain ⟨d0, d1, d2⟩ := (HX5.out.on hSw).it; go_simp; try with_reducible rfl)
                (try simp only [Act.put, List.setIfInBounds_toArray, List.set_cons_zero, List.set_cons_succ])
                refine wpAnyH_ready (rs := [16]) (by kernel_rfl) (by simp) (AllReadyH.cons (o := { dst := some 37, op := Op.call { callee := Callee.value (Operand.func 40), args := #[Operand.tmp 34, Operand.tmp 36], argTypes := #[9, 9] }, type := 3, pos := "ref.go:56", after := #[{ on := 13, ground := Ground.data }, { on := 15, ground := Ground.data }, { on := 6, ground := Ground.chain }, { on := 6, ground := Ground.guard }], guard := some (6, true) }) rfl (fun K hK => ?_) AllReadyH.nil)
                · go_simp
                  refine (HCM.out _).mono ?_
                  rintro e v102 ⟨rfl, hba⟩
                  refine hK.out _ _ (bch hHeld hba) (fun hHeld => ?_)
                  clear hba
                  (try simp only [Act.put, List.setIfInBounds_toArray, List.set_cons_zero, List.set_cons_succ])
                  refine wpAnyH_take (i := 17) (oi := { dst := some 38, op := Op.binOp BinOp.geq 3 (Operand.tmp 37) (Operand.const (Value.int IntKind.i64 0)) 3, type := 4, pos := "ref.go:56", after := #[{ on := 16, ground := Ground.data }, { on := 6, ground := Ground.guard }], guard := some (6, true) }) (v := ?_) rfl (by kernel_rfl) (by kernel_rfl) (by kernel_rfl) (fun _ _ _ h => h) (Or.inl ⟨by rfl, ?_⟩) hHeld ?_
                  rotate_left
                  · (intro w hSw; go_simp; try with_reducible rfl)
                  (try simp only [Act.put, List.setIfInBounds_toArray, List.set_cons_zero, List.set_cons_succ])
                  refine wpAnyH_take (i := 18) (oi := { dst := some 39, op := Op.pick (Operand.tmp 27) (Operand.tmp 38) (Operand.const (Value.bool false)), type := 4, pos := "ref.go:56", after := #[{ on := 6, ground := Ground.data }, { on := 17, ground := Ground.data }, { on := 3, ground := Ground.guard }], guard := some (3, false) }) (v := ?_) rfl (by kernel_rfl) (by kernel_rfl) (by kernel_rfl) (fun _ _ _ h => h) (Or.inl ⟨by rfl, ?_⟩) hHeld ?_
                  rotate_left
                  · (intro w hSw; go_simp; try with_reducible rfl)
                  (try simp only [Act.put, List.setIfInBounds_toArray, List.set_cons_zero, List.set_cons_succ])
                  refine wpAnyH_take (i := 19) (oi := { dst := some 40, op := Op.pick (Operand.tmp 24) (Operand.const (Value.bool true)) (Operand.tmp 39), type := 4, pos := "ref.go:56", after := #[{ on := 3, ground := Ground.data }, { on := 18, ground := Ground.data }], guard := none }) (v := ?_) rfl (by kernel_rfl) (by kernel_rfl) (by kernel_rfl) (fun _ _ _ h => h) (Or.inl ⟨by rfl, ?_⟩) hHeld ?_
                  rotate_left
                  · (intro w hSw; go_simp; try with_reducible rfl)
                  (try simp only [Act.put, List.setIfInBounds_toArray, List.set_cons_zero, List.set_cons_succ])
                  refine wpAnyH_done (by kernel_rfl) ?_ _
                  have HD := Lib.hid hHeld
                  clear hHeld
                  go_wp2_with fail
                  go_roundw
                  case rel => exact ⟨k + 1, hlt, by go_num, HP2, Lib.hid (bch HB5.out HD.out)⟩
                  case measure => simp [Lib.intOf]; omega
      · have hkn : k = n := by omega
        have k1 : ¬ ((k : Int) < (n : Int)) := by omega
        have HALL : Hid (l.all rightI = true ∧ chainR l = true) := Lib.hid (by
          have := HP.out
          rw [List.take_of_length_le (by have := HN.out; omega)] at this
          exact this)
        have p0 := (X.out.on HBk.out).cell (k := 0) rfl
        have OS0 : Hid (OwnS wq w1.heap.size (.slice none 0 0) []) := Lib.hid (World.ownsRow_nil _ _ _ _)
        clear HP hkn
        go_wp2_with fail
        clear p0 k1
        obtain ⟨i0, hi, hz0, hz1, hz2⟩ := info_parts info9
        go_loopw [5, 45] (fun s i W => ∃ (k : Nat) (T : List Str), k ≤ n ∧ i = .int .i64 k ∧ Hid (T.length ≤ k) ∧ Hid (run2 (l.take k) = some T) ∧ Hid (OwnS W w1.heap.size s T) ∧ Hid (Below w1.heap.size w1 W)) (fun s i _ => n - (Lib.intOf i).toNat)
        case atStart => exact ⟨0, [], Nat.zero_le _, rfl, Lib.hid (Nat.le_refl 0), Lib.hid rfl, OS0, HBk⟩
        case round =>
          clear OS0 HBk
          obtain ⟨k, T, hk, rfl, HTK, HRN, HO, HBk⟩ := hrel
          obtain ⟨wq, hwq⟩ : ∃ q, q = wr := ⟨_, rfl⟩
          rw [← hwq] at HBk HO ⊢
          clear hwq
          obtain ⟨a3, c3, rfl, _, _⟩ := HO.out.slice
          by_cases hlt : k < n
          · obtain ⟨x, hx⟩ : ∃ x, l[k]? = some x := ⟨_, List.getElem?_eq_getElem (by rw [← HN.out]; exact hlt)⟩
            obtain ⟨a', c', e, _, _, hc⟩ := (HV.out.on HBk.out).open
            rw [← HN.out] at e
            cases e
            obtain ⟨g, o, rfl, hg, hc⟩ := hc (by rw [← HN.out]; omega)
            obtain ⟨q0, q1, q2⟩ := hc k x hx
            have k1 : (k : Int) < (n : Int) := by omega
            have k2 : (0 : Int) ≤ (k : Int) := by omega
            have k4 : IntKind.i64.wrap ((k : Int) + 1) = (k : Int) + 1 := IntWalk.i64_in _ (by omega)
            obtain ⟨w5, hw5⟩ : ∃ q, q = wq.alloc (.cells #[.string ⟨x.path.toArray⟩, .int .i64 x.kind, .string ⟨x.data.toArray⟩] 33) := ⟨_, rfl⟩
            have hb5 : Below wq.heap.size wq w5 := by rw [hw5]; exact below_new _ _
            have HX5 : Hid (Box w5 wq.heap.size 33 x.arr) := Lib.hid (by rw [hw5]; exact box_new)
            have HB5 : Hid (Below w1.heap.size w1 w5) := Lib.hid (bch HBk.out hb5)
            have HO5 : Hid (OwnS w5 w1.heap.size (.slice a3 T.length c3) T) := Lib.hid (HO.out.on hb5)
            obtain ⟨u, hu⟩ : ∃ u, u = upL x.path := ⟨_, rfl⟩
            have HU := Lib.hid hu
            have HUP : Hid (Calls Tryz.prog 41 #[.string ⟨x.path.toArray⟩] w5 fun e w' => e = .returned (.string ⟨u.toArray⟩) ∧ Below w5.heap.size w5 w') := Lib.hid (by
              rw [hu]; exact rup_any ⟨x.path.toArray⟩ (HSZ.out x (List.mem_of_getElem? hx)) w5)
            have HX := Lib.hid hx
            obtain ⟨tl, htl⟩ : ∃ z, z = T.length := ⟨_, rfl⟩
            rw [← htl] at HO5 ⊢
            clear hc hx hu hb5 hg htl HO
            go_upto_region 13 with fail
            obtain ⟨b7, hb7⟩ : ∃ q, q = wq.heap.size := ⟨_, rfl⟩
            rw [← hb7] at HX5 ⊢
            rw [← hw5]
            clear hw5 hb7 q0 q1 q2 HBk
            have d0 := HX5.out.it.c0
            go_wp2_with fail
            refine HUP.out.mono ?_
            rintro e w6 ⟨rfl, hb⟩
            have HX6 := Lib.hid (HX5.out.on hb)
            have HO6 := Lib.hid (HO5.out.on hb)
            have HB6 := Lib.hid (bch HB5.out hb)
            clear hb HX5 HO5 HB5 HUP d0
            go_wp2_with fail
            go_loopw [5] (fun s W => ∃ T' : List Str, Hid (T'.length ≤ k) ∧ Hid (popR T u = popR T' u) ∧ Hid (OwnS W w1.heap.size s T') ∧ W = w6) (fun s _ => match s with | .slice _ n _ => n | _ => 0)
            case atStart => exact ⟨T, HTK, Lib.hid rfl, HO6, rfl⟩
            case round =>
              clear HO6
              obtain ⟨T', HTL, HPO, HO6, hwr⟩ := hrel
              rw [hwr] at HO6 ⊢
              clear hwr
              obtain ⟨d0, d1, d2⟩ := HX6.out.it
              cases T' with
              | nil =>
                obtain ⟨a4, c4, rfl, _, hc4⟩ := HO6.out.slice
                have HPE : Hid (popR T u = []) := Lib.hid HPO.out
                have HOF : Hid (w6.ownsRow w1.heap.size 9 1 (.slice a4 0 c4) 0 (([] : List Str).reverse.map encS)) := Lib.hid HO6.out
                have HBQ := Lib.hid HO6.out.blk
                rw [List.length_nil] at HBQ ⊢
                by_cases h47 : u = [47]
                · have t7 : (u == [47]) = true := by simp [h47]
                  have HST : Hid (run2 (l.take (k + 1)) = some (if x.kind = 1 then [x.path] else [])) := Lib.hid (by
                    rw [run2_take HX.out HRN.out]; unfold step2
                    rw [← HU.out, HPE.out, if_neg (by simp [h47])])
                  clear h47
                  by_cases hk1 : x.kind = 1
                  · have t1 : (x.kind == 1) = true := by simp [hk1]
                    have HRY : Hid (run2 (l.take (k + 1)) = some (x.path :: [])) := Lib.hid (by rw [HST.out, if_pos hk1])
                    have hws : w1.heap.size ≤ w6.heap.size := HB6.out.size
                    have HLN : Hid ([x.path].length ≤ k + 1) := Lib.hid (by simp)
                    clear hk1
                    go_wp2_with (at_builtin; refine wpList_append_own _ rfl _ _ 41 rfl w1.heap.size 9 i0 (.string ⟨#[]⟩) 1 16 Tryz.underlying41 hi hz0 hz1 hz2 rfl (by decide) _ _ _ rfl (HOF.out.alloc _) ⟨w6.heap.size, 0, none⟩ 1 1 [.string ⟨x.path.toArray⟩] rfl rfl (cell_one_new _ _ _) (by simp [Value.oneCell']) (by unfold maxLen; omega) (by omega) (by simp; omega) ?_)
                    intro v9 w9 hown9 hgrow9 _
                    have HO9 : Hid (OwnS w9 w1.heap.size v9 (x.path :: [])) := Lib.hid (OwnS.push (T := []) (by  simpa using hown9))
                    have HB9 : Hid (Below w1.heap.size w1 w9) := Lib.hid ((HB6.out.alloc hws _).grown hgrow9 (by simp; omega) HBQ.out)
                    clear hown9 hgrow9
                    go_wp2_with fail
                    go_roundw
                    case rel => exact ⟨k + 1, _, hlt, by go_num, HLN, HRY, HO9, HB9⟩
                    case measure => simp [Lib.intOf]; omega
                  · have t1 : (x.kind == 1) = false := by simp [hk1]
                    have HRY : Hid (run2 (l.take (k + 1)) = some ([])) := Lib.hid (by rw [HST.out, if_neg hk1])
                    have HLN : Hid (([] : List Str).length ≤ k + 1) := Lib.hid (Nat.zero_le _)
                    clear hk1
                    go_wp2_with fail
                    go_roundw
                    case rel => exact ⟨k + 1, _, hlt, by go_num, HLN, HRY, HO6, HB6⟩
                    case measure => simp [Lib.intOf]; omega
                · have t7 : (u == [47]) = false := by simp [h47]
                  have HR : Hid (rightR l = false) := Lib.hid (run2_not (k := k + 1) (by
                    rw [run2_take HX.out HRN.out]; unfold step2
                    rw [← HU.out, HPE.out, if_pos ⟨h47, rfl⟩]))
                  clear h47
                  go_wp2_with fail
                  go_ret
                  exact ⟨retb HR.out.symm, bch HB1.out HB6.out⟩
              | cons t r =>
                obtain ⟨g4, c4, rfl, hgB, hg4, hrc, hcm4, f0⟩ := HO6.out.form
                obtain ⟨m, hm⟩ : ∃ m, m = r.length := ⟨_, rfl⟩
                have HM := Lib.hid hm
                rw [← hm] at HO6 hrc f0 ⊢
                unfold maxLen at hcm4
                have m1 : IntKind.i64.wrap ((m : Int) + 1 - 1) = (m : Int) := by rw [show (m : Int) + 1 - 1 = (m : Int) by omega]; exact IntWalk.i64_in _ (by omega)
                have m2 : decide ((m : Int) + 1 > 0) = true := decide_eq_true (by omega)
                have m3 : (0 : Int) < (m : Int) + 1 := by omega
                have m4 : (0 : Int) ≤ (m : Int) := by omega
                have m9 : m + 1 ≤ 2000 := by have := HTL.out; rw [List.length_cons, ← HM.out] at this; omega
                clear hm
                by_cases ht : t = u
                · have t6 : (t == u) = true := by simp [ht]
                  have HPE : Hid (popR T u = t :: r) := Lib.hid (by rw [HPO.out, pop_cons_eq ht])
                  have HST : Hid (run2 (l.take (k + 1)) = some (if x.kind = 1 then x.path :: t :: r else t :: r)) := Lib.hid (by
                    rw [run2_take HX.out HRN.out]; unfold step2
                    rw [← HU.out, HPE.out, if_neg (fun h => by cases h.2)])
                  have HOF : Hid (w6.ownsRow w1.heap.size 9 1 (.slice (some ⟨g4, 0, none⟩) (m + 1) c4) (m + 1) ((t :: r).reverse.map encS)) := Lib.hid (by
                    have := HO6.out
                    unfold OwnS at this
                    rw [List.length_cons, ← HM.out] at this
                    exact this)
                  have HBQ := Lib.hid HO6.out.blk
                  have m5 : ((m : Int) + 1 == 0) = false := by simp; omega
                  have m6 : (m : Int) + 1 ≠ 0 := by omega
                  clear ht
                  cases t7 : (u == [47])
                  · clear m5 m6
                    by_cases hk1 : x.kind = 1
                    · have t1 : (x.kind == 1) = true := by simp [hk1]
                      have HRY : Hid (run2 (l.take (k + 1)) = some (x.path :: t :: r)) := Lib.hid (by rw [HST.out, if_pos hk1])
                      have hws : w1.heap.size ≤ w6.heap.size := HB6.out.size
                      have HLN : Hid ((x.path :: (t :: r)).length ≤ k + 1) := Lib.hid (Nat.succ_le_succ HTL.out)
                      clear hk1
                      go_wp2_with (at_builtin; refine wpList_append_own _ rfl _ _ 41 rfl w1.heap.size 9 i0 (.string ⟨#[]⟩) 1 16 Tryz.underlying41 hi hz0 hz1 hz2 rfl (by decide) _ _ _ rfl (HOF.out.alloc _) ⟨w6.heap.size, 0, none⟩ 1 1 [.string ⟨x.path.toArray⟩] rfl rfl (cell_one_new _ _ _) (by simp [Value.oneCell']) (by unfold maxLen; omega) (by omega) (by simp; omega) ?_)
                      intro v9 w9 hown9 hgrow9 _
                      have HO9 : Hid (OwnS w9 w1.heap.size v9 (x.path :: t :: r)) := Lib.hid (OwnS.push (T := t :: r) (by rw [List.length_cons, ← HM.out]; simpa using hown9))
                      have HB9 : Hid (Below w1.heap.size w1 w9) := Lib.hid ((HB6.out.alloc hws _).grown hgrow9 (by simp; omega) HBQ.out)
                      clear hown9 hgrow9
                      go_wp2_with fail
                      go_roundw
                      case rel => exact ⟨k + 1, _, hlt, by go_num, HLN, HRY, HO9, HB9⟩
                      case measure => simp [Lib.intOf]; omega
                    · have t1 : (x.kind == 1) = false := by simp [hk1]
                      have HRY : Hid (run2 (l.take (k + 1)) = some (t :: r)) := Lib.hid (by rw [HST.out, if_neg hk1])
                      have HLN : Hid ((t :: r).length ≤ k + 1) := Lib.hid (Nat.le_succ_of_le HTL.out)
                      clear hk1
                      go_wp2_with fail
                      go_roundw
                      case rel => exact ⟨k + 1, _, hlt, by go_num, HLN, HRY, HO6, HB6⟩
                      case measure => simp [Lib.intOf]; omega
                  · by_cases hk1 : x.kind = 1
                    · have t1 : (x.kind == 1) = true := by simp [hk1]
                      have HRY : Hid (run2 (l.take (k + 1)) = some (x.path :: t :: r)) := Lib.hid (by rw [HST.out, if_pos hk1])
                      have hws : w1.heap.size ≤ w6.heap.size := HB6.out.size
                      have HLN : Hid ((x.path :: (t :: r)).length ≤ k + 1) := Lib.hid (Nat.succ_le_succ HTL.out)
                      clear hk1
                      go_wp2_with (at_builtin; refine wpList_append_own _ rfl _ _ 41 rfl w1.heap.size 9 i0 (.string ⟨#[]⟩) 1 16 Tryz.underlying41 hi hz0 hz1 hz2 rfl (by decide) _ _ _ rfl (HOF.out.alloc _) ⟨w6.heap.size, 0, none⟩ 1 1 [.string ⟨x.path.toArray⟩] rfl rfl (cell_one_new _ _ _) (by simp [Value.oneCell']) (by unfold maxLen; omega) (by omega) (by simp; omega) ?_)
                      intro v9 w9 hown9 hgrow9 _
                      have HO9 : Hid (OwnS w9 w1.heap.size v9 (x.path :: t :: r)) := Lib.hid (OwnS.push (T := t :: r) (by rw [List.length_cons, ← HM.out]; simpa using hown9))
                      have HB9 : Hid (Below w1.heap.size w1 w9) := Lib.hid ((HB6.out.alloc hws _).grown hgrow9 (by simp; omega) HBQ.out)
                      clear hown9 hgrow9
                      go_wp2_with fail
                      go_roundw
                      case rel => exact ⟨k + 1, _, hlt, by go_num, HLN, HRY, HO9, HB9⟩
                      case measure => simp [Lib.intOf]; omega
                    · have t1 : (x.kind == 1) = false := by simp [hk1]
                      have HRY : Hid (run2 (l.take (k + 1)) = some (t :: r)) := Lib.hid (by rw [HST.out, if_neg hk1])
                      have HLN : Hid ((t :: r).length ≤ k + 1) := Lib.hid (Nat.le_succ_of_le HTL.out)
                      clear hk1
                      go_wp2_with fail
                      go_roundw
                      case rel => exact ⟨k + 1, _, hlt, by go_num, HLN, HRY, HO6, HB6⟩
                      case measure => simp [Lib.intOf]; omega
                · have t6 : (t == u) = false := by simp [ht]
                  have HPE : Hid (popR T u = popR r u) := Lib.hid (by rw [HPO.out, pop_cons_ne ht])
                  have HO7 : Hid (OwnS w6 w1.heap.size (.slice (some ⟨g4, 0, none⟩) m c4) r) := Lib.hid (by rw [HM.out]; exact HO6.out.pop)
                  clear ht HO6
                  go_wp2_with fail
                  go_roundw
                  case rel => exact ⟨r, Lib.hid (by have := HTL.out; rw [List.length_cons] at this; omega), HPE, HO7, by first | trivial | rfl⟩
                  case measure => simp
          · have k1 : ¬ ((k : Int) < (n : Int)) := by omega
            have HR : Hid (rightR l = true) := Lib.hid (by
              have h1 := HRN.out
              rw [List.take_of_length_le (by have := HN.out; omega)] at h1
              unfold rightR
              rw [h1, HALL.out.1, HALL.out.2, decide_eq_true (by have := HN.out; omega)]; rfl)
            go_wp2_with fail
            go_ret
            exact ⟨retb HR.out.symm, bch HB1.out HBk.out⟩
  · have e4 : decide ((n : Int) > 2000) = true := decide_eq_true (by omega)
    have HR : Hid (rightR l = false) := Lib.hid (by
      unfold rightR
      rw [decide_eq_false (by rw [← HN.out]; exact h2)]; rfl)
    go_wp2_with fail
    go_ret
    exact ⟨retb HR.out.symm, HB1.out⟩
end Go.Proofs.YtjbbnecegomkcaaGreatDoor

namespace Go.Proofs.YtjbbnecegomkcaaGreatDoor
open Go.RowKit Go.Shelf
set_option maxHeartbeats 4000000 in
theorem rben_bad1 (p d : ByteArray) (hp : p.size ≤ 2000000) (hd : d.size ≤ 2000000) (hv : validB p.data.toList = false) (w : World) : Calls Tryz.prog 68 #[.string p, .string d] w (RNo w) := by
  have HV := Lib.hid hv
  have HD := Lib.hid (rnames_is d hd _ rfl)
  obtain ⟨b, hb⟩ : ∃ b, validB d.data.toList = b := ⟨_, rfl⟩
  rw [hb] at HD
  clear hv hb
  go_enter Tryz.func68, Tryz.ntmps68
  go_wp2_with fail
  refine ((rnames_any p hp _).2 HV.out).mono ?_
  rintro e w1 ⟨rfl, hb1⟩
  go_wp2_with fail
  refine (HD.out _).mono ?_
  rintro e w2 ⟨a2, n2, c2, rfl, hb2⟩
  have hb3 := chn hb1 hb2
  go_wp2
  go_ret2
  exact ⟨rfl, hb3⟩

set_option maxHeartbeats 4000000 in
theorem rben_bad2 (p d : ByteArray) (hp : p.size ≤ 2000000) (hd : d.size ≤ 2000000) (hv : validB p.data.toList = true) (hv2 : validB d.data.toList = false) (w : World) : Calls Tryz.prog 68 #[.string p, .string d] w (RNo w) := by
  have HV := Lib.hid hv
  have HD := Lib.hid hv2
  clear hv hv2
  go_enter Tryz.func68, Tryz.ntmps68
  go_wp2_with fail
  refine (rnames_is p hp _ HV.out _).mono ?_
  rintro e w1 ⟨a2, n2, c2, rfl, hb1⟩
  go_wp2_with fail
  refine ((rnames_any d hd _).2 HD.out).mono ?_
  rintro e w2 ⟨rfl, hb2⟩
  have hb3 := chn hb1 hb2
  go_wp2
  go_ret2
  exact ⟨rfl, hb3⟩

set_option maxHeartbeats 4000000 in
theorem rben_long (p d : ByteArray) (hp : p.size ≤ 2000000) (hd : d.size ≤ 2000000) (hv : validB p.data.toList = true) (hv2 : validB d.data.toList = true) (hl : (namesL p.data.toList).length < (namesL d.data.toList).length) (w : World) : Calls Tryz.prog 68 #[.string p, .string d] w (RNo w) := by
  have HV := Lib.hid hv
  have HD := Lib.hid hv2
  obtain ⟨n, hn⟩ : ∃ n, (namesL p.data.toList).length = n := ⟨_, rfl⟩
  obtain ⟨m, hm⟩ : ∃ m, (namesL d.data.toList).length = m := ⟨_, rfl⟩
  rw [hn, hm] at hl
  have HN := Lib.hid hn
  have HM := Lib.hid hm
  have e1 : decide ((n : Int) < (m : Int)) = true := decide_eq_true (by omega)
  clear hv hv2 hn hm
  go_enter Tryz.func68, Tryz.ntmps68
  go_wp2_with fail
  refine ((rnames_any p hp _).1 HV.out).mono ?_
  rintro e w1 ⟨v1, rfl, hr1, hb1⟩
  obtain ⟨a1, c1, rfl, _⟩ := hr1
  rw [HN.out]
  go_wp2_with fail
  refine ((rnames_any d hd _).1 HD.out).mono ?_
  rintro e w2 ⟨v2, rfl, hr2, hb2⟩
  obtain ⟨a2, c2, rfl, _⟩ := hr2
  rw [HM.out]
  have hb3 := chn hb1 hb2
  go_wp2
  go_ret2
  exact ⟨rfl, hb3⟩

set_option maxHeartbeats 4000000 in
theorem rben_miss (p d : ByteArray) (hp : p.size ≤ 2000000) (hd : d.size ≤ 2000000) (hv : validB p.data.toList = true) (hv2 : validB d.data.toList = true) (hl : (namesL d.data.toList).length ≤ (namesL p.data.toList).length)
    (j : Nat) (x y : Str) (hx : (namesL p.data.toList)[j]? = some x) (hy : (namesL d.data.toList)[j]? = some y) (hne : y ≠ x) (w : World) : Calls Tryz.prog 68 #[.string p, .string d] w (RNo w) := by
  have HV := Lib.hid hv
  have HD := Lib.hid hv2
  have HX := Lib.hid hx
  have HY := Lib.hid hy
  have HNE := Lib.hid hne
  obtain ⟨n, hn⟩ : ∃ n, (namesL p.data.toList).length = n := ⟨_, rfl⟩
  obtain ⟨m, hm⟩ : ∃ m, (namesL d.data.toList).length = m := ⟨_, rfl⟩
  rw [hn, hm] at hl
  have hjm : j < m := by rw [← hm]; exact (List.getElem?_eq_some_iff.1 hy).1
  have hm40 : m ≤ 40 := by rw [← hm]; exact (valid_names _ hv2).1
  have HN := Lib.hid hn
  have HM := Lib.hid hm
  have e1 : decide ((n : Int) < (m : Int)) = false := decide_eq_false (by omega)
  clear hv hv2 hn hm hx hy hne
  go_enter Tryz.func68, Tryz.ntmps68
  go_wp2_with fail
  refine ((rnames_any p hp _).1 HV.out).mono ?_
  rintro e w1 ⟨v1, rfl, hr1, hb1⟩
  obtain ⟨a1, c1, rfl, _⟩ := hr1.slice
  rw [HN.out] at hr1 ⊢
  go_wp2_with fail
  refine ((rnames_any d hd _).1 HD.out).mono ?_
  rintro e w2 ⟨v2, rfl, hr2, hb2⟩
  obtain ⟨a2, c2, rfl, _⟩ := hr2.slice
  rw [HM.out] at hr2 ⊢
  have hb3 := chn hb1 hb2
  have hr1 := hr1.below hb2
  go_wp2
  have HB3 := Lib.hid hb3
  have HR1 := Lib.hid hr1
  have HR2 := Lib.hid hr2
  clear hb3 hr1 hr2
  go_loopw [37] (fun i wr => ∃ k : Nat, k ≤ j ∧ i = .int .i64 k ∧ Hid (RdS wr (.slice a1 n c1) (namesL p.data.toList)) ∧ Hid (RdS wr (.slice a2 m c2) (namesL d.data.toList)) ∧ Hid (Below w.heap.size w wr)) (fun i _ => m - (intOf i).toNat)
  case atStart => exact ⟨0, Nat.zero_le _, rfl, HR1, HR2, HB3⟩
  case round =>
    clear HB3 HR1 HR2
    obtain ⟨k, hk, rfl, HR1, HR2, HB3⟩ := hrel
    have hkm : k < m := by omega
    have hkn : k < n := by omega
    obtain ⟨x', hx'⟩ : ∃ x', (namesL p.data.toList)[k]? = some x' := ⟨_, List.getElem?_eq_getElem (by have := HN.out; omega)⟩
    obtain ⟨y', hy'⟩ : ∃ y', (namesL d.data.toList)[k]? = some y' := ⟨_, List.getElem?_eq_getElem (by have := HM.out; omega)⟩
    obtain ⟨g1, o1, rfl, _, k1⟩ := HR1.out.cells (by have := HN.out; omega)
    obtain ⟨g2, o2, rfl, _, k2⟩ := HR2.out.cells (by have := HM.out; omega)
    have hc1 := k1 k x' hx'
    have hc2 := k2 k y' hy'
    unfold encS at hc1 hc2
    have HX' := Lib.hid hx'
    have HY' := Lib.hid hy'
    clear hx' hy' k1 k2
    by_cases hq : y' = x'
    · have hkj : k ≠ j := fun e => by
        subst e
        have h1 := HX'.out
        have h2 := HY'.out
        rw [HX.out] at h1
        rw [HY.out] at h2
        cases h1; cases h2
        exact HNE.out hq
      have q1 : (y' == x') = true := by simp [hq]
      have q2 : (y' != x') = false := by simp [hq]
      clear hq
      go_wp2
      go_region
      go_wp2
      go_roundw
      case rel => exact ⟨k + 1, by omega, by go_num, HR1.out.drewN 1, HR2.out.drewN 1, below_drewN HB3.out 1⟩
      case measure => simp [intOf]; omega
    · have q1 : (y' == x') = false := by simp [hq]
      have q2 : (y' != x') = true := by simp [hq]
      clear hq
      go_wp2
      go_region
      go_wp2
      go_ret2
      exact ⟨rfl, below_drewN HB3.out 1⟩

set_option maxRecDepth 100000 in
set_option maxHeartbeats 4000000 in
theorem rben_yes (p d : ByteArray) (hp : p.size ≤ 2000000) (hd : d.size ≤ 2000000) (hr : p.data.toList ≠ [47]) (hv : validB p.data.toList = true) (hv2 : validB d.data.toList = true) (hu : namesL d.data.toList <+: namesL p.data.toList) (w : World) :
    Calls Tryz.prog 68 #[.string p, .string d] w (RYes ((namesL p.data.toList).drop (namesL d.data.toList).length) w) := by
  have HV := Lib.hid hv
  have HD := Lib.hid hv2
  have HU := Lib.hid hu
  obtain ⟨n, hn⟩ : ∃ n, (namesL p.data.toList).length = n := ⟨_, rfl⟩
  obtain ⟨m, hm⟩ : ∃ m, (namesL d.data.toList).length = m := ⟨_, rfl⟩
  have hl : m ≤ n := by rw [← hn, ← hm]; exact hu.length_le
  have hm40 : m ≤ 40 := by rw [← hm]; exact (valid_names _ hv2).1
  have hn40 : n ≤ 40 := by rw [← hn]; exact (valid_names _ hv).1
  have hn0 : 0 < n := by
    rw [← hn]
    exact List.length_pos_iff.2 (fun e => hr ((names_root _ hv).1 e))
  rw [hm]
  have HN := Lib.hid hn
  have HM := Lib.hid hm
  have e1 : decide ((n : Int) < (m : Int)) = false := decide_eq_false (by omega)
  obtain ⟨i0, hi, hz0, hz1, hz2⟩ := info_parts info9
  clear hv hv2 hn hm hu hr
  go_enter Tryz.func68, Tryz.ntmps68
  go_wp2_with fail
  refine ((rnames_any p hp _).1 HV.out).mono ?_
  rintro e w1 ⟨v1, rfl, hr1, hb1⟩
  obtain ⟨a1, c1, rfl, _⟩ := hr1.slice
  rw [HN.out] at hr1 ⊢
  go_wp2_with fail
  refine ((rnames_any d hd _).1 HD.out).mono ?_
  rintro e w2 ⟨v2, rfl, hr2, hb2⟩
  obtain ⟨a2, c2, rfl, _⟩ := hr2.slice
  rw [HM.out] at hr2 ⊢
  have hb3 := chn hb1 hb2
  have hr1 := hr1.below hb2
  obtain ⟨_, hcn, hcm⟩ := hr1.caps
  obtain ⟨g1, o1, rfl, hg1, _⟩ := hr1.cells (by have := HN.out; omega)
  have HCM := Lib.hid hcm
  clear hcm
  go_wp2
  have HB3 := Lib.hid hb3
  have HR1 := Lib.hid hr1
  have HR2 := Lib.hid hr2
  clear hb3 hr1 hr2
  go_loopw [37] (fun i wr => ∃ k : Nat, k ≤ m ∧ i = .int .i64 k ∧ Hid (RdS wr (.slice (some ⟨g1, o1, none⟩) n c1) (namesL p.data.toList)) ∧ Hid (RdS wr (.slice a2 m c2) (namesL d.data.toList)) ∧ Hid (Below w.heap.size w wr)) (fun i _ => m - (intOf i).toNat)
  case atStart => exact ⟨0, Nat.zero_le _, rfl, HR1, HR2, HB3⟩
  case round =>
    clear HB3 HR1 HR2
    obtain ⟨k, hk, rfl, HR1, HR2, HB3⟩ := hrel
    by_cases hkm : k < m
    · have hkn : k < n := by omega
      obtain ⟨x', hx'⟩ : ∃ x', (namesL p.data.toList)[k]? = some x' := ⟨_, List.getElem?_eq_getElem (by have := HN.out; omega)⟩
      obtain ⟨y', hy'⟩ : ∃ y', (namesL d.data.toList)[k]? = some y' := ⟨_, List.getElem?_eq_getElem (by have := HM.out; omega)⟩
      have hc1 := rd_cell HR1.out k x' hx'
      obtain ⟨g2, o2, rfl, _, k2⟩ := HR2.out.cells (by have := HM.out; omega)
      have hc2 := k2 k y' hy'
      unfold encS at hc1 hc2
      have hq := rben_pre _ _ HU.out k x' y' hx' hy'
      clear hx' hy' k2
      have q1 : (y' == x') = true := by simp [hq]
      have q2 : (y' != x') = false := by simp [hq]
      clear hq
      go_wp2
      go_region
      go_wp2
      go_roundw
      case rel => exact ⟨k + 1, by omega, by go_num, HR1.out.drewN 1, HR2.out.drewN 1, below_drewN HB3.out 1⟩
      case measure => simp [intOf]; omega
    · have hc1' : m ≤ c1 := by omega
      have hb3 := HB3.out
      by_cases hcm : c1 = m
      · have hnm : n = m := by omega
        obtain ⟨T, hT⟩ : ∃ T : List Value, T = ((namesL p.data.toList).drop m).map encS := ⟨_, rfl⟩
        have H3 : Hid (T.length = n - m) := by rw [Hid, hT, List.length_map, List.length_drop, HN.out]
        have H2 : Hid (∀ u ∈ T, u.oneCell' = true) := by intro u hu; rw [hT] at hu; obtain ⟨x, _, rfl⟩ := List.mem_map.1 hu; simp [encS, Value.oneCell']
        have H4 : Hid (T = ((namesL p.data.toList).drop m).map encS) := hT
        have H1 : Hid (∀ j u, T[j]? = some u → wr.cell? ((⟨g1, o1, none⟩ : Addr).add j) = some u) := by
          intro j u hj
          rw [hT, List.getElem?_map] at hj
          obtain ⟨x, hx, rfl⟩ := Option.map_eq_some_iff.1 hj
          rw [List.drop_of_length_le (by have := HN.out; omega)] at hx
          cases hx
        clear hT
        go_wp2_with (at_builtin; refine wpList_append_own _ rfl _ _ 41 rfl w.heap.size 9 i0 (.string ⟨#[]⟩) 1 16 Tryz.underlying41 hi hz0 hz1 hz2 rfl (by decide) _ 0 [] rfl (World.ownsRow_nil _ _ _ _) ⟨g1, o1, none⟩ 0 0 T rfl (by rw [H3.out]; omega) H1.out H2.out (by unfold maxLen; omega) (by omega) HB3.out.size ?_; intro v' w2 hown' hgrow _)
        have hrd := fin_own hown' H4.out
        have HB2 := Lib.hid (HB3.out.grown hgrow HB3.out.size (fun j ej => by cases (show (none : Option Nat) = some j from ej)))
        clear hown' hgrow
        go_wp2
        go_ret2
        exact ⟨v', rfl, hrd, HB2.out⟩
      · have hnm : ¬ n < m := by omega
        obtain ⟨T, hT⟩ : ∃ T : List Value, T = ((namesL p.data.toList).drop m).map encS := ⟨_, rfl⟩
        have H3 : Hid (T.length = n - m) := by rw [Hid, hT, List.length_map, List.length_drop, HN.out]
        have H2 : Hid (∀ u ∈ T, u.oneCell' = true) := by intro u hu; rw [hT] at hu; obtain ⟨x, _, rfl⟩ := List.mem_map.1 hu; simp [encS, Value.oneCell']
        have H4 : Hid (T = ((namesL p.data.toList).drop m).map encS) := hT
        have H1 : Hid (∀ j u, T[j]? = some u → wr.cell? ((⟨g1, o1 + m, none⟩ : Addr).add j) = some u) := by
          intro j u hj
          rw [hT, List.getElem?_map] at hj
          obtain ⟨x, hx, rfl⟩ := Option.map_eq_some_iff.1 hj
          rw [add_off]
          exact RdS.drop HR1.out m j x hx
        clear hT
        go_wp2_with (at_builtin; refine wpList_append_own _ rfl _ _ 41 rfl w.heap.size 9 i0 (.string ⟨#[]⟩) 1 16 Tryz.underlying41 hi hz0 hz1 hz2 rfl (by decide) _ 0 [] rfl (World.ownsRow_nil _ _ _ _) ⟨g1, o1 + m, none⟩ (n - m) (c1 - m) T rfl (by rw [H3.out, Nat.mul_one]) H1.out H2.out (by unfold maxLen; omega) (by omega) HB3.out.size ?_; intro v' w2 hown' hgrow _)
        have hrd := fin_own hown' H4.out
        have HB2 := Lib.hid (HB3.out.grown hgrow HB3.out.size (fun j ej => by cases (show (none : Option Nat) = some j from ej)))
        clear hown' hgrow
        go_wp2
        go_ret2
        exact ⟨v', rfl, hrd, HB2.out⟩


set_option maxRecDepth 100000 in
set_option maxHeartbeats 4000000 in
theorem rben_root (w : World) : Calls Tryz.prog 68 #[.string ⟨#[47]⟩, .string ⟨#[47]⟩] w (RYes [] w) := by
  go_enter Tryz.func68, Tryz.ntmps68
  go_wp2_with fail
  refine (rnames_root0 _).mono ?_
  rintro e w1 ⟨rfl, rfl⟩
  go_wp2_with fail
  refine (rnames_root0 _).mono ?_
  rintro e w2 ⟨rfl, rfl⟩
  go_wp2
  go_loopw [37] (fun i wr => i = .int .i64 0 ∧ wr = w) (fun i _ => 0)
  case atStart => exact ⟨rfl, rfl⟩
  case round =>
    obtain ⟨rfl, rfl⟩ := hrel
    go_wp2
    go_ret2
    exact ⟨_, rfl, RdS.nil _, Below.refl _ _⟩

theorem rben_any (p d : ByteArray) (hp : p.size ≤ 2000000) (hd : d.size ≤ 2000000) (w : World) :
    (underB p.data.toList d.data.toList = true → Calls Tryz.prog 68 #[.string p, .string d] w (RYes ((namesL p.data.toList).drop (namesL d.data.toList).length) w)) ∧
    (underB p.data.toList d.data.toList = false → Calls Tryz.prog 68 #[.string p, .string d] w (RNo w)) := by
  by_cases hv : validB p.data.toList = true
  · by_cases hv2 : validB d.data.toList = true
    · have hu := underB_is _ _ hv hv2
      refine ⟨fun h => ?_, fun h => ?_⟩
      · have h := hu.1 h
        by_cases hr : p.data.toList = [47]
        · have e0 : namesL p.data.toList = [] := (names_root _ hv).2 hr
          rw [e0] at h
          have e1 : namesL d.data.toList = [] := List.prefix_nil.1 h
          have hr2 := (names_root _ hv2).1 e1
          rw [e0, e1]
          have ep : p = ⟨#[47]⟩ := ba_eq p [47] hr
          have ed : d = ⟨#[47]⟩ := ba_eq d [47] hr2
          subst ep; subst ed
          exact rben_root w
        · exact rben_yes p d hp hd hr hv hv2 h w
      · have h : ¬ namesL d.data.toList <+: namesL p.data.toList := fun k => by rw [hu.2 k] at h; cases h
        rcases pre_no _ _ h with k | ⟨k, j, x, y, h1, h2, h3⟩
        · exact rben_long p d hp hd hv hv2 k w
        · exact rben_miss p d hp hd hv hv2 k j x y h1 h2 h3 w
    · have hv2 := Bool.eq_false_iff.2 hv2
      refine ⟨fun h => ?_, fun _ => rben_bad2 p d hp hd hv hv2 w⟩
      rw [underB_no2 _ _ hv2] at h; cases h
  · have hv := Bool.eq_false_iff.2 hv
    refine ⟨fun h => ?_, fun _ => rben_bad1 p d hp hd hv w⟩
    rw [underB_no1 _ _ hv] at h; cases h

theorem rbeneath_any (p d : ByteArray) (hp : p.size ≤ 2000000) (hd : d.size ≤ 2000000) (w : World) : Calls Tryz.prog 68 #[.string p, .string d] w fun e w' =>
    ∃ a n c, e = .returned (.tuple #[.slice a n c, .bool (underB p.data.toList d.data.toList)]) ∧ (underB p.data.toList d.data.toList = true → RdS w' (.slice a n c) ((namesL p.data.toList).drop (namesL d.data.toList).length)) ∧ Below w.heap.size w w' := by
  cases e : underB p.data.toList d.data.toList with
  | true =>
    refine ((rben_any p d hp hd w).1 e).mono ?_
    rintro e w' ⟨v, rfl, hr, hb⟩
    obtain ⟨a, c, rfl, _⟩ := id hr
    exact ⟨a, _, c, rfl, fun _ => hr, hb⟩
  | false =>
    refine ((rben_any p d hp hd w).2 e).mono ?_
    rintro e w' ⟨rfl, hb⟩
    exact ⟨none, 0, 0, rfl, (fun h => by cases h), hb⟩
set_option maxRecDepth 100000 in
set_option maxHeartbeats 4000000 in
theorem runder_any (a b : ByteArray) (ha : a.size ≤ 2000000) (hb : b.size ≤ 2000000) (w : World) : Calls Tryz.prog 46 #[.string a, .string b] w fun e w' => e = .returned (.bool (underB a.data.toList b.data.toList)) ∧ Below w.heap.size w w' := by
  have HC := Lib.hid (rbeneath_any a b ha hb w)
  go_enter Tryz.func46, Tryz.ntmps46
  go_wp2_with fail
  refine HC.out.mono ?_
  rintro e w2 ⟨x, n, c, rfl, _, hb⟩
  have HB := Lib.hid hb
  clear hb
  go_wp2_with fail
  go_ret
  exact ⟨rfl, HB.out⟩
end Go.Proofs.YtjbbnecegomkcaaGreatDoor

namespace Go.Proofs.YtjbbnecegomkcaaGreatDoor
open Go.RowKit Go.Shelf

def FormS (v : Value) : Prop := v = .slice none 0 0 ∨ ∃ g o n c, v = .slice (some ⟨g, o, none⟩) n c
def RYesF (l : List Str) (w : World) (e : Ending) (w' : World) : Prop := ∃ v, e = .returned (.tuple #[v, .bool true]) ∧ RdS w' v l ∧ FormS v ∧ Below w.heap.size w w'
theorem own_formS {w : World} {B e s n : Nat} {v : Value} {xs : List Value} (h : w.ownsRow B e s v n xs) : FormS v := by
  rcases h.2 with ⟨rfl, _⟩ | ⟨g, cap, cur, rfl, _⟩
  · exact .inl rfl
  · exact .inr ⟨_, _, _, _, rfl⟩
set_option maxRecDepth 100000 in
set_option maxHeartbeats 4000000 in
theorem rben_yesF (p d : ByteArray) (hp : p.size ≤ 2000000) (hd : d.size ≤ 2000000) (hr : p.data.toList ≠ [47]) (hv : validB p.data.toList = true) (hv2 : validB d.data.toList = true) (hu : namesL d.data.toList <+: namesL p.data.toList) (w : World) :
    Calls Tryz.prog 68 #[.string p, .string d] w (RYesF ((namesL p.data.toList).drop (namesL d.data.toList).length) w) := by
  have HV := Lib.hid hv
  have HD := Lib.hid hv2
  have HU := Lib.hid hu
  obtain ⟨n, hn⟩ : ∃ n, (namesL p.data.toList).length = n := ⟨_, rfl⟩
  obtain ⟨m, hm⟩ : ∃ m, (namesL d.data.toList).length = m := ⟨_, rfl⟩
  have hl : m ≤ n := by rw [← hn, ← hm]; exact hu.length_le
  have hm40 : m ≤ 40 := by rw [← hm]; exact (valid_names _ hv2).1
  have hn40 : n ≤ 40 := by rw [← hn]; exact (valid_names _ hv).1
  have hn0 : 0 < n := by
    rw [← hn]
    exact List.length_pos_iff.2 (fun e => hr ((names_root _ hv).1 e))
  rw [hm]
  have HN := Lib.hid hn
  have HM := Lib.hid hm
  have e1 : decide ((n : Int) < (m : Int)) = false := decide_eq_false (by omega)
  obtain ⟨i0, hi, hz0, hz1, hz2⟩ := info_parts info9
  clear hv hv2 hn hm hu hr
  go_enter Tryz.func68, Tryz.ntmps68
  go_wp2_with fail
  refine ((rnames_any p hp _).1 HV.out).mono ?_
  rintro e w1 ⟨v1, rfl, hr1, hb1⟩
  obtain ⟨a1, c1, rfl, _⟩ := hr1.slice
  rw [HN.out] at hr1 ⊢
  go_wp2_with fail
  refine ((rnames_any d hd _).1 HD.out).mono ?_
  rintro e w2 ⟨v2, rfl, hr2, hb2⟩
  obtain ⟨a2, c2, rfl, _⟩ := hr2.slice
  rw [HM.out] at hr2 ⊢
  have hb3 := chn hb1 hb2
  have hr1 := hr1.below hb2
  obtain ⟨_, hcn, hcm⟩ := hr1.caps
  obtain ⟨g1, o1, rfl, hg1, _⟩ := hr1.cells (by have := HN.out; omega)
  have HCM := Lib.hid hcm
  clear hcm
  go_wp2
  have HB3 := Lib.hid hb3
  have HR1 := Lib.hid hr1
  have HR2 := Lib.hid hr2
  clear hb3 hr1 hr2
  go_loopw [37] (fun i wr => ∃ k : Nat, k ≤ m ∧ i = .int .i64 k ∧ Hid (RdS wr (.slice (some ⟨g1, o1, none⟩) n c1) (namesL p.data.toList)) ∧ Hid (RdS wr (.slice a2 m c2) (namesL d.data.toList)) ∧ Hid (Below w.heap.size w wr)) (fun i _ => m - (intOf i).toNat)
  case atStart => exact ⟨0, Nat.zero_le _, rfl, HR1, HR2, HB3⟩
  case round =>
    clear HB3 HR1 HR2
    obtain ⟨k, hk, rfl, HR1, HR2, HB3⟩ := hrel
    by_cases hkm : k < m
    · have hkn : k < n := by omega
      obtain ⟨x', hx'⟩ : ∃ x', (namesL p.data.toList)[k]? = some x' := ⟨_, List.getElem?_eq_getElem (by have := HN.out; omega)⟩
      obtain ⟨y', hy'⟩ : ∃ y', (namesL d.data.toList)[k]? = some y' := ⟨_, List.getElem?_eq_getElem (by have := HM.out; omega)⟩
      have hc1 := rd_cell HR1.out k x' hx'
      obtain ⟨g2, o2, rfl, _, k2⟩ := HR2.out.cells (by have := HM.out; omega)
      have hc2 := k2 k y' hy'
      unfold encS at hc1 hc2
      have hq := rben_pre _ _ HU.out k x' y' hx' hy'
      clear hx' hy' k2
      have q1 : (y' == x') = true := by simp [hq]
      have q2 : (y' != x') = false := by simp [hq]
      clear hq
      go_wp2
      go_region
      go_wp2
      go_roundw
      case rel => exact ⟨k + 1, by omega, by go_num, HR1.out.drewN 1, HR2.out.drewN 1, below_drewN HB3.out 1⟩
      case measure => simp [intOf]; omega
    · have hc1' : m ≤ c1 := by omega
      have hb3 := HB3.out
      by_cases hcm : c1 = m
      · have hnm : n = m := by omega
        obtain ⟨T, hT⟩ : ∃ T : List Value, T = ((namesL p.data.toList).drop m).map encS := ⟨_, rfl⟩
        have H3 : Hid (T.length = n - m) := by rw [Hid, hT, List.length_map, List.length_drop, HN.out]
        have H2 : Hid (∀ u ∈ T, u.oneCell' = true) := by intro u hu; rw [hT] at hu; obtain ⟨x, _, rfl⟩ := List.mem_map.1 hu; simp [encS, Value.oneCell']
        have H4 : Hid (T = ((namesL p.data.toList).drop m).map encS) := hT
        have H1 : Hid (∀ j u, T[j]? = some u → wr.cell? ((⟨g1, o1, none⟩ : Addr).add j) = some u) := by
          intro j u hj
          rw [hT, List.getElem?_map] at hj
          obtain ⟨x, hx, rfl⟩ := Option.map_eq_some_iff.1 hj
          rw [List.drop_of_length_le (by have := HN.out; omega)] at hx
          cases hx
        clear hT
        go_wp2_with (at_builtin; refine wpList_append_own _ rfl _ _ 41 rfl w.heap.size 9 i0 (.string ⟨#[]⟩) 1 16 Tryz.underlying41 hi hz0 hz1 hz2 rfl (by decide) _ 0 [] rfl (World.ownsRow_nil _ _ _ _) ⟨g1, o1, none⟩ 0 0 T rfl (by rw [H3.out]; omega) H1.out H2.out (by unfold maxLen; omega) (by omega) HB3.out.size ?_; intro v' w2 hown' hgrow _)
        have hrd := fin_own hown' H4.out
        have HB2 := Lib.hid (HB3.out.grown hgrow HB3.out.size (fun j ej => by cases (show (none : Option Nat) = some j from ej)))
        have hfm := Lib.hid (own_formS hown')
        clear hown' hgrow
        go_wp2
        go_ret2
        exact ⟨v', rfl, hrd, hfm.out, HB2.out⟩
      · have hnm : ¬ n < m := by omega
        obtain ⟨T, hT⟩ : ∃ T : List Value, T = ((namesL p.data.toList).drop m).map encS := ⟨_, rfl⟩
        have H3 : Hid (T.length = n - m) := by rw [Hid, hT, List.length_map, List.length_drop, HN.out]
        have H2 : Hid (∀ u ∈ T, u.oneCell' = true) := by intro u hu; rw [hT] at hu; obtain ⟨x, _, rfl⟩ := List.mem_map.1 hu; simp [encS, Value.oneCell']
        have H4 : Hid (T = ((namesL p.data.toList).drop m).map encS) := hT
        have H1 : Hid (∀ j u, T[j]? = some u → wr.cell? ((⟨g1, o1 + m, none⟩ : Addr).add j) = some u) := by
          intro j u hj
          rw [hT, List.getElem?_map] at hj
          obtain ⟨x, hx, rfl⟩ := Option.map_eq_some_iff.1 hj
          rw [add_off]
          exact RdS.drop HR1.out m j x hx
        clear hT
        go_wp2_with (at_builtin; refine wpList_append_own _ rfl _ _ 41 rfl w.heap.size 9 i0 (.string ⟨#[]⟩) 1 16 Tryz.underlying41 hi hz0 hz1 hz2 rfl (by decide) _ 0 [] rfl (World.ownsRow_nil _ _ _ _) ⟨g1, o1 + m, none⟩ (n - m) (c1 - m) T rfl (by rw [H3.out, Nat.mul_one]) H1.out H2.out (by unfold maxLen; omega) (by omega) HB3.out.size ?_; intro v' w2 hown' hgrow _)
        have hrd := fin_own hown' H4.out
        have HB2 := Lib.hid (HB3.out.grown hgrow HB3.out.size (fun j ej => by cases (show (none : Option Nat) = some j from ej)))
        have hfm := Lib.hid (own_formS hown')
        clear hown' hgrow
        go_wp2
        go_ret2
        exact ⟨v', rfl, hrd, hfm.out, HB2.out⟩


theorem rbeneath_f (p d : ByteArray) (hp : p.size ≤ 2000000) (hd : d.size ≤ 2000000) (w : World) (h47 : p.data.toList ≠ [47]) : Calls Tryz.prog 68 #[.string p, .string d] w fun e w' =>
    ∃ v, e = .returned (.tuple #[v, .bool (underB p.data.toList d.data.toList)]) ∧ (underB p.data.toList d.data.toList = true → RdS w' v ((namesL p.data.toList).drop (namesL d.data.toList).length)) ∧ FormS v ∧ Below w.heap.size w w' := by
  cases e : underB p.data.toList d.data.toList with
  | true =>
    have hv : validB p.data.toList = true := by
      cases h : validB p.data.toList with
      | true => rfl
      | false => rw [underB_no1 _ _ h] at e; cases e
    have hv2 : validB d.data.toList = true := by
      cases h : validB d.data.toList with
      | true => rfl
      | false => rw [underB_no2 _ _ h] at e; cases e
    refine (rben_yesF p d hp hd h47 hv hv2 ((underB_is _ _ hv hv2).1 e) w).mono ?_
    rintro e w' ⟨v, rfl, hr, hf, hb⟩
    exact ⟨v, rfl, fun _ => hr, hf, hb⟩
  | false =>
    refine ((rben_any p d hp hd w).2 e).mono ?_
    rintro e w' ⟨rfl, hb⟩
    exact ⟨_, rfl, (fun h => by cases h), .inl rfl, hb⟩
end Go.Proofs.YtjbbnecegomkcaaGreatDoor

namespace Go.Proofs.YtjbbnecegomkcaaGreatDoor
open Go.RowKit Go.Shelf

theorem end_tree1 {fn : Func} {p : Tmp} (h : fn.results = #[.cell p 24]) (tmps : Array Value) {w : World} {g : Nat} {v : Value} (X : Box w g 24 #[v]) (hp : tmps.getD p undef = .pointer (some ⟨g, 0, none⟩)) :
    (results fn tmps).run Tryz.prog w = .ok (.agg #[v]) w :=
  results_cell_row h tmps w g 24 #[v] (0, 0) _ hp X Tryz.underlying24 rfl (info24 v)
theorem b24x (a : Option Addr) (n c : Nat) : Tryz.prog.built 24 [(0, .slice a n c)] = some #[.slice a n c] := by kernel_rfl
theorem OwnI.blk {w : World} {B : Nat} {v : Value} {l : List It} (h : OwnI w B v l) : ∀ q, v.ownBlock = some q → B ≤ q := by
  intro q hq
  rcases h.2 with ⟨rfl, _⟩ | ⟨g, cap, cur, rfl, hg, _⟩
  · simp [Value.ownBlock] at hq
  · simp [Value.ownBlock] at hq; omega
theorem OwnI.push {w : World} {B : Nat} {v : Value} {l : List It} {m : Nat} {x : It} (hm : m = l.length) (h : w.ownsRow B 33 3 v (m + 1) (flatI l ++ x.cells)) : OwnI w B v (l ++ [x]) := by
  unfold OwnI
  rw [List.length_append, flatI_append, ← hm]
  simpa [flatI] using h
theorem three_new (W : World) (x : It) : ∀ (j : Nat) (u : Value), x.cells[j]? = some u → (W.alloc (.cells x.arr 33)).cell? ((⟨W.heap.size, 0, none⟩ : Addr).add j) = some u := by
  intro j u hu
  rw [add_to, Nat.zero_add]
  exact (box_new (w := W) (t := 33) (cs := x.arr)).cell (by rw [← hu, ← Array.getElem?_toList]; rfl)
theorem without_one (l : List It) (p : Str) {k : Nat} {x : It} (h : l[k]? = some x) : withoutR (l.take (k + 1)) p = withoutR (l.take k) p ++ (if x.path = p then [] else [x]) := by
  rw [take_one h]
  unfold withoutR
  rw [List.filter_append]
  by_cases e : x.path = p <;> simp [e]
theorem below_one (l : List It) (p : Str) {k : Nat} {x : It} (h : l[k]? = some x) : belowR (l.take (k + 1)) p = belowR (l.take k) p ++ (if x.path = p ∨ underB x.path p = false then [] else [x]) := by
  rw [take_one h]
  unfold belowR
  rw [List.filter_append]
  by_cases e : x.path = p
  · simp [e]
  · cases hu : underB x.path p <;> simp [e, hu]
theorem filter_take_len {q : It → Bool} (l : List It) (k : Nat) : ((l.take k).filter q).length ≤ l.length := Nat.le_trans (List.length_filter_le _ _) (by rw [List.length_take]; omega)

set_option maxRecDepth 100000 in
set_option maxHeartbeats 8000000 in
theorem rwithout_any (l : List It) (v : Value) (p : ByteArray) (w : World) (hv : RdI w v l) (hl : l.length ≤ 4000) : Calls Tryz.prog 53 #[.agg #[v], .string p] w fun e w' => ∃ v', e = .returned (.agg #[v']) ∧ OwnI w' w.heap.size v' (withoutR l p.data.toList) ∧ Below w.heap.size w w' := by
  obtain ⟨w1, hw1⟩ : ∃ z, z = (w.alloc (.cells #[v] 24)).alloc (.cells #[.slice none 0 0] 24) := ⟨_, rfl⟩
  have X : Hid (Box w1 w.heap.size 24 #[v]) := Lib.hid (by rw [hw1]; exact box_new.alloc _)
  obtain ⟨b4, hb4⟩ : ∃ z, z = w.heap.size + 1 := ⟨_, rfl⟩
  have X4 : Hid (Box w1 b4 24 #[.slice none 0 0]) := Lib.hid (by rw [hw1, hb4, show w.heap.size + 1 = (w.alloc (.cells #[v] 24)).heap.size from by simp]; exact box_new)
  have H4 : Hid (w.heap.size ≤ b4) := Lib.hid (by rw [hb4]; exact Nat.le_succ _)
  have HB1 : Hid (Below w.heap.size w w1) := Lib.hid (by rw [hw1]; exact bch (below_new _ _) (below_new _ _))
  have HV := Lib.hid (hv.on HB1.out)
  obtain ⟨a, c, rfl, hlc, hcm, _⟩ := hv.open
  obtain ⟨n, hn⟩ : ∃ n, n = l.length := ⟨_, rfl⟩
  rw [← hn] at HV X hlc hw1 hl ⊢
  have HN := Lib.hid hn
  have c0 := X.out.cell (k := 0) rfl
  obtain ⟨i0, hi, hz0, hz1, hz2⟩ := info_parts info35z
  have OS0 : Hid (OwnI w1 w1.heap.size (.slice none 0 0) []) := Lib.hid (World.ownsRow_nil _ _ _ _)
  clear hv hn
  unfold maxLen at hcm
  go_enter Tryz.func53, Tryz.ntmps53
  go_upto_region 1 with fail
  rw [← hw1, ← hb4]
  clear hw1 hb4
  go_wp2_with fail
  clear c0
  go_loopw [5, 11] (fun s i W => ∃ k : Nat, k ≤ n ∧ i = .int .i64 k ∧ Hid (OwnI W w1.heap.size s (withoutR (l.take k) p.data.toList)) ∧ Hid (Below w1.heap.size w1 W)) (fun s i _ => n - (Lib.intOf i).toNat)
  case atStart => exact ⟨0, Nat.zero_le _, rfl, OS0, Lib.hid (Below.refl _ _)⟩
  case round =>
    clear OS0
    obtain ⟨k, hk, rfl, HO, HBk⟩ := hrel
    obtain ⟨wq, hwq⟩ : ∃ q, q = wr := ⟨_, rfl⟩
    rw [← hwq] at HBk HO ⊢
    clear hwq
    obtain ⟨a3, c3, rfl, _, _⟩ := own_slice HO.out
    obtain ⟨m, hm⟩ : ∃ m, m = (withoutR (l.take k) p.data.toList).length := ⟨_, rfl⟩
    have hmb : m ≤ 4000 := by have := filter_take_len (q := fun y : It => !decide (y.path = p.data.toList)) l k; rw [hm]; unfold withoutR; rw [← HN.out] at this; omega
    rw [← hm] at HO ⊢
    have HM := Lib.hid hm
    clear hm
    by_cases hlt : k < n
    · obtain ⟨x, hx⟩ : ∃ x, l[k]? = some x := ⟨_, List.getElem?_eq_getElem (by rw [← HN.out]; exact hlt)⟩
      obtain ⟨a', c', e, _, _, hc⟩ := (HV.out.on HBk.out).open
      rw [← HN.out] at e
      cases e
      obtain ⟨g, o, rfl, hg, hc⟩ := hc (by rw [← HN.out]; omega)
      obtain ⟨q0, q1, q2⟩ := hc k x hx
      have k1 : (k : Int) < (n : Int) := by omega
      have k2 : (0 : Int) ≤ (k : Int) := by omega
      have k4 : IntKind.i64.wrap ((k : Int) + 1) = (k : Int) + 1 := IntWalk.i64_in _ (by omega)
      obtain ⟨w5, hw5⟩ : ∃ q, q = wq.alloc (.cells #[.string ⟨x.path.toArray⟩, .int .i64 x.kind, .string ⟨x.data.toArray⟩] 33) := ⟨_, rfl⟩
      have hb5 : Below wq.heap.size wq w5 := by rw [hw5]; exact below_new _ _
      have HX5 : Hid (Box w5 wq.heap.size 33 x.arr) := Lib.hid (by rw [hw5]; exact box_new)
      have HB5 : Hid (Below w1.heap.size w1 w5) := Lib.hid (bch HBk.out hb5)
      replace HO := Lib.hid (HO.out.on hb5)
      have HX := Lib.hid hx
      clear hc hx hb5 hg
      go_upto_region 5 with fail
      obtain ⟨b7, hb7⟩ : ∃ q, q = wq.heap.size := ⟨_, rfl⟩
      rw [← hb7] at HX5 ⊢
      rw [← hw5]
      clear hw5 hb7 q0 q1 q2 HBk
      obtain ⟨d0, d1, d2⟩ := HX5.out.it
      by_cases he : x.path = p.data.toList
      · have t1 : (x.path == p.toList) = true := by rw [Lib.toList_data]; simp [he]
        have HR : Hid (withoutR (l.take (k + 1)) p.data.toList = withoutR (l.take k) p.data.toList) := Lib.hid (by rw [without_one l _ HX.out, if_pos he, List.append_nil])
        clear he
        go_wp2_with fail
        go_roundw
        case rel => exact ⟨k + 1, hlt, by go_num, Lib.hid (by rw [HR.out]; exact HO.out), HB5⟩
        case measure => simp [Lib.intOf]; omega
      · have t1 : (x.path == p.toList) = false := by rw [Lib.toList_data]; simp [he]
        have HR : Hid (withoutR (l.take (k + 1)) p.data.toList = withoutR (l.take k) p.data.toList ++ [x]) := Lib.hid (by rw [without_one l _ HX.out, if_neg he])
        clear he
        have HNW := Lib.hid (three_new w5 x)
        have HOF : Hid (w5.ownsRow w1.heap.size 33 3 (.slice a3 m c3) m (flatI (withoutR (l.take k) p.data.toList))) := Lib.hid (by have := HO.out; unfold OwnI at this; rw [← HM.out] at this; exact this)
        have HBQ := Lib.hid HO.out.blk
        have hws : w1.heap.size ≤ w5.heap.size := HB5.out.size
        go_wp2_with (at_builtin; refine wpList_append_own _ rfl _ _ 22 rfl w1.heap.size 33 i0 (.agg It.nil.arr) 3 40 Tryz.underlying22 hi hz0 hz1 hz2 rfl (by decide) _ _ _ rfl (HOF.out.alloc _) ⟨w5.heap.size, 0, none⟩ 1 1 x.cells rfl rfl HNW.out (by simp [It.cells, Value.oneCell']) (by unfold maxLen; omega) (by omega) (by simp; omega) ?_)
        intro v9 w9 hown9 hgrow9 _
        have HO9 : Hid (OwnI w9 w1.heap.size v9 (withoutR (l.take k) p.data.toList ++ [x])) := Lib.hid (OwnI.push HM.out hown9)
        have hb9 : Below w1.heap.size w5 w9 := ((Below.refl _ _).alloc hws _).grown hgrow9 (by simp; omega) HBQ.out
        clear hown9 hgrow9
        go_wp2_with fail
        go_roundw
        case rel => exact ⟨k + 1, hlt, by go_num, Lib.hid (by rw [HR.out]; exact HO9.out), Lib.hid (HB5.out.trans hb9)⟩
        case measure => simp [Lib.intOf]; omega
    · have k1 : ¬ ((k : Int) < (n : Int)) := by omega
      have HR : Hid (withoutR l p.data.toList = withoutR (l.take k) p.data.toList) := Lib.hid (by rw [List.take_of_length_le (by have := HN.out; omega)])
      have X7 := Lib.hid (X4.out.on HBk.out)
      have HB7 := Lib.hid (bch HB1.out HBk.out)
      have bx := b24x a3 m c3
      go_wp2_with (refine wpList_store_row rfl 24 (.tmp 4) (.tmp 25) rfl b4 #[.slice a3 m c3] rfl rfl 24 _ X7.out (info24 _) rfl (slice_one _ _ _) ?_)
      exact bodyPost_ret (end_tree1 rfl _ (X7.out.row _) rfl) rfl ⟨_, rfl, by rw [HR.out]; exact own_base (own_row HO.out X7.out) HB1.out.size, below_row HB7.out H4.out _⟩


set_option maxRecDepth 100000 in
set_option maxHeartbeats 8000000 in
theorem rbelow_any (l : List It) (v : Value) (p : ByteArray) (w : World) (hv : RdI w v l) (hl : l.length ≤ 4000) (hsz : ∀ y ∈ l, y.path.length ≤ 2000000) (hp : p.size ≤ 2000000) : Calls Tryz.prog 21 #[.agg #[v], .string p] w fun e w' => ∃ v', e = .returned (v') ∧ OwnI w' w.heap.size v' (belowR l p.data.toList) ∧ Below w.heap.size w w' := by
  obtain ⟨w1, hw1⟩ : ∃ z, z = w.alloc (.cells #[v] 24) := ⟨_, rfl⟩
  have X : Hid (Box w1 w.heap.size 24 #[v]) := Lib.hid (by rw [hw1]; exact box_new)
  have HB1 : Hid (Below w.heap.size w w1) := Lib.hid (by rw [hw1]; exact below_new _ _)
  have HV := Lib.hid (hv.on HB1.out)
  obtain ⟨a, c, rfl, hlc, hcm, _⟩ := hv.open
  obtain ⟨n, hn⟩ : ∃ n, n = l.length := ⟨_, rfl⟩
  rw [← hn] at HV X hlc hw1 hl ⊢
  have HN := Lib.hid hn
  have HSZ := Lib.hid hsz
  have HP := Lib.hid hp
  have c0 := X.out.cell (k := 0) rfl
  obtain ⟨i0, hi, hz0, hz1, hz2⟩ := info_parts info35z
  have OS0 : Hid (OwnI w1 w1.heap.size (.slice none 0 0) []) := Lib.hid (World.ownsRow_nil _ _ _ _)
  clear hv hn hsz hp
  unfold maxLen at hcm
  go_enter Tryz.func21, Tryz.ntmps21
  go_upto_region 1 with fail
  rw [← hw1]
  clear hw1
  go_wp2_with fail
  clear c0
  go_loopw [5, 11] (fun s i W => ∃ k : Nat, k ≤ n ∧ i = .int .i64 k ∧ Hid (OwnI W w1.heap.size s (belowR (l.take k) p.data.toList)) ∧ Hid (Below w1.heap.size w1 W)) (fun s i _ => n - (Lib.intOf i).toNat)
  case atStart => exact ⟨0, Nat.zero_le _, rfl, OS0, Lib.hid (Below.refl _ _)⟩
  case round =>
    clear OS0
    obtain ⟨k, hk, rfl, HO, HBk⟩ := hrel
    obtain ⟨wq, hwq⟩ : ∃ q, q = wr := ⟨_, rfl⟩
    rw [← hwq] at HBk HO ⊢
    clear hwq
    obtain ⟨a3, c3, rfl, _, _⟩ := own_slice HO.out
    obtain ⟨m, hm⟩ : ∃ m, m = (belowR (l.take k) p.data.toList).length := ⟨_, rfl⟩
    have hmb : m ≤ 4000 := by have := filter_take_len (q := fun y : It => !decide (y.path = p.data.toList) && underB y.path p.data.toList) l k; rw [hm]; unfold belowR; rw [← HN.out] at this; omega
    rw [← hm] at HO ⊢
    have HM := Lib.hid hm
    clear hm
    by_cases hlt : k < n
    · obtain ⟨x, hx⟩ : ∃ x, l[k]? = some x := ⟨_, List.getElem?_eq_getElem (by rw [← HN.out]; exact hlt)⟩
      obtain ⟨a', c', e, _, _, hc⟩ := (HV.out.on HBk.out).open
      rw [← HN.out] at e
      cases e
      obtain ⟨g, o, rfl, hg, hc⟩ := hc (by rw [← HN.out]; omega)
      obtain ⟨q0, q1, q2⟩ := hc k x hx
      have k1 : (k : Int) < (n : Int) := by omega
      have k2 : (0 : Int) ≤ (k : Int) := by omega
      have k4 : IntKind.i64.wrap ((k : Int) + 1) = (k : Int) + 1 := IntWalk.i64_in _ (by omega)
      obtain ⟨w5, hw5⟩ : ∃ q, q = wq.alloc (.cells #[.string ⟨x.path.toArray⟩, .int .i64 x.kind, .string ⟨x.data.toArray⟩] 33) := ⟨_, rfl⟩
      have hb5 : Below wq.heap.size wq w5 := by rw [hw5]; exact below_new _ _
      have HX5 : Hid (Box w5 wq.heap.size 33 x.arr) := Lib.hid (by rw [hw5]; exact box_new)
      have HB5 : Hid (Below w1.heap.size w1 w5) := Lib.hid (bch HBk.out hb5)
      replace HO := Lib.hid (HO.out.on hb5)
      have HX := Lib.hid hx
      clear hc hx hb5 hg
      go_upto_region 5 with fail
      obtain ⟨b7, hb7⟩ : ∃ q, q = wq.heap.size := ⟨_, rfl⟩
      rw [← hb7] at HX5 ⊢
      rw [← hw5]
      clear hw5 hb7 q0 q1 q2 HBk
      obtain ⟨d0, d1, d2⟩ := HX5.out.it
      have HUN : Hid (Calls Tryz.prog 46 #[.string ⟨x.path.toArray⟩, .string p] w5 fun e w' => e = .returned (.bool (underB x.path p.data.toList)) ∧ Below w5.heap.size w5 w') := Lib.hid (runder_any ⟨x.path.toArray⟩ p (HSZ.out x (List.mem_of_getElem? HX.out)) HP.out w5)
      obtain ⟨u, hu⟩ : ∃ u, u = underB x.path p.data.toList := ⟨_, rfl⟩
      rw [← hu] at HUN
      have HU := Lib.hid hu
      clear hu
      by_cases he : x.path = p.data.toList
      · have t1 : (x.path == p.toList) = true := by rw [Lib.toList_data]; simp [he]
        have HR : Hid (belowR (l.take (k + 1)) p.data.toList = belowR (l.take k) p.data.toList) := Lib.hid (by rw [below_one l _ HX.out, if_pos (.inl he), List.append_nil])
        clear he
        go_wp2_with fail
        go_roundw
        case rel => exact ⟨k + 1, hlt, by go_num, Lib.hid (by rw [HR.out]; exact HO.out), HB5⟩
        case measure => simp [Lib.intOf]; omega
      · have t1 : (x.path == p.toList) = false := by rw [Lib.toList_data]; simp [he]
        have HE := Lib.hid he
        clear he
        go_wp2_with fail
        refine HUN.out.mono ?_
        rintro e w6 ⟨rfl, hb⟩
        replace HO := Lib.hid (HO.out.on hb)
        have HX6 := Lib.hid (HX5.out.on hb)
        have HB6 := Lib.hid (bch HB5.out hb)
        clear hb HUN d0 d1 d2 HX5 HB5 t1
        obtain ⟨d0, d1, d2⟩ := HX6.out.it
        cases u with
        | false =>
          have HR : Hid (belowR (l.take (k + 1)) p.data.toList = belowR (l.take k) p.data.toList) := Lib.hid (by rw [below_one l _ HX.out, if_pos (.inr HU.out.symm), List.append_nil])
          go_wp2_with fail
          go_roundw
          case rel => exact ⟨k + 1, hlt, by go_num, Lib.hid (by rw [HR.out]; exact HO.out), HB6⟩
          case measure => simp [Lib.intOf]; omega
        | true =>
          have HR : Hid (belowR (l.take (k + 1)) p.data.toList = belowR (l.take k) p.data.toList ++ [x]) := Lib.hid (by rw [below_one l _ HX.out, if_neg (by rintro (h | h); exact HE.out h; rw [← HU.out] at h; cases h)])
          have HNW := Lib.hid (three_new w6 x)
          have HOF : Hid (w6.ownsRow w1.heap.size 33 3 (.slice a3 m c3) m (flatI (belowR (l.take k) p.data.toList))) := Lib.hid (by have := HO.out; unfold OwnI at this; rw [← HM.out] at this; exact this)
          have HBQ := Lib.hid HO.out.blk
          have hws : w1.heap.size ≤ w6.heap.size := HB6.out.size
          go_wp2_with (at_builtin; refine wpList_append_own _ rfl _ _ 22 rfl w1.heap.size 33 i0 (.agg It.nil.arr) 3 40 Tryz.underlying22 hi hz0 hz1 hz2 rfl (by decide) _ _ _ rfl (HOF.out.alloc _) ⟨w6.heap.size, 0, none⟩ 1 1 x.cells rfl rfl HNW.out (by simp [It.cells, Value.oneCell']) (by unfold maxLen; omega) (by omega) (by simp; omega) ?_)
          intro v9 w9 hown9 hgrow9 _
          have HO9 : Hid (OwnI w9 w1.heap.size v9 (belowR (l.take k) p.data.toList ++ [x])) := Lib.hid (OwnI.push HM.out hown9)
          have hb9 : Below w1.heap.size w6 w9 := ((Below.refl _ _).alloc hws _).grown hgrow9 (by simp; omega) HBQ.out
          clear hown9 hgrow9
          go_wp2_with fail
          go_roundw
          case rel => exact ⟨k + 1, hlt, by go_num, Lib.hid (by rw [HR.out]; exact HO9.out), Lib.hid (HB6.out.trans hb9)⟩
          case measure => simp [Lib.intOf]; omega
    · have k1 : ¬ ((k : Int) < (n : Int)) := by omega
      have HR : Hid (belowR l p.data.toList = belowR (l.take k) p.data.toList) := Lib.hid (by rw [List.take_of_length_le (by have := HN.out; omega)])
      have HB7 := Lib.hid (bch HB1.out HBk.out)
      go_wp2_with fail
      go_ret
      exact ⟨_, rfl, by rw [HR.out]; exact own_base HO.out HB1.out.size, HB7.out⟩
end Go.Proofs.YtjbbnecegomkcaaGreatDoor

namespace Go.Proofs.YtjbbnecegomkcaaGreatDoor
open Go.RowKit Go.Shelf

theorem with_step {l : List It} {x y : It} {k : Nat} {s : List It × Bool} (h : l[k]? = some y) (hs : (l.take k).foldl (wstep x) ([], false) = s) : (l.take (k + 1)).foldl (wstep x) ([], false) = wstep x s y := by
  rw [take_one h, List.foldl_append, hs]; rfl
theorem wstep_len (x y : It) (s : List It × Bool) : (wstep x s y).1.length ≤ s.1.length + 2 := by
  unfold wstep
  split <;> split <;> simp
theorem keeps_box {w w' : World} {B g : Nat} {t : TypeId} {cs : Array Value} (h : Box w g t cs) (hg : g < B) (hb : Below B w w') : Box w' g t cs := h.below hb hg
set_option maxRecDepth 100000 in
set_option maxHeartbeats 16000000 in
theorem rwith_any (l : List It) (v : Value) (x : It) (w : World) (hv : RdI w v l) (hl : l.length ≤ 4000) (hsz : ∀ y ∈ l, y.path.length ≤ 2000000) (hx : x.path.length ≤ 2000000) :
    Calls Tryz.prog 44 #[.agg #[v], .agg #[.string ⟨x.path.toArray⟩, .int .i64 x.kind, .string ⟨x.data.toArray⟩]] w fun e w' => ∃ v', e = .returned (.agg #[v']) ∧ OwnI w' w.heap.size v' (withR l x) ∧ Below w.heap.size w w' := by
  obtain ⟨w1, hw1⟩ : ∃ z, z = ((w.alloc (.cells #[v] 24)).alloc (.cells #[.string ⟨x.path.toArray⟩, .int .i64 x.kind, .string ⟨x.data.toArray⟩] 33)).alloc (.cells #[.slice none 0 0] 24) := ⟨_, rfl⟩
  obtain ⟨b2, hb2⟩ : ∃ z, z = w.heap.size := ⟨_, rfl⟩
  have X2 : Hid (Box w1 b2 24 #[v]) := Lib.hid (by rw [hw1, hb2]; exact (box_new.alloc _).alloc _)
  have X3 : Hid (Box w1 (b2 + 1) 33 x.arr) := Lib.hid (by rw [hw1, hb2, show w.heap.size + 1 = (w.alloc (.cells #[v] 24)).heap.size from by simp]; exact box_new.alloc _)
  have X4 : Hid (Box w1 (b2 + 1 + 1) 24 #[.slice none 0 0]) := Lib.hid (by rw [hw1, hb2, show w.heap.size + 1 + 1 = ((w.alloc (.cells #[v] 24)).alloc (.cells #[.string ⟨x.path.toArray⟩, .int .i64 x.kind, .string ⟨x.data.toArray⟩] 33)).heap.size from by simp]; exact box_new)
  have HB1 : Hid (Below w.heap.size w w1) := Lib.hid (by rw [hw1]; exact bch (bch (below_new _ _) (below_new _ _)) (below_new _ _))
  have H4 : Hid (w.heap.size ≤ b2 + 1 + 1) := Lib.hid (by omega)
  have HV := Lib.hid (hv.on HB1.out)
  obtain ⟨a, c, rfl, hlc, hcm, _⟩ := hv.open
  obtain ⟨n, hn⟩ : ∃ n, n = l.length := ⟨_, rfl⟩
  rw [← hn] at HV X2 hlc hw1 hl ⊢
  have HN := Lib.hid hn
  have HSZ := Lib.hid hsz
  have HXL := Lib.hid hx
  have HBE := Lib.hid hb2
  have c0 := X2.out.cell (k := 0) rfl
  obtain ⟨i0, hi, hz0, hz1, hz2⟩ := info_parts info35z
  have OS0 : Hid (OwnI w1 w1.heap.size (.slice none 0 0) []) := Lib.hid (World.ownsRow_nil _ _ _ _)
  clear hv hn hsz hx hb2
  unfold maxLen at hcm
  go_enter Tryz.func44, Tryz.ntmps44
  go_upto_region 1 with fail
  rw [← HBE.out, ← hw1]
  clear hw1
  go_wp2_with fail
  clear c0
  go_loopw [5, 6, 12] (fun s q i W => ∃ (k : Nat) (o : List It) (ld : Bool), k ≤ n ∧ i = .int .i64 k ∧ q = .bool ld ∧ Hid (o.length ≤ 2 * k) ∧ Hid ((l.take k).foldl (wstep x) ([], false) = (o, ld)) ∧ Hid (OwnI W w1.heap.size s o) ∧ Hid (Below w1.heap.size w1 W)) (fun s q i _ => n - (Lib.intOf i).toNat)
  case atStart => exact ⟨0, [], false, Nat.zero_le _, rfl, rfl, Lib.hid (Nat.zero_le _), Lib.hid rfl, OS0, Lib.hid (Below.refl _ _)⟩
  case round =>
    clear OS0
    obtain ⟨k, out, ld, hk, rfl, rfl, HOL, HF, HO, HBk⟩ := hrel
    obtain ⟨wq, hwq⟩ : ∃ q, q = wr := ⟨_, rfl⟩
    rw [← hwq] at HBk HO ⊢
    clear hwq
    obtain ⟨a3, c3, rfl, _, _⟩ := own_slice HO.out
    obtain ⟨m, hm⟩ : ∃ m, m = out.length := ⟨_, rfl⟩
    have hmb : m ≤ 8000 := by have := HOL.out; omega
    rw [← hm] at HO ⊢
    have HM := Lib.hid hm
    clear hm
    by_cases hlt : k < n
    · obtain ⟨y, hy⟩ : ∃ y, l[k]? = some y := ⟨_, List.getElem?_eq_getElem (by rw [← HN.out]; exact hlt)⟩
      obtain ⟨a', c', e, _, _, hc⟩ := (HV.out.on HBk.out).open
      rw [← HN.out] at e
      cases e
      obtain ⟨g, o, rfl, hg, hc⟩ := hc (by rw [← HN.out]; omega)
      obtain ⟨q0, q1, q2⟩ := hc k y hy
      have k1 : (k : Int) < (n : Int) := by omega
      have k2 : (0 : Int) ≤ (k : Int) := by omega
      have k4 : IntKind.i64.wrap ((k : Int) + 1) = (k : Int) + 1 := IntWalk.i64_in _ (by omega)
      obtain ⟨w5, hw5⟩ : ∃ q, q = wq.alloc (.cells #[.string ⟨y.path.toArray⟩, .int .i64 y.kind, .string ⟨y.data.toArray⟩] 33) := ⟨_, rfl⟩
      have hb5 : Below wq.heap.size wq w5 := by rw [hw5]; exact below_new _ _
      have HY5 : Hid (Box w5 wq.heap.size 33 y.arr) := Lib.hid (by rw [hw5]; exact box_new)
      have HB5 : Hid (Below w1.heap.size w1 w5) := Lib.hid (bch HBk.out hb5)
      have HY : Hid ((l.take (k + 1)).foldl (wstep x) ([], false) = wstep x (out, ld) y) := Lib.hid (with_step hy HF.out)
      have HSY : Hid (y.path.length ≤ 2000000) := Lib.hid (HSZ.out y (List.mem_of_getElem? hy))
      have HNB : Hid (some wq.heap.size ≠ (Value.slice a3 m c3).ownBlock) := Lib.hid (fun e => own_apart HO.out e.symm)
      replace HO := Lib.hid (HO.out.on hb5)
      clear hc hy hb5 hg
      go_upto_region 6 with fail
      obtain ⟨b7, hb7⟩ : ∃ q, q = wq.heap.size := ⟨_, rfl⟩
      rw [← hb7] at HY5 HNB ⊢
      rw [← hw5]
      clear hw5 hb7 q0 q1 q2 HBk
      cases ld with
      | true =>
        have X35 := Lib.hid (X3.out.on HB5.out)
        obtain ⟨x0, x1, x2⟩ := X35.out.it
        obtain ⟨d0, d1, d2⟩ := HY5.out.it
        by_cases he : y.path = x.path
        · have t1 : (y.path == x.path) = true := by simp [he]
          have HR : Hid (wstep x (out, true) y = (out, true)) := Lib.hid (by unfold wstep; rw [if_pos he]; simp)
          clear he
          go_wp2_with fail
          go_roundw
          case rel => exact ⟨k + 1, out, true, hlt, by go_num, rfl, Lib.hid (by have := HOL.out; have := wstep_len x y (out, true); rw [HR.out] at this; simp only at this; omega), Lib.hid (by rw [HY.out, HR.out]), HO, HB5⟩
          case measure => simp [Lib.intOf]; omega
        · have t1 : (y.path == x.path) = false := by simp [he]
          have HR : Hid (wstep x (out, true) y = (out ++ [y], true)) := Lib.hid (by unfold wstep; rw [if_neg he]; simp)
          clear he
          have HNW9 := Lib.hid (three_new w5 y)
          have HOF9 : Hid (w5.ownsRow w1.heap.size 33 3 (.slice a3 m c3) m (flatI (out))) := Lib.hid (by have := HO.out; unfold OwnI at this; rw [← HM.out] at this; exact this)
          have HBQ9 := Lib.hid HO.out.blk
          have hws9 : w1.heap.size ≤ w5.heap.size := HB5.out.size
          go_wp2_with (at_builtin; refine wpList_append_own _ rfl _ _ 22 rfl w1.heap.size 33 i0 (.agg It.nil.arr) 3 40 Tryz.underlying22 hi hz0 hz1 hz2 rfl (by decide) _ _ _ rfl (HOF9.out.alloc _) ⟨w5.heap.size, 0, none⟩ 1 1 y.cells rfl rfl HNW9.out (by simp [It.cells, Value.oneCell']) (by unfold maxLen; omega) (by omega) (by simp; omega) ?_)
          intro v9 w9 hown9 hgrow9 _
          have HO9 : Hid (OwnI w9 w1.heap.size v9 (out ++ [y])) := Lib.hid (OwnI.push HM.out hown9)
          have HB9 : Hid (Below w1.heap.size w1 w9) := Lib.hid (HB5.out.trans (((Below.refl _ _).alloc hws9 _).grown hgrow9 (by simp; omega) HBQ9.out))
          clear hown9 hgrow9 hws9
          go_wp2_with fail
          go_roundw
          case rel => exact ⟨k + 1, out ++ [y], true, hlt, by go_num, rfl, Lib.hid (by have := HOL.out; have := wstep_len x y (out, true); rw [HR.out] at this; simp only at this; omega), Lib.hid (by rw [HY.out, HR.out]), HO9, HB9⟩
          case measure => simp [Lib.intOf]; omega
      | false =>
        obtain ⟨cm, hcm2⟩ : ∃ z, z = cmpL x.path y.path := ⟨_, rfl⟩
        have HCM : Hid (Calls Tryz.prog 40 #[.string ⟨x.path.toArray⟩, .string ⟨y.path.toArray⟩] w5 fun e w' => e = .returned (.int .i64 cm) ∧ Below w5.heap.size w5 w') := Lib.hid (by rw [hcm2]; exact rcmp_any ⟨x.path.toArray⟩ ⟨y.path.toArray⟩ HXL.out HSY.out w5)
        have HCX := Lib.hid hcm2
        clear hcm2
        have x0 := (X3.out.on HB5.out).it.c0
        have d0 := HY5.out.it.c0
        go_wp2_with fail
        refine HCM.out.mono ?_
        rintro e w6 ⟨rfl, hb⟩
        replace HO := Lib.hid (HO.out.on hb)
        have HY6 := Lib.hid (HY5.out.on hb)
        have HB6 := Lib.hid (bch HB5.out hb)
        have X36 := Lib.hid (X3.out.on HB6.out)
        clear hb HCM x0 d0 HY5 HB5
        obtain ⟨x0, x1, x2⟩ := X36.out.it
        obtain ⟨d0, d1, d2⟩ := HY6.out.it
        by_cases h0 : cm ≤ 0
        · have e0 : decide (cm ≤ 0) = true := decide_eq_true h0
          have HC0 : Hid (cmpL x.path y.path ≤ 0) := Lib.hid (by rw [← HCX.out]; exact h0)
          clear h0
          have HNW8 := Lib.hid (three_new w6 x)
          have HOF8 : Hid (w6.ownsRow w1.heap.size 33 3 (.slice a3 m c3) m (flatI (out))) := Lib.hid (by have := HO.out; unfold OwnI at this; rw [← HM.out] at this; exact this)
          have HBQ8 := Lib.hid HO.out.blk
          have hws8 : w1.heap.size ≤ w6.heap.size := HB6.out.size
          go_wp2_with (at_builtin; refine wpList_append_own _ rfl _ _ 22 rfl w1.heap.size 33 i0 (.agg It.nil.arr) 3 40 Tryz.underlying22 hi hz0 hz1 hz2 rfl (by decide) _ _ _ rfl (HOF8.out.alloc _) ⟨w6.heap.size, 0, none⟩ 1 1 x.cells rfl rfl HNW8.out (by simp [It.cells, Value.oneCell']) (by unfold maxLen; omega) (by omega) (by simp; omega) ?_)
          intro v8 w8 hown8 hgrow8 _
          have HO8 : Hid (OwnI w8 w1.heap.size v8 (out ++ [x])) := Lib.hid (OwnI.push HM.out hown8)
          have HB8 : Hid (Below w1.heap.size w1 w8) := Lib.hid (HB6.out.trans (((Below.refl _ _).alloc hws8 _).grown hgrow8 (by simp; omega) HBQ8.out))
          have HY8 : Hid (Box w8 b7 33 y.arr) := Lib.hid ((HY6.out.alloc _).kept hgrow8 HNB.out)
          clear hown8 hgrow8 hws8
          obtain ⟨a8, c8, rfl, _, _⟩ := own_slice HO8.out
          obtain ⟨m8, hm8⟩ : ∃ m, m = (out ++ [x]).length := ⟨_, rfl⟩
          have hmb8 : m8 ≤ 8001 := by rw [hm8, List.length_append, ← HM.out]; simp; omega
          rw [← hm8] at HO8 ⊢
          have HM8 := Lib.hid hm8
          clear hm8
          have X38 := Lib.hid (X3.out.on HB8.out)
          clear x0 x1 x2 d0 d1 d2
          obtain ⟨x0, x1, x2⟩ := X38.out.it
          obtain ⟨d0, d1, d2⟩ := HY8.out.it
          by_cases he : y.path = x.path
          · have t1 : (y.path == x.path) = true := by simp [he]
            have HR : Hid (wstep x (out, false) y = (out ++ [x], true)) := Lib.hid (by unfold wstep; rw [if_pos he, if_pos ⟨rfl, HC0.out⟩])
            clear he
            go_wp2_with fail
            go_roundw
            case rel => exact ⟨k + 1, out ++ [x], true, hlt, by go_num, rfl, Lib.hid (by have := HOL.out; have := wstep_len x y (out, false); rw [HR.out] at this; simp only at this; omega), Lib.hid (by rw [HY.out, HR.out]), HO8, HB8⟩
            case measure => simp [Lib.intOf]; omega
          · have t1 : (y.path == x.path) = false := by simp [he]
            have HR : Hid (wstep x (out, false) y = (out ++ [x] ++ [y], true)) := Lib.hid (by unfold wstep; rw [if_neg he, if_pos ⟨rfl, HC0.out⟩])
            clear he
            have HNW9 := Lib.hid (three_new w8 y)
            have HOF9 : Hid (w8.ownsRow w1.heap.size 33 3 (.slice a8 m8 c8) m8 (flatI (out ++ [x]))) := Lib.hid (by have := HO8.out; unfold OwnI at this; rw [← HM8.out] at this; exact this)
            have HBQ9 := Lib.hid HO8.out.blk
            have hws9 : w1.heap.size ≤ w8.heap.size := HB8.out.size
            go_wp2_with (at_builtin; refine wpList_append_own _ rfl _ _ 22 rfl w1.heap.size 33 i0 (.agg It.nil.arr) 3 40 Tryz.underlying22 hi hz0 hz1 hz2 rfl (by decide) _ _ _ rfl (HOF9.out.alloc _) ⟨w8.heap.size, 0, none⟩ 1 1 y.cells rfl rfl HNW9.out (by simp [It.cells, Value.oneCell']) (by unfold maxLen; omega) (by omega) (by simp; omega) ?_)
            intro v9 w9 hown9 hgrow9 _
            have HO9 : Hid (OwnI w9 w1.heap.size v9 (out ++ [x] ++ [y])) := Lib.hid (OwnI.push HM8.out hown9)
            have HB9 : Hid (Below w1.heap.size w1 w9) := Lib.hid (HB8.out.trans (((Below.refl _ _).alloc hws9 _).grown hgrow9 (by simp; omega) HBQ9.out))
            clear hown9 hgrow9 hws9
            go_wp2_with fail
            go_roundw
            case rel => exact ⟨k + 1, out ++ [x] ++ [y], true, hlt, by go_num, rfl, Lib.hid (by have := HOL.out; have := wstep_len x y (out, false); rw [HR.out] at this; simp only at this; omega), Lib.hid (by rw [HY.out, HR.out]), HO9, HB9⟩
            case measure => simp [Lib.intOf]; omega
        · have e0 : decide (cm ≤ 0) = false := decide_eq_false h0
          have HC0 : Hid (¬ cmpL x.path y.path ≤ 0) := Lib.hid (by rw [← HCX.out]; exact h0)
          clear h0
          by_cases he : y.path = x.path
          · have t1 : (y.path == x.path) = true := by simp [he]
            have HR : Hid (wstep x (out, false) y = (out, false)) := Lib.hid (by unfold wstep; rw [if_pos he, if_neg (fun h => HC0.out h.2)])
            clear he
            go_wp2_with fail
            go_roundw
            case rel => exact ⟨k + 1, out, false, hlt, by go_num, rfl, Lib.hid (by have := HOL.out; have := wstep_len x y (out, false); rw [HR.out] at this; simp only at this; omega), Lib.hid (by rw [HY.out, HR.out]), HO, HB6⟩
            case measure => simp [Lib.intOf]; omega
          · have t1 : (y.path == x.path) = false := by simp [he]
            have HR : Hid (wstep x (out, false) y = (out ++ [y], false)) := Lib.hid (by unfold wstep; rw [if_neg he, if_neg (fun h => HC0.out h.2)])
            clear he
            have HNW9 := Lib.hid (three_new w6 y)
            have HOF9 : Hid (w6.ownsRow w1.heap.size 33 3 (.slice a3 m c3) m (flatI (out))) := Lib.hid (by have := HO.out; unfold OwnI at this; rw [← HM.out] at this; exact this)
            have HBQ9 := Lib.hid HO.out.blk
            have hws9 : w1.heap.size ≤ w6.heap.size := HB6.out.size
            go_wp2_with (at_builtin; refine wpList_append_own _ rfl _ _ 22 rfl w1.heap.size 33 i0 (.agg It.nil.arr) 3 40 Tryz.underlying22 hi hz0 hz1 hz2 rfl (by decide) _ _ _ rfl (HOF9.out.alloc _) ⟨w6.heap.size, 0, none⟩ 1 1 y.cells rfl rfl HNW9.out (by simp [It.cells, Value.oneCell']) (by unfold maxLen; omega) (by omega) (by simp; omega) ?_)
            intro v9 w9 hown9 hgrow9 _
            have HO9 : Hid (OwnI w9 w1.heap.size v9 (out ++ [y])) := Lib.hid (OwnI.push HM.out hown9)
            have HB9 : Hid (Below w1.heap.size w1 w9) := Lib.hid (HB6.out.trans (((Below.refl _ _).alloc hws9 _).grown hgrow9 (by simp; omega) HBQ9.out))
            clear hown9 hgrow9 hws9
            go_wp2_with fail
            go_roundw
            case rel => exact ⟨k + 1, out ++ [y], false, hlt, by go_num, rfl, Lib.hid (by have := HOL.out; have := wstep_len x y (out, false); rw [HR.out] at this; simp only at this; omega), Lib.hid (by rw [HY.out, HR.out]), HO9, HB9⟩
            case measure => simp [Lib.intOf]; omega
    · have k1 : ¬ ((k : Int) < (n : Int)) := by omega
      have HFL : Hid (l.foldl (wstep x) ([], false) = (out, ld)) := Lib.hid (by have := HF.out; rw [List.take_of_length_le (by have := HN.out; omega)] at this; exact this)
      cases ld with
      | true =>
        have HR : Hid (withR l x = out) := Lib.hid (by unfold withR wend; rw [HFL.out, if_pos rfl])
        have X7 := Lib.hid (X4.out.on HBk.out)
        have HB7 := Lib.hid (bch HB1.out HBk.out)
        have bx := b24x a3 m c3
        go_wp2_with (refine wpList_store_row rfl 24 (.tmp 4) (.tmp 47) rfl (b2 + 1 + 1) #[.slice a3 m c3] rfl rfl 24 _ X7.out (info24 _) rfl (slice_one _ _ _) ?_)
        exact bodyPost_ret (end_tree1 rfl _ (X7.out.row _) rfl) rfl ⟨_, rfl, by rw [HR.out]; exact own_base (own_row HO.out X7.out) HB1.out.size, below_row HB7.out H4.out _⟩
      | false =>
        have HR : Hid (withR l x = out ++ [x]) := Lib.hid (by unfold withR wend; rw [HFL.out, if_neg (by simp)])
        have X37 := Lib.hid (X3.out.on HBk.out)
        obtain ⟨x0, x1, x2⟩ := X37.out.it
        have HNW9 := Lib.hid (three_new wq x)
        have HOF9 : Hid (wq.ownsRow w1.heap.size 33 3 (.slice a3 m c3) m (flatI (out))) := Lib.hid (by have := HO.out; unfold OwnI at this; rw [← HM.out] at this; exact this)
        have HBQ9 := Lib.hid HO.out.blk
        have hws9 : w1.heap.size ≤ wq.heap.size := HBk.out.size
        go_wp2_with (at_builtin; refine wpList_append_own _ rfl _ _ 22 rfl w1.heap.size 33 i0 (.agg It.nil.arr) 3 40 Tryz.underlying22 hi hz0 hz1 hz2 rfl (by decide) _ _ _ rfl (HOF9.out.alloc _) ⟨wq.heap.size, 0, none⟩ 1 1 x.cells rfl rfl HNW9.out (by simp [It.cells, Value.oneCell']) (by unfold maxLen; omega) (by omega) (by simp; omega) ?_)
        intro v9 w9 hown9 hgrow9 _
        have HO9 : Hid (OwnI w9 w1.heap.size v9 (out ++ [x])) := Lib.hid (OwnI.push HM.out hown9)
        have HB9 : Hid (Below w1.heap.size w1 w9) := Lib.hid (HBk.out.trans (((Below.refl _ _).alloc hws9 _).grown hgrow9 (by simp; omega) HBQ9.out))
        clear hown9 hgrow9 hws9
        obtain ⟨a8, c8, rfl, _, _⟩ := own_slice HO9.out
        obtain ⟨m8, hm8⟩ : ∃ m, m = (out ++ [x]).length := ⟨_, rfl⟩
        rw [← hm8] at HO9 ⊢
        clear hm8
        have X7 := Lib.hid (X4.out.on HB9.out)
        have HB7 := Lib.hid (bch HB1.out HB9.out)
        have bx := b24x a8 m8 c8
        go_wp2_with (refine wpList_store_row rfl 24 (.tmp 4) (.tmp 47) rfl (b2 + 1 + 1) #[.slice a8 m8 c8] rfl rfl 24 _ X7.out (info24 _) rfl (slice_one _ _ _) ?_)
        exact bodyPost_ret (end_tree1 rfl _ (X7.out.row _) rfl) rfl ⟨_, rfl, by rw [HR.out]; exact own_base (own_row HO9.out X7.out) HB1.out.size, below_row HB7.out H4.out _⟩
end Go.Proofs.YtjbbnecegomkcaaGreatDoor

namespace Go.Proofs.YtjbbnecegomkcaaGreatDoor
open Go.RowKit Go.Shelf

theorem info59r {a b c : Value} : (Tryz.prog.info? 33).map (·.size) = some (#[a, b, c] : Array Value).size := by show _ = some 3; kernel_rfl
theorem ref_get (l : List It) (p : Str) : refG l p = ((getI l p).getD .nil, (getI l p).isSome) := by
  unfold refG getI
  by_cases h : p = [47]
  · rw [if_pos h, if_pos h]; rfl
  · rw [if_neg h, if_neg h]
    cases l.find? (fun x => x.path == p) <;> rfl
/-- What Get hands back, as a plain item and a plain bool. -/
theorem rget_is (l : List It) (v : Value) (p : Str) (w : World) (hv : RdI w v l) (hl : l.length ≤ 1000000) (y : It) (b : Bool) (hy : y = (getI l p).getD .nil) (hb : b = (getI l p).isSome) :
    Calls Tryz.prog 20 #[.agg #[v], .string ⟨p.toArray⟩] w fun e w' => e = .returned (.tuple #[.agg #[.string ⟨y.path.toArray⟩, .int .i64 y.kind, .string ⟨y.data.toArray⟩], .bool b]) ∧ Below w.heap.size w w' := by
  refine (rget_any l v ⟨p.toArray⟩ w hv hl).mono ?_
  rintro e w' ⟨rfl, hb'⟩
  refine ⟨?_, hb'⟩
  rw [show refG l (⟨p.toArray⟩ : ByteArray).data.toList = (y, b) from by rw [hy, hb]; exact ref_get l p]
  rfl
def dirB (l : List It) (p : Str) : Bool := match getI l p with
  | some d => decide (d.kind = 1)
  | none => false
theorem dir_no {l : List It} {p : Str} {b : Bool} (hb : b = (getI l p).isSome) (h : b = false) : dirB l p = false := by
  unfold dirB
  cases e : getI l p with
  | none => rfl
  | some d => rw [e, h] at hb; cases hb
theorem dir_yes {l : List It} {p : Str} {y : It} {b : Bool} (hb : b = (getI l p).isSome) (hy : y = (getI l p).getD .nil) (h : b = true) : dirB l p = decide (y.kind = 1) := by
  unfold dirB
  cases e : getI l p with
  | none => rw [e, h] at hb; cases hb
  | some d => rw [e] at hy; subst hy; rfl
theorem open_dir {l : List It} {p : Str} (h : dirB l (upL p) = true) : openM l p = 0 := by
  unfold dirB at h
  unfold openM
  cases e : getI l (upL p) with
  | none => rw [e] at h; cases h
  | some d => rw [e] at h; simp only at h ⊢; rw [if_pos (of_decide_eq_true h)]
theorem open_not {l : List It} {p : Str} {b : Bool} (h : dirB l (upL p) = false) (hb : b = (getI l (upL p)).isSome) : openM l p = if b = true then 161 else 4 := by
  unfold dirB at h
  unfold openM
  cases e : getI l (upL p) with
  | none => rw [e] at hb; subst hb; rfl
  | some d => rw [e] at h hb; subst hb; simp only at h ⊢; rw [if_neg (of_decide_eq_false h)]; rfl
set_option maxRecDepth 100000 in
set_option maxHeartbeats 4000000 in
theorem rdir_any (l : List It) (v : Value) (p : Str) (w : World) (hv : RdI w v l) (hl : l.length ≤ 1000000) : Calls Tryz.prog 99 #[.agg #[v], .string ⟨p.toArray⟩] w fun e w' => e = .returned (.bool (dirB l p)) ∧ Below w.heap.size w w' := by
  obtain ⟨w1, hw1⟩ : ∃ z, z = w.alloc (.cells #[v] 24) := ⟨_, rfl⟩
  have X : Hid (Box w1 w.heap.size 24 #[v]) := Lib.hid (by rw [hw1]; exact box_new)
  have HB : Hid (Below w.heap.size w w1) := Lib.hid (by rw [hw1]; exact below_new _ _)
  obtain ⟨y, hy⟩ : ∃ y, y = (getI l p).getD .nil := ⟨_, rfl⟩
  obtain ⟨b, hb⟩ : ∃ b, b = (getI l p).isSome := ⟨_, rfl⟩
  have HG := Lib.hid (rget_is l v p w1 (hv.on HB.out) hl y b hy hb)
  have HY := Lib.hid hy
  have HBB := Lib.hid hb
  obtain ⟨a, c, rfl, _⟩ := hv.open
  have c0 := X.out.cell (k := 0) rfl
  clear hv hy hb
  go_enter Tryz.func99, Tryz.ntmps99
  go_upto_region 1 with fail
  rw [← hw1]
  clear hw1
  go_wp2_with fail
  refine (HG.out).mono ?_
  rintro e w2 ⟨rfl, hb⟩
  obtain ⟨VE, hVE⟩ : ∃ z, z = (w2.alloc (.cells #[.string ⟨#[]⟩, .int .i64 0, .string ⟨#[]⟩] 33)).setRow w2.heap.size #[.string ⟨y.path.toArray⟩, .int .i64 y.kind, .string ⟨y.data.toArray⟩] := ⟨_, rfl⟩
  obtain ⟨bE, hbE⟩ : ∃ z, z = w2.heap.size := ⟨_, rfl⟩
  have hnE : Below w2.heap.size w2 VE := by rw [hVE]; exact below_row (below_new _ _) (Nat.le_refl _) _
  have XE : Hid (Box VE bE 33 #[.string ⟨y.path.toArray⟩, .int .i64 y.kind, .string ⟨y.data.toArray⟩]) := Lib.hid (by rw [hVE, hbE]; exact box_new.row _)
  have HVE := Lib.hid hVE
  have HWE := Lib.hid hbE
  have hcar : Below w1.heap.size w1 VE := bch hb hnE
  have HB := Lib.hid (bch HB.out hcar)
  clear hcar
  clear hb hnE c0
  cases b with
  | false =>
    have HR : Hid (dirB l p = false) := Lib.hid (dir_no HBB.out rfl)
    clear hVE hbE
    go_wp2_with (first | (refine wpList_store_row rfl 33 (.tmp 5) (.tmp 11) rfl w2.heap.size #[.string ⟨y.path.toArray⟩, .int .i64 y.kind, .string ⟨y.data.toArray⟩] rfl rfl 33 #[.string ⟨#[]⟩, .int .i64 0, .string ⟨#[]⟩] box_new info59r rfl (by simp [Value.oneCell']) ?_; rw [← HVE.out, ← HWE.out]) | fail)
    go_ret
    exact ⟨by rw [HR.out]; rfl, HB.out⟩
  | true =>
    have HR := Lib.hid (dir_yes HBB.out HY.out rfl)
    have p1 := XE.out.cell (k := 1) rfl
    by_cases hk : y.kind = 1
    · have t1 : (y.kind == 1) = true := by simp [hk]
      have HR2 : Hid (dirB l p = true) := Lib.hid (by rw [HR.out]; simp [hk])
      clear hk
      clear hVE hbE
      go_wp2_with (first | (refine wpList_store_row rfl 33 (.tmp 5) (.tmp 11) rfl w2.heap.size #[.string ⟨y.path.toArray⟩, .int .i64 y.kind, .string ⟨y.data.toArray⟩] rfl rfl 33 #[.string ⟨#[]⟩, .int .i64 0, .string ⟨#[]⟩] box_new info59r rfl (by simp [Value.oneCell']) ?_; rw [← HVE.out, ← HWE.out]) | fail)
      go_ret
      exact ⟨by rw [HR2.out]; rfl, HB.out⟩
    · have t1 : (y.kind == 1) = false := by simp [hk]
      have HR2 : Hid (dirB l p = false) := Lib.hid (by rw [HR.out]; simp [hk])
      clear hk
      clear hVE hbE
      go_wp2_with (first | (refine wpList_store_row rfl 33 (.tmp 5) (.tmp 11) rfl w2.heap.size #[.string ⟨y.path.toArray⟩, .int .i64 y.kind, .string ⟨y.data.toArray⟩] rfl rfl 33 #[.string ⟨#[]⟩, .int .i64 0, .string ⟨#[]⟩] box_new info59r rfl (by simp [Value.oneCell']) ?_; rw [← HVE.out, ← HWE.out]) | fail)
      go_ret
      exact ⟨by rw [HR2.out]; rfl, HB.out⟩
set_option maxRecDepth 100000 in
set_option maxHeartbeats 4000000 in
theorem ropen_any (l : List It) (v : Value) (p : Str) (w : World) (hv : RdI w v l) (hl : l.length ≤ 1000000) (hp : p.length ≤ 2000000) (er : Int) (her : openM l p = er) : Calls Tryz.prog 71 #[.agg #[v], .string ⟨p.toArray⟩] w fun e w' => e = .returned (.int .i64 er) ∧ Below w.heap.size w w' := by
  obtain ⟨w1, hw1⟩ : ∃ z, z = w.alloc (.cells #[v] 24) := ⟨_, rfl⟩
  have X : Hid (Box w1 w.heap.size 24 #[v]) := Lib.hid (by rw [hw1]; exact box_new)
  have HB : Hid (Below w.heap.size w w1) := Lib.hid (by rw [hw1]; exact below_new _ _)
  obtain ⟨u, hu⟩ : ∃ u, u = upL p := ⟨_, rfl⟩
  obtain ⟨y, hy⟩ : ∃ y, y = (getI l u).getD .nil := ⟨_, rfl⟩
  obtain ⟨b, hb⟩ : ∃ b, b = (getI l u).isSome := ⟨_, rfl⟩
  obtain ⟨db, hdb⟩ : ∃ d, d = dirB l u := ⟨_, rfl⟩
  have HV := Lib.hid (hv.on HB.out)
  have HUP : Hid (Calls Tryz.prog 41 #[.string ⟨p.toArray⟩] w1 fun e w' => e = .returned (.string ⟨u.toArray⟩) ∧ Below w1.heap.size w1 w') := Lib.hid (by rw [hu]; exact rup_any ⟨p.toArray⟩ hp w1)
  have HD : Hid (∀ W, Below w1.heap.size w1 W → Calls Tryz.prog 99 #[.agg #[v], .string ⟨u.toArray⟩] W fun e w' => e = .returned (.bool db) ∧ Below W.heap.size W w') := Lib.hid (fun W hW => by rw [hdb]; exact rdir_any l v u W (HV.out.on hW) hl)
  have HG : Hid (∀ W, Below w1.heap.size w1 W → Calls Tryz.prog 20 #[.agg #[v], .string ⟨u.toArray⟩] W fun e w' => e = .returned (.tuple #[.agg #[.string ⟨y.path.toArray⟩, .int .i64 y.kind, .string ⟨y.data.toArray⟩], .bool b]) ∧ Below W.heap.size W w') := Lib.hid (fun W hW => rget_is l v u W (HV.out.on hW) hl y b hy hb)
  have H0 : Hid (db = true → er = 0) := Lib.hid (fun h => by rw [← her]; rw [hdb, hu] at h; exact open_dir h)
  have H1 : Hid (db = false → er = if b = true then 161 else 4) := Lib.hid (fun h => by rw [← her]; rw [hdb, hu] at h; exact open_not h (by rw [hb, hu]))
  obtain ⟨a, c, rfl, _⟩ := hv.open
  clear hv hy hb hu hdb her
  go_enter Tryz.func71, Tryz.ntmps71
  go_upto_region 1 with fail
  rw [← hw1]
  clear hw1
  go_wp2_with fail
  refine HUP.out.mono ?_
  rintro e w2 ⟨rfl, hb⟩
  have HB2 := Lib.hid hb
  have c0 := (X.out.on hb).cell (k := 0) rfl
  clear hb HUP
  go_wp2_with fail
  refine (HD.out w2 HB2.out).mono ?_
  rintro e w3 ⟨rfl, hb⟩
  have HB3 := Lib.hid (bch HB2.out hb)
  clear hb HD c0
  cases db with
  | true =>
    have HR := Lib.hid (H0.out rfl)
    go_wp2_with fail
    go_ret
    exact ⟨by rw [HR.out]; rfl, bch HB.out HB3.out⟩
  | false =>
    have HR := Lib.hid (H1.out rfl)
    have c0 := (X.out.on HB3.out).cell (k := 0) rfl
    go_wp2_with fail
    clear c0
    refine (HG.out w3 HB3.out).mono ?_
    rintro e w4 ⟨rfl, hb⟩
    have HB := Lib.hid (bch HB.out HB3.out)
    obtain ⟨VE, hVE⟩ : ∃ z, z = (w4.alloc (.cells #[.string ⟨#[]⟩, .int .i64 0, .string ⟨#[]⟩] 33)).setRow w4.heap.size #[.string ⟨y.path.toArray⟩, .int .i64 y.kind, .string ⟨y.data.toArray⟩] := ⟨_, rfl⟩
    obtain ⟨bE, hbE⟩ : ∃ z, z = w4.heap.size := ⟨_, rfl⟩
    have hnE : Below w4.heap.size w4 VE := by rw [hVE]; exact below_row (below_new _ _) (Nat.le_refl _) _
    have XE : Hid (Box VE bE 33 #[.string ⟨y.path.toArray⟩, .int .i64 y.kind, .string ⟨y.data.toArray⟩]) := Lib.hid (by rw [hVE, hbE]; exact box_new.row _)
    have HVE := Lib.hid hVE
    have HWE := Lib.hid hbE
    have hcar : Below w3.heap.size w3 VE := bch hb hnE
    have HB := Lib.hid (bch HB.out hcar)
    clear hcar
    clear hb hnE
    cases b with
    | false =>
      have HR2 : Hid (er = 4) := Lib.hid HR.out
      clear hVE hbE
      go_wp2_with (first | (refine wpList_store_row rfl 33 (.tmp 6) (.tmp 17) rfl w4.heap.size #[.string ⟨y.path.toArray⟩, .int .i64 y.kind, .string ⟨y.data.toArray⟩] rfl rfl 33 #[.string ⟨#[]⟩, .int .i64 0, .string ⟨#[]⟩] box_new info59r rfl (by simp [Value.oneCell']) ?_; rw [← HVE.out, ← HWE.out]) | fail)
      go_ret
      exact ⟨by rw [HR2.out]; rfl, HB.out⟩
    | true =>
      have HR2 : Hid (er = 161) := Lib.hid HR.out
      clear hVE hbE
      go_wp2_with (first | (refine wpList_store_row rfl 33 (.tmp 6) (.tmp 17) rfl w4.heap.size #[.string ⟨y.path.toArray⟩, .int .i64 y.kind, .string ⟨y.data.toArray⟩] rfl rfl 33 #[.string ⟨#[]⟩, .int .i64 0, .string ⟨#[]⟩] box_new info59r rfl (by simp [Value.oneCell']) ?_; rw [← HVE.out, ← HWE.out]) | fail)
      go_ret
      exact ⟨by rw [HR2.out]; rfl, HB.out⟩
/-- A tree, or a number that says why not. -/
def TreeE (r : Except Int (List It)) (w : World) (e : Ending) (w' : World) : Prop := Below w.heap.size w w' ∧ ((∃ z, r = .error z ∧ e = .returned (.tuple #[.agg #[.slice none 0 0], .int .i64 z])) ∨ ∃ l' v', r = .ok l' ∧ e = .returned (.tuple #[.agg #[v'], .int .i64 0]) ∧ OwnI w' w.heap.size v' l')
set_option maxRecDepth 100000 in
set_option maxHeartbeats 8000000 in
theorem rmakes_any (l : List It) (v : Value) (x : It) (over : Bool) (w : World) (hv : RdI w v l) (hl : l.length ≤ 4000) (hsz : ∀ y ∈ l, y.path.length ≤ 2000000) (hx : x.path.length ≤ 2000000) (r : Except Int (List It)) (hr : makesR l x over = r) :
    Calls Tryz.prog 51 #[.agg #[v], .agg #[.string ⟨x.path.toArray⟩, .int .i64 x.kind, .string ⟨x.data.toArray⟩], .bool over] w (TreeE r w) := by
  obtain ⟨w1, hw1⟩ : ∃ z, z = ((w.alloc (.cells #[v] 24)).alloc (.cells #[.string ⟨x.path.toArray⟩, .int .i64 x.kind, .string ⟨x.data.toArray⟩] 33)).alloc (.cells #[.slice none 0 0] 24) := ⟨_, rfl⟩
  obtain ⟨b3, hb3⟩ : ∃ z, z = w.heap.size := ⟨_, rfl⟩
  have X3 : Hid (Box w1 b3 24 #[v]) := Lib.hid (by rw [hw1, hb3]; exact (box_new.alloc _).alloc _)
  have X4 : Hid (Box w1 (b3 + 1) 33 x.arr) := Lib.hid (by rw [hw1, hb3, show w.heap.size + 1 = (w.alloc (.cells #[v] 24)).heap.size from by simp]; exact box_new.alloc _)
  have X6 : Hid (Box w1 (b3 + 1 + 1) 24 #[.slice none 0 0]) := Lib.hid (by rw [hw1, hb3, show w.heap.size + 1 + 1 = ((w.alloc (.cells #[v] 24)).alloc (.cells #[.string ⟨x.path.toArray⟩, .int .i64 x.kind, .string ⟨x.data.toArray⟩] 33)).heap.size from by simp]; exact box_new)
  have HB : Hid (Below w.heap.size w w1) := Lib.hid (by rw [hw1]; exact bch (bch (below_new _ _) (below_new _ _)) (below_new _ _))
  have H6 : Hid (w.heap.size ≤ b3 + 1 + 1) := Lib.hid (by omega)
  have HV := Lib.hid (hv.on HB.out)
  obtain ⟨er, her⟩ : ∃ z, z = openM l x.path := ⟨_, rfl⟩
  obtain ⟨y, hy⟩ : ∃ y, y = (getI l x.path).getD .nil := ⟨_, rfl⟩
  obtain ⟨b, hb⟩ : ∃ b, b = (getI l x.path).isSome := ⟨_, rfl⟩
  have HOP : Hid (Calls Tryz.prog 71 #[.agg #[v], .string ⟨x.path.toArray⟩] w1 fun e w' => e = .returned (.int .i64 er) ∧ Below w1.heap.size w1 w') := Lib.hid (ropen_any l v x.path w1 HV.out (by omega) hx er her.symm)
  have HG : Hid (∀ W, Below w1.heap.size w1 W → Calls Tryz.prog 20 #[.agg #[v], .string ⟨x.path.toArray⟩] W fun e w' => e = .returned (.tuple #[.agg #[.string ⟨y.path.toArray⟩, .int .i64 y.kind, .string ⟨y.data.toArray⟩], .bool b]) ∧ Below W.heap.size W w') := Lib.hid (fun W hW => rget_is l v x.path W (HV.out.on hW) (by omega) y b hy hb)
  have HWI : Hid (∀ W, Below w1.heap.size w1 W → Calls Tryz.prog 44 #[.agg #[v], .agg #[.string ⟨x.path.toArray⟩, .int .i64 x.kind, .string ⟨x.data.toArray⟩]] W fun e w' => ∃ v', e = .returned (.agg #[v']) ∧ OwnI w' W.heap.size v' (withR l x) ∧ Below W.heap.size W w') := Lib.hid (fun W hW => rwith_any l v x W (HV.out.on hW) hl hsz hx)
  have HE0 : Hid (er ≠ 0 → r = .error er) := Lib.hid (fun h => by rw [← hr]; unfold makesR; rw [her] at h ⊢; rw [if_pos h])
  have HE1 : Hid (er = 0 → b = true → over = false → r = .error 5) := Lib.hid (fun h h2 h3 => by
    rw [her] at h; rw [hb] at h2; rw [← hr]; unfold makesR
    rw [if_neg (not_not_intro h)]
    cases e : getI l x.path with
    | none => rw [e] at h2; cases h2
    | some z => simp [h3])
  have HE2 : Hid (er = 0 → b = true → over = true → r = if y.kind ≠ 2 then .error 161 else .ok (withR l x)) := Lib.hid (fun h h2 h3 => by
    rw [her] at h; rw [hb] at h2; rw [← hr]; unfold makesR
    rw [if_neg (not_not_intro h)]
    cases e : getI l x.path with
    | none => rw [e] at h2; cases h2
    | some z => rw [e] at hy; subst hy; simp [h3])
  have HE3 : Hid (er = 0 → b = false → r = if l.length = 2000 then .error 6 else .ok (withR l x)) := Lib.hid (fun h h2 => by
    rw [her] at h; rw [hb] at h2; rw [← hr]; unfold makesR
    rw [if_neg (not_not_intro h)]
    cases e : getI l x.path with
    | none => rfl
    | some z => rw [e] at h2; cases h2)
  obtain ⟨a, c, rfl, _⟩ := hv.open
  obtain ⟨n, hn⟩ : ∃ n, n = l.length := ⟨_, rfl⟩
  have HN := Lib.hid hn
  rw [← hn] at HV X3 HOP HG HWI hw1 ⊢
  have k0 := b24
  have HBE := Lib.hid hb3
  clear hv hy hb her hr hn hl hsz hx hb3
  have p0 := X3.out.cell (k := 0) rfl
  have p1 : w1.cell? ⟨b3 + 1, 0, none⟩ = some (.string ⟨x.path.toArray⟩) := X4.out.cell (k := 0) rfl
  go_enter Tryz.func51, Tryz.ntmps51
  go_upto_region 1 with fail
  rw [← HBE.out, ← hw1]
  clear hw1
  go_wp2_with fail
  clear p0 p1
  refine (HOP.out).mono ?_
  rintro e w2 ⟨rfl, hb⟩
  have HA := Lib.hid hb
  have hcar : Below w1.heap.size w1 w2 := hb
  have X3 := Lib.hid (X3.out.on hcar)
  have X4 := Lib.hid (X4.out.on hcar)
  have X6 := Lib.hid (X6.out.on hcar)
  have HB := Lib.hid (bch HB.out hcar)
  clear hcar
  clear hb HOP
  by_cases he : er = 0
  · subst he
    have p0 := X3.out.cell (k := 0) rfl
    have p1 : w2.cell? ⟨b3 + 1, 0, none⟩ = some (.string ⟨x.path.toArray⟩) := X4.out.cell (k := 0) rfl
    go_wp2_with fail
    clear p0 p1
    refine ((HG.out w2 HA.out)).mono ?_
    rintro e w3 ⟨rfl, hb⟩
    obtain ⟨VE, hVE⟩ : ∃ z, z = (w3.alloc (.cells #[.string ⟨#[]⟩, .int .i64 0, .string ⟨#[]⟩] 33)).setRow w3.heap.size #[.string ⟨y.path.toArray⟩, .int .i64 y.kind, .string ⟨y.data.toArray⟩] := ⟨_, rfl⟩
    obtain ⟨bE, hbE⟩ : ∃ z, z = w3.heap.size := ⟨_, rfl⟩
    have hnE : Below w3.heap.size w3 VE := by rw [hVE]; exact below_row (below_new _ _) (Nat.le_refl _) _
    have XE : Hid (Box VE bE 33 #[.string ⟨y.path.toArray⟩, .int .i64 y.kind, .string ⟨y.data.toArray⟩]) := Lib.hid (by rw [hVE, hbE]; exact box_new.row _)
    have HVE := Lib.hid hVE
    have HWE := Lib.hid hbE
    have hcar : Below w2.heap.size w2 VE := bch hb hnE
    have X3 := Lib.hid (X3.out.on hcar)
    have X4 := Lib.hid (X4.out.on hcar)
    have X6 := Lib.hid (X6.out.on hcar)
    have HB := Lib.hid (bch HB.out hcar)
    clear hcar
    have HAE := Lib.hid (bch HA.out (bch hb hnE))
    clear hb hnE HG
    cases b with
    | true =>
      cases over with
      | false =>
        have HD := Lib.hid (HE1.out (by trivial) rfl rfl)
        clear hVE hbE
        go_wp2_with (first | (refine wpList_store_row rfl 33 (.tmp 9) (.tmp 24) rfl w3.heap.size #[.string ⟨y.path.toArray⟩, .int .i64 y.kind, .string ⟨y.data.toArray⟩] rfl rfl 33 #[.string ⟨#[]⟩, .int .i64 0, .string ⟨#[]⟩] box_new info59r rfl (by simp [Value.oneCell']) ?_; rw [← HVE.out, ← HWE.out]) | (refine wpList_store_row rfl 24 (.tmp 6) (.tmp 32) rfl (b3 + 1 + 1) #[.slice none 0 0] rfl rfl 24 _ X6.out (info24 _) rfl (slice_one _ _ _) ?_) | fail)
        exact bodyPost_ret (end_tree2 rfl _ (X6.out.row _) rfl rfl) rfl ⟨below_row HB.out H6.out _, .inl ⟨_, HD.out, rfl⟩⟩
      | true =>
        have HD0 := Lib.hid (HE2.out (by trivial) rfl rfl)
        have p1 := XE.out.cell (k := 1) rfl
        by_cases hk : y.kind = 2
        · have t1 : (y.kind == 2) = true := by simp [hk]
          have t2 : (y.kind != 2) = false := by simp [hk]
          have HD : Hid (r = .ok (withR l x)) := Lib.hid (by rw [HD0.out, if_neg (not_not_intro hk)])
          rw [hk] at p1
          clear hk
          have p0 := X3.out.cell (k := 0) rfl
          have q0 : VE.cell? ⟨b3 + 1, 0, none⟩ = some (.string ⟨x.path.toArray⟩) := X4.out.cell (k := 0) rfl
          have q1 : VE.cell? ⟨b3 + 1, 1, none⟩ = some (.int .i64 x.kind) := X4.out.cell (k := 1) rfl
          have q2 : VE.cell? ⟨b3 + 1, 2, none⟩ = some (.string ⟨x.data.toArray⟩) := X4.out.cell (k := 2) rfl
          clear hVE hbE
          go_wp2_with (first | (refine wpList_store_row rfl 33 (.tmp 9) (.tmp 24) rfl w3.heap.size #[.string ⟨y.path.toArray⟩, .int .i64 y.kind, .string ⟨y.data.toArray⟩] rfl rfl 33 #[.string ⟨#[]⟩, .int .i64 0, .string ⟨#[]⟩] box_new info59r rfl (by simp [Value.oneCell']) ?_; rw [← HVE.out, ← HWE.out]) | fail)
          clear p0 q0 q1 q2
          refine (HWI.out VE HAE.out).mono ?_
          rintro e w5 ⟨v5, rfl, hO, hb⟩
          obtain ⟨a5, n5, c5, rfl⟩ := own_any hO
          have HO := Lib.hid hO
          have HB5 := Lib.hid HB.out.size
          replace X6 := Lib.hid (X6.out.on hb)
          replace HB := Lib.hid (bch HB.out hb)
          clear hb hO
          go_wp2_with (first | (refine wpList_store_row rfl 24 (.tmp 6) (.tmp 53) rfl (b3 + 1 + 1) #[.slice a5 n5 c5] rfl rfl 24 _ X6.out (info24 _) rfl (slice_one _ _ _) ?_) | fail)
          exact bodyPost_ret (end_tree2 rfl _ (X6.out.row _) rfl rfl) rfl ⟨below_row HB.out H6.out _, .inr ⟨_, _, HD.out, rfl, own_base (own_row HO.out X6.out) HB5.out⟩⟩
        · have t1 : (y.kind == 2) = false := by simp [hk]
          have t2 : (y.kind != 2) = true := by simp [hk]
          have HD : Hid (r = .error 161) := Lib.hid (by rw [HD0.out, if_pos hk])
          clear hk
          clear hVE hbE
          go_wp2_with (first | (refine wpList_store_row rfl 33 (.tmp 9) (.tmp 24) rfl w3.heap.size #[.string ⟨y.path.toArray⟩, .int .i64 y.kind, .string ⟨y.data.toArray⟩] rfl rfl 33 #[.string ⟨#[]⟩, .int .i64 0, .string ⟨#[]⟩] box_new info59r rfl (by simp [Value.oneCell']) ?_; rw [← HVE.out, ← HWE.out]) | (refine wpList_store_row rfl 24 (.tmp 6) (.tmp 40) rfl (b3 + 1 + 1) #[.slice none 0 0] rfl rfl 24 _ X6.out (info24 _) rfl (slice_one _ _ _) ?_) | fail)
          exact bodyPost_ret (end_tree2 rfl _ (X6.out.row _) rfl rfl) rfl ⟨below_row HB.out H6.out _, .inl ⟨_, HD.out, rfl⟩⟩
    | false =>
      have HD0 := Lib.hid (HE3.out (by trivial) rfl)
      have c0 := X3.out.cell (k := 0) rfl
      by_cases hn2 : l.length = 2000
      · have hn3 : n = 2000 := by rw [HN.out]; exact hn2
        have t1 : ((n : Int) == 2000) = true := by rw [hn3]; rfl
        have HD : Hid (r = .error 6) := Lib.hid (by rw [HD0.out, if_pos hn2])
        clear hn2 hn3
        clear hVE hbE
        go_wp2_with (first | (refine wpList_store_row rfl 33 (.tmp 9) (.tmp 24) rfl w3.heap.size #[.string ⟨y.path.toArray⟩, .int .i64 y.kind, .string ⟨y.data.toArray⟩] rfl rfl 33 #[.string ⟨#[]⟩, .int .i64 0, .string ⟨#[]⟩] box_new info59r rfl (by simp [Value.oneCell']) ?_; rw [← HVE.out, ← HWE.out]) | (refine wpList_store_row rfl 24 (.tmp 6) (.tmp 50) rfl (b3 + 1 + 1) #[.slice none 0 0] rfl rfl 24 _ X6.out (info24 _) rfl (slice_one _ _ _) ?_) | fail)
        exact bodyPost_ret (end_tree2 rfl _ (X6.out.row _) rfl rfl) rfl ⟨below_row HB.out H6.out _, .inl ⟨_, HD.out, rfl⟩⟩
      · have hn3 : n ≠ 2000 := by rw [HN.out]; exact hn2
        have t1 : ((n : Int) == 2000) = false := by simp; omega
        have HD : Hid (r = .ok (withR l x)) := Lib.hid (by rw [HD0.out, if_neg hn2])
        clear hn2 hn3
        have p0 := X3.out.cell (k := 0) rfl
        have q0 : VE.cell? ⟨b3 + 1, 0, none⟩ = some (.string ⟨x.path.toArray⟩) := X4.out.cell (k := 0) rfl
        have q1 : VE.cell? ⟨b3 + 1, 1, none⟩ = some (.int .i64 x.kind) := X4.out.cell (k := 1) rfl
        have q2 : VE.cell? ⟨b3 + 1, 2, none⟩ = some (.string ⟨x.data.toArray⟩) := X4.out.cell (k := 2) rfl
        clear hVE hbE
        go_wp2_with (first | (refine wpList_store_row rfl 33 (.tmp 9) (.tmp 24) rfl w3.heap.size #[.string ⟨y.path.toArray⟩, .int .i64 y.kind, .string ⟨y.data.toArray⟩] rfl rfl 33 #[.string ⟨#[]⟩, .int .i64 0, .string ⟨#[]⟩] box_new info59r rfl (by simp [Value.oneCell']) ?_; rw [← HVE.out, ← HWE.out]) | fail)
        clear p0 q0 q1 q2
        refine (HWI.out VE HAE.out).mono ?_
        rintro e w5 ⟨v5, rfl, hO, hb⟩
        obtain ⟨a5, n5, c5, rfl⟩ := own_any hO
        have HO := Lib.hid hO
        have HB5 := Lib.hid HB.out.size
        replace X6 := Lib.hid (X6.out.on hb)
        replace HB := Lib.hid (bch HB.out hb)
        clear hb hO
        go_wp2_with (first | (refine wpList_store_row rfl 24 (.tmp 6) (.tmp 53) rfl (b3 + 1 + 1) #[.slice a5 n5 c5] rfl rfl 24 _ X6.out (info24 _) rfl (slice_one _ _ _) ?_) | fail)
        exact bodyPost_ret (end_tree2 rfl _ (X6.out.row _) rfl rfl) rfl ⟨below_row HB.out H6.out _, .inr ⟨_, _, HD.out, rfl, own_base (own_row HO.out X6.out) HB5.out⟩⟩
  · have t1 : (er == 0) = false := by simpa using he
    have t2 : (er != 0) = true := by simpa using he
    have HD := Lib.hid (HE0.out he)
    clear he
    go_wp2_with (first | (refine wpList_store_row rfl 24 (.tmp 6) (.tmp 17) rfl (b3 + 1 + 1) #[.slice none 0 0] rfl rfl 24 _ X6.out (info24 _) rfl (slice_one _ _ _) ?_) | fail)
    exact bodyPost_ret (end_tree2 rfl _ (X6.out.row _) rfl rfl) rfl ⟨below_row HB.out H6.out _, .inl ⟨_, HD.out, rfl⟩⟩
end Go.Proofs.YtjbbnecegomkcaaGreatDoor
