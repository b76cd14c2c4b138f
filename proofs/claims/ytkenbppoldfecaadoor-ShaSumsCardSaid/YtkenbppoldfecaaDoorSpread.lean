/- Proved here: spread of package sha: the 64 numbers of a block. -/
import Derived.Test.YtkenbppoldfecaaDoorDigest
import Derived.Test.YtkenbppoldfecaaDoorMath2
import Derived.StillTailTactics
import Derived.RegionTactic
import Derived.BigRegion
import Derived.Outline
import Derived.Deep.Cut
namespace Go.Proofs.YtkenbppoldfecaaDoor
open Go.RowKit Go.Shelf

theorem turn_at (x : Wd) (n : Nat) (i : Int) (hi : i = (n : Int)) (h0 : 0 < n) (hn : n < 32) (w : World) : Calls Tryd.prog 53 #[u x, .int .i64 i] w fun e w' => e = .returned (u (rot x n)) ∧ ∃ k, w' = w.drewN k := by rw [hi]; exact turn_any x n h0 hn w

def spreadV (l : Bytes) : List Value := (spreadL l).map u
def spreadA (l : Bytes) : Array Value := (spreadV l).toArray
theorem spreadV_len (l : Bytes) : (spreadV l).length = 64 := by unfold spreadV; rw [List.length_map, spread_len]
theorem spreadV_at (l : Bytes) {k : Nat} (hk : k < 64) : (spreadV l)[k]? = some (u ((spreadL l).getD k 0)) := by
  unfold spreadV
  have h : k < (spreadL l).length := by rw [spread_len]; exact hk
  rw [List.getElem?_map, List.getElem?_eq_getElem h, List.getD_eq_getElem?_getD, List.getElem?_eq_getElem h]
  rfl
theorem part_old {z v : Value} {l : List Value} {n k i : Nat} (hi : i < k) (hv : l[i]? = some v) : (part z l n k)[i]? = some v := by
  unfold part
  have hl : i < l.length := (List.getElem?_eq_some_iff.1 hv).1
  rw [List.getElem?_toArray, List.getElem?_append_left (by simp; omega), List.getElem?_take, if_pos hi, hv]

theorem wrap_byte (c : UInt8) : IntKind.u32.wrap (c.toNat : Int) = ((BitVec.ofNat 32 c.toNat).toNat : Int) := by
  have := c.toNat_lt
  rw [wrap_u32, BitVec.toNat_ofNat]; omega
theorem w4_eq (a b c d : UInt8) : bits .or .u32 (bits .or .u32 (bits .or .u32 (IntKind.u32.wrap (IntKind.u32.wrap (a.toNat : Int) * 16777216)) (IntKind.u32.wrap (IntKind.u32.wrap (b.toNat : Int) * 65536))) (IntKind.u32.wrap (IntKind.u32.wrap (c.toNat : Int) * 256))) (IntKind.u32.wrap (d.toNat : Int)) = ((w4 a b c d).toNat : Int) := by
  rw [wrap_byte, wrap_byte, wrap_byte, wrap_byte]
  rw [show (16777216 : Int) = 2 ^ 24 by decide, show (65536 : Int) = 2 ^ 16 by decide, show (256 : Int) = 2 ^ 8 by decide]
  rw [shl_word, shl_word, shl_word, or_word, or_word, or_word]
  rfl

theorem w4_eq' (a b c d : UInt8) : bits .or .u32 (bits .or .u32 (bits .or .u32 ((a.toNat : Int) % 4294967296 * 16777216 % 4294967296) ((b.toNat : Int) % 4294967296 * 65536 % 4294967296)) ((c.toNat : Int) % 4294967296 * 256 % 4294967296)) ((d.toNat : Int) % 4294967296) = ((w4 a b c d).toNat : Int) := w4_eq a b c d

theorem next_eq (a b c d : Wd) : ((a.toNat : Int) + bits .xor .u32 (bits .xor .u32 ((rot b 7).toNat : Int) ((rot b 18).toNat : Int)) ((b.toNat : Int) / 8) + (c.toNat : Int) + bits .xor .u32 (bits .xor .u32 ((rot d 17).toNat : Int) ((rot d 19).toNat : Int)) ((d.toNat : Int) / 1024)) % 4294967296 = ((a + low0 b + c + low1 d).toNat : Int) := by
  rw [show (8 : Int) = 2 ^ 3 by decide, show (1024 : Int) = 2 ^ 10 by decide, shr_word, shr_word, xor_word, xor_word, xor_word, xor_word]
  show _ = (((a + low0 b + c + low1 d : Wd).toNat : Nat) : Int)
  rw [BitVec.toNat_add, BitVec.toNat_add, BitVec.toNat_add]
  unfold low0 low1
  omega

/-- A fact on words, out of the walk's sight: no equation, and of no inductive type. -/
def Wrapped (p : Prop) : Prop := ∀ q : Prop, (p → q) → q
theorem Wrapped.mk {p : Prop} (h : p) : Wrapped p := fun _ k => k h
theorem Wrapped.get {p : Prop} (h : Wrapped p) : p := h p id

/-- A slice with three indexes, the last two the same. -/
theorem run_slice3 {P : Program} {t e : TypeId} (ht : P.underlying t = some (.slice e)) (hs : ∀ w, (Go.sizeOf e).run P w = .ok 1 w) (a : Option Addr) (len cap l h : Nat) (hl : l ≤ h) (hh : h ≤ cap) (i j : Int) (hi : i = (l : Int)) (hj : j = (h : Int)) (w : World) :
    (Instr.slice t (.slice a len cap) (some (.int .i64 i)) (some (.int .i64 j)) (some (.int .i64 j))).run P w = .ok (.slice (if h = l then a else a.map (·.add l)) (h - l) (h - l)) w := by
  subst hi hj
  have h1 : (0 : Int) ≤ (l : Int) ∧ (l : Int) ≤ (h : Int) := by omega
  have h2 : (0 : Int) ≤ (h : Int) ∧ (h : Int) ≤ (cap : Int) := by omega
  simp [Instr.slice, Sem.run_bind, run_underlying ht, Instr.sliceBounds, Instr.sliceBound, asIntOf, hl, hh, h1, h2, hs]

set_option maxRecDepth 100000 in
set_option maxHeartbeats 4000000 in
theorem spread_any (l : Bytes) (g o c : Nat) (w : World) (hc : 64 ≤ c) (hcm : c ≤ 9223372036854775807) (hg : g < w.heap.size) (hcell : ∀ j, j < 64 → w.cell? ⟨g, o + j, none⟩ = some (b8 (l.getD j 0))) :
    Calls Tryd.prog 52 #[.slice (some ⟨g, o, none⟩) 64 c] w fun e w' => e = .returned (.agg (spreadA l)) ∧ Below w.heap.size w w' := by
  have HC := Lib.hid hcell
  clear hcell
  go_enter Tryd.func52, Tryd.ntmps52
  go_wp2_with (with_reducible refine wpList_zero rfl 31 rfl (part z32 (spreadV l) 64 0) (zero31 _) ?_)
  go_loopw [4, 5, 11, 12, 13, 14, 15, 16, 17, 18, 19, 20, 21, 22, 23, 24, 25, 26, 27, 28, 29, 30, 31, 32, 33, 34, 35, 36, 37, 38, 39, 40, 41, 42, 43, 44, 45, 46, 47, 48] (fun _ _ i _ _ _ _ _ _ _ _ _ _ _ _ _ _ _ _ _ _ _ _ _ _ _ _ _ _ _ _ _ _ _ _ _ _ _ _ _ wr => ∃ k : Nat, k ≤ 16 ∧ i = .int .i64 k ∧ Hid (Box wr w.heap.size 31 (part z32 (spreadV l) 64 0)) ∧ Hid (Box wr (w.heap.size + 1) 31 (part z32 (spreadV l) 64 k)) ∧ Below w.heap.size w wr) (fun _ _ i _ _ _ _ _ _ _ _ _ _ _ _ _ _ _ _ _ _ _ _ _ _ _ _ _ _ _ _ _ _ _ _ _ _ _ _ _ _ => 16 - (Lib.intOf i).toNat)
  case atStart => exact ⟨0, Nat.zero_le _, rfl, Lib.hid ((show Box _ _ _ _ from heap_alloc_new w _).alloc _), Lib.hid (heap_alloc2_new w _ _), ((Below.refl _ _).alloc (Nat.le_refl _) _).alloc (by simp) _⟩
  case round =>
    obtain ⟨k, hk, rfl, H0, H1, hB⟩ := hrel
    have hsz := hB.size
    have l1 := H1.out.lt
    by_cases hlt : k < 16
    · have d0 := (hB.cell (p := ⟨g, _, none⟩) hg).trans (HC.out (4 * k) (by omega))
      have d1 := (hB.cell (p := ⟨g, _, none⟩) hg).trans (HC.out (4 * k + 1) (by omega))
      have d2 := (hB.cell (p := ⟨g, _, none⟩) hg).trans (HC.out (4 * k + 2) (by omega))
      have d3 := (hB.cell (p := ⟨g, _, none⟩) hg).trans (HC.out (4 * k + 3) (by omega))
      obtain ⟨x0, hx0⟩ : ∃ x, x = l.getD (4 * k) 0 := ⟨_, rfl⟩
      obtain ⟨x1, hx1⟩ : ∃ x, x = l.getD (4 * k + 1) 0 := ⟨_, rfl⟩
      obtain ⟨x2, hx2⟩ : ∃ x, x = l.getD (4 * k + 2) 0 := ⟨_, rfl⟩
      obtain ⟨x3, hx3⟩ : ∃ x, x = l.getD (4 * k + 3) 0 := ⟨_, rfl⟩
      rw [← hx0] at d0
      rw [← hx1] at d1
      rw [← hx2] at d2
      rw [← hx3] at d3
      rw [← Nat.add_assoc] at d1 d2 d3
      have HX : Hid (w4 x0 x1 x2 x3 = wordAt l k) := Lib.hid (by rw [hx0, hx1, hx2, hx3]; rfl)
      have HX' := Lib.hid (show Wrapped (w4 x0 x1 x2 x3 = wordAt l k) from Wrapped.mk HX.out)
      clear hx0 hx1 hx2 hx3 HX
      have c1 := H1.out.cell (part_next (z := z32) (l := spreadV l) (n := 64) (k := k) (by omega) (by rw [spreadV_len]; omega))
      have f1 := H1.out.frozen k
      have hsl : ∀ W, (Instr.slice 24 (.slice (some ⟨g, o, none⟩) 64 c) (some (.int .i64 (4 * (k : Int)))) (some (.int .i64 (4 * (k : Int) + 4))) (some (.int .i64 (4 * (k : Int) + 4)))).run Tryd.prog W = .ok (.slice (some ⟨g, o + 4 * k, none⟩) 4 4) W := fun W => by
        rw [run_slice3 Tryd.underlying24 Tryd.sizeOf5 (some ⟨g, o, none⟩) 64 c (4 * k) (4 * k + 4) (by omega) (by omega) _ _ (by omega) (by omega) W, if_neg (by omega)]
        simp [Addr.add]
      go_wp2_with fail
      have k1 : (0 : Int) ≤ (k : Int) := by omega
      have k2 : (k : Int) < 64 := by omega
      have k3 : k < 64 := by omega
      go_still_tail 24, (by kernel_rfl)
      change wpList _ _ _ _ _ wr.drew
      have HB1 := Lib.hid H1.out.drew
      have HB0 := Lib.hid H0.out.drew
      have HBB := Lib.hid hB.drew
      obtain ⟨wd, hwd⟩ : ∃ wd, wr.drew = wd := ⟨_, rfl⟩
      rw [hwd] at HB1 HB0 HBB ⊢
      have c1' := HB1.out.cell (part_next (z := z32) (l := spreadV l) (n := 64) (k := k) (by omega) (by rw [spreadV_len]; omega))
      have f1' := HB1.out.frozen k
      clear c1 f1 d0 d1 d2 d3 hwd hsl
      go_wp2
      go_roundw
      case rel =>
        refine ⟨k + 1, hlt, by go_num, Lib.hid (HB0.out.far (by dsimp only; omega) _), Lib.hid ?_, HBB.out.setCell (by dsimp only; omega) _⟩
        have hv := spreadV_at l (k := k) (by omega)
        rw [spread_first l hlt, ← HX'.out.get] at hv
        have := HB1.out.set (k := k) (u (w4 x0 x1 x2 x3))
        rw [part_set (by omega) hv] at this
        rw [w4_eq']
        exact this
      case measure => simp [Lib.intOf]; omega
    · obtain ⟨wq, rfl⟩ : ∃ x, x = wr := ⟨wr, rfl⟩
      obtain ⟨m, rfl⟩ : ∃ x, x = k := ⟨k, rfl⟩
      go_wp2_with fail
      go_loopw [6, 7, 8, 9, 10, 49, 50, 51, 52, 53, 54, 55, 56, 57, 58, 59, 60, 61, 62, 63, 64, 65, 66, 67, 68, 69, 70, 71, 72, 73, 74, 75, 76, 77, 78, 79, 80, 81, 82, 83, 84, 85, 86, 87, 88, 89, 90, 91] (fun i _ _ _ _ _ _ _ _ _ _ _ _ _ _ _ _ _ _ _ _ _ _ _ _ _ _ _ _ _ _ _ _ _ _ _ _ _ _ _ _ _ _ _ _ _ _ _ wr => ∃ k : Nat, k ≤ 64 ∧ 16 ≤ k ∧ i = .int .i64 k ∧ Hid (Box wr w.heap.size 31 (part z32 (spreadV l) 64 0)) ∧ Hid (Box wr (w.heap.size + 1) 31 (part z32 (spreadV l) 64 k)) ∧ Below w.heap.size w wr) (fun i _ _ _ _ _ _ _ _ _ _ _ _ _ _ _ _ _ _ _ _ _ _ _ _ _ _ _ _ _ _ _ _ _ _ _ _ _ _ _ _ _ _ _ _ _ _ _ _ => 64 - (Lib.intOf i).toNat)
      case atStart =>
        obtain rfl : m = 16 := by omega
        exact ⟨16, by omega, Nat.le_refl _, rfl, H0, H1, hB⟩
      case round =>
        obtain ⟨k, hk, hk16, rfl, H0, H1, hB⟩ := hrel
        have hsz := hB.size
        have l1 := H1.out.lt
        by_cases hlt : k < 64
        · have p2 := H1.out.cell (part_old (z := z32) (n := 64) (i := k - 2) (k := k) (by omega) (spreadV_at l (by omega)))
          have p7 := H1.out.cell (part_old (z := z32) (n := 64) (i := k - 7) (k := k) (by omega) (spreadV_at l (by omega)))
          have p15 := H1.out.cell (part_old (z := z32) (n := 64) (i := k - 15) (k := k) (by omega) (spreadV_at l (by omega)))
          have p16 := H1.out.cell (part_old (z := z32) (n := 64) (i := k - 16) (k := k) (by omega) (spreadV_at l (by omega)))
          obtain ⟨x2, hx2⟩ : ∃ x, x = (spreadL l).getD (k - 2) 0 := ⟨_, rfl⟩
          obtain ⟨x7, hx7⟩ : ∃ x, x = (spreadL l).getD (k - 7) 0 := ⟨_, rfl⟩
          obtain ⟨x15, hx15⟩ : ∃ x, x = (spreadL l).getD (k - 15) 0 := ⟨_, rfl⟩
          obtain ⟨x16, hx16⟩ : ∃ x, x = (spreadL l).getD (k - 16) 0 := ⟨_, rfl⟩
          have HX := Lib.hid (show Wrapped ((spreadL l).getD k 0 = x16 + low0 x15 + x7 + low1 x2) from Wrapped.mk (by rw [spread_next l hk16 hlt, hx2, hx7, hx15, hx16]))
          rw [← hx2] at p2
          rw [← hx7] at p7
          rw [← hx15] at p15
          rw [← hx16] at p16
          have HX7 := Lib.hid hx7.symm
          have HX16 := Lib.hid hx16.symm
          clear hx2 hx7 hx15 hx16
          have k1 : (0 : Int) ≤ (k : Int) := by omega
          have k2 : (k : Int) < 64 := by omega
          have e2 : (k : Int) - 2 = ((k - 2 : Nat) : Int) := by omega
          have e15 : (k : Int) - 15 = ((k - 15 : Nat) : Int) := by omega
          go_wp2_with fail
          go_quiet (fail)
          go_wp2_with fail
          refine (turn_at x15 7 7 rfl (by omega) (by omega) _).mono ?_
          rintro e w1 ⟨rfl, n1, rfl⟩
          go_wp2_with fail
          refine (turn_at x15 18 18 rfl (by omega) (by omega) _).mono ?_
          rintro e w2 ⟨rfl, n2, rfl⟩
          go_wp2_with fail
          refine (turn_at x2 17 17 rfl (by omega) (by omega) _).mono ?_
          rintro e w3 ⟨rfl, n3, rfl⟩
          go_wp2_with fail
          refine (turn_at x2 19 19 rfl (by omega) (by omega) _).mono ?_
          rintro e w4 ⟨rfl, n4, rfl⟩
          go_wp2_with fail
          generalize hW : World.drewN wr _ = W
          have HB1 : Hid (Box W (w.heap.size + 1) 31 (part z32 (spreadV l) 64 k)) := by rw [← hW]; exact H1
          have HB0 : Hid (Box W w.heap.size 31 (part z32 (spreadV l) 64 0)) := by rw [← hW]; exact H0
          have HBB : Hid (Below w.heap.size w W) := by rw [← hW]; exact Lib.hid (below_drewN hB _)
          have q7 := HB1.out.cell (part_old (z := z32) (n := 64) (i := k - 7) (k := k) (by omega) (spreadV_at l (by omega)))
          have q16 := HB1.out.cell (part_old (z := z32) (n := 64) (i := k - 16) (k := k) (by omega) (spreadV_at l (by omega)))
          rw [HX7.out] at q7
          rw [HX16.out] at q16
          have e7 : (k : Int) - 7 = ((k - 7 : Nat) : Int) := by omega
          have e16 : (k : Int) - 16 = ((k - 16 : Nat) : Int) := by omega
          have k3 : k < 64 := hlt
          have i7 : k - 7 < 64 := by omega
          have i16 : k - 16 < 64 := by omega
          have w7 : IntKind.i64.wrap ((k - 7 : Nat) : Int) = ((k - 7 : Nat) : Int) := IntWalk.i64_in _ (by omega)
          have w16 : IntKind.i64.wrap ((k - 16 : Nat) : Int) = ((k - 16 : Nat) : Int) := IntWalk.i64_in _ (by omega)
          have j7 : ((k - 7 : Nat) : Int) < 64 := by omega
          have j16 : ((k - 16 : Nat) : Int) < 64 := by omega
          clear p2 p7 p15 p16 e2 e15 hW
          go_still_tail 15, (by kernel_rfl)
          change wpList _ _ _ _ _ W.drew
          have HC1 := Lib.hid HB1.out.drew
          have HC0 := Lib.hid HB0.out.drew
          have HCB := Lib.hid HBB.out.drew
          obtain ⟨wd, hwd⟩ : ∃ wd, W.drew = wd := ⟨_, rfl⟩
          rw [hwd] at HC1 HC0 HCB ⊢
          have c1' := HC1.out.cell (part_next (z := z32) (l := spreadV l) (n := 64) (k := k) (by omega) (by rw [spreadV_len]; omega))
          have f1' := HC1.out.frozen k
          clear q7 q16 hwd e7 e16 w7 w16
          go_wp2
          go_roundw
          case rel =>
            refine ⟨k + 1, hlt, by omega, by go_num, Lib.hid (HC0.out.far (by dsimp only; omega) _), Lib.hid ?_, HCB.out.setCell (by dsimp only; omega) _⟩
            have hv := spreadV_at l hlt
            rw [HX.out.get] at hv
            have := HC1.out.set (k := k) (u (x16 + low0 x15 + x7 + low1 x2))
            rw [part_set hlt hv] at this
            rw [next_eq]
            exact this
          case measure => simp [Lib.intOf]; omega
        · obtain rfl : k = 64 := by omega
          have H2 : Hid (Box wr (w.heap.size + 1) 31 (spreadA l)) := Lib.hid (by have := H1.out; rw [part_full (spreadV_len l)] at this; exact this)
          have hsz1 : (part z32 (spreadV l) 64 0).size = (spreadA l).size := by rw [part_size (spreadV_len l) (by omega)]; simp [spreadA, spreadV_len]
          have hsz2 : (Tryd.prog.info? 31).map (·.size) = some (spreadA l).size := by rw [info31]; simp [spreadA, spreadV_len]
          have HS1 := Lib.hid hsz1
          have HS2 := Lib.hid hsz2
          clear hsz1 hsz2
          go_wp2_with (first
            | (refine wpList_load_row rfl 31 (.tmp 3) rfl (w.heap.size + 1) rfl 31 (spreadA l) (0, 0) (.array 64 30) H2.out Tryd.underlying31 rfl HS2.out ?_)
            | (refine wpList_store_row rfl 31 (.tmp 2) (.tmp 92) rfl w.heap.size (spreadA l) rfl rfl 31 (part z32 (spreadV l) 64 0) H0.out HS2.out HS1.out (one_map (fun _ => rfl) _) ?_))
          exact bodyPost_ret (results_cell_row rfl _ _ w.heap.size 31 (spreadA l) (0, 0) (.array 64 30) rfl (setRow_heap _ _ _ _ _ _ H0.out) Tryd.underlying31 rfl HS2.out) rfl ⟨rfl, below_row hB (Nat.le_refl _) _⟩
end Go.Proofs.YtkenbppoldfecaaDoor
