/- Proved here: arrays that are filled cell by cell, read and stored whole; the primes of package sha; Constants and beginnings. -/
import Derived.Test.YtkenbppoldfecaaDoorHalve
import Derived.Deep.WholeRow
import Derived.Deep.Draws
import Derived.Lib.LaidTab
namespace Go.Proofs.YtkenbppoldfecaaDoor
open Go.RowKit Go.Shelf

/-- The first k of these, and then as many noughts as lead to n. -/
def part (z : Value) (l : List Value) (n k : Nat) : Array Value := (l.take k ++ List.replicate (n - k) z).toArray
theorem part_zero (z : Value) (l : List Value) (n : Nat) : part z l n 0 = (List.replicate n z).toArray := rfl
theorem part_full {z : Value} {l : List Value} {n : Nat} (h : l.length = n) : part z l n n = l.toArray := by
  unfold part
  rw [List.take_of_length_le (by omega), Nat.sub_self]
  simp
theorem part_size {z : Value} {l : List Value} {n k : Nat} (h : l.length = n) (hk : k ≤ n) : (part z l n k).size = n := by
  unfold part
  simp
  omega
theorem part_set {z v : Value} {l : List Value} {n k : Nat} (hk : k < n) (hv : l[k]? = some v) : (part z l n k).setIfInBounds k v = part z l n (k + 1) := by
  unfold part
  have hl : k < l.length := (List.getElem?_eq_some_iff.1 hv).1
  rw [List.setIfInBounds_toArray]
  congr 1
  rw [List.set_append_right _ _ (by simp; omega), List.length_take, show min k l.length = k by omega, Nat.sub_self, List.take_add_one, hv, show n - k = (n - (k + 1)) + 1 by omega, List.replicate_succ, List.set_cons_zero]
  simp
theorem part_next {z : Value} {l : List Value} {n k : Nat} (hk : k < n) (hl : k ≤ l.length) : (part z l n k)[k]? = some z := by
  unfold part
  rw [List.getElem?_toArray, List.getElem?_append_right (by simp; omega), List.length_take, show k - min k l.length = 0 by omega, List.getElem?_replicate, if_pos (by omega)]

/-- The block is just these cells, none frozen. -/
def Box (w : World) (g : Nat) (t : TypeId) (cs : Array Value) : Prop := w.heap[g]? = some (.cells cs t (0, 0))
theorem Box.lt {w : World} {g : Nat} {t : TypeId} {cs : Array Value} (h : Box w g t cs) : g < w.heap.size := by
  rcases Nat.lt_or_ge g w.heap.size with h' | h'
  · exact h'
  · unfold Box at h
    rw [Array.getElem?_eq_none h'] at h
    cases h
theorem Box.below {w w' : World} {B g : Nat} {t : TypeId} {cs : Array Value} (h : Box w g t cs) (hb : Below B w w') (hg : g < B) : Box w' g t cs := (hb.block g hg).trans h
theorem Box.alloc {w : World} {g : Nat} {t : TypeId} {cs : Array Value} (h : Box w g t cs) (o : Obj) : Box (w.alloc o) g t cs := (Below.heap_alloc w o g h.lt).trans h
theorem Box.set {w : World} {g k : Nat} {t : TypeId} {cs : Array Value} (h : Box w g t cs) (v : Value) : Box (w.setCell ⟨g, k, none⟩ v) g t (cs.setIfInBounds k v) := heap_setCell_same w g k cs t v h
theorem Box.far {w : World} {g : Nat} {t : TypeId} {cs : Array Value} (h : Box w g t cs) {p : Addr} (hp : g ≠ p.block) (v : Value) : Box (w.setCell p v) g t cs := (heap_setCell_other w p g v hp).trans h
theorem Box.cell {w : World} {g : Nat} {t : TypeId} {cs : Array Value} (h : Box w g t cs) {k : Nat} {v : Value} (hv : cs[k]? = some v) : w.cell? ⟨g, k, none⟩ = some v := (cell_of_row w g k cs t (0, 0) h).trans hv
theorem Box.frozen {w : World} {g : Nat} {t : TypeId} {cs : Array Value} (h : Box w g t cs) (k : Nat) : w.frozen? ⟨g, k, none⟩ = false := frozen_of_row w g k cs t h
theorem Box.drewN {w : World} {g : Nat} {t : TypeId} {cs : Array Value} (h : Box w g t cs) (n : Nat) : Box (w.drewN n) g t cs := h
theorem Box.drew {w : World} {g : Nat} {t : TypeId} {cs : Array Value} (h : Box w g t cs) : Box w.drew g t cs := h
theorem below_drewN {B : Nat} {a w : World} (h : Below B a w) (n : Nat) : Below B a (w.drewN n) := ⟨h.os, h.tape, h.output, h.size, h.block⟩
theorem bal {w w1 : World} {B : Nat} (h : Below B w w1) (hB : B ≤ w1.heap.size) (o : Obj) : Below B w (w1.alloc o) := h.alloc hB o
theorem bch {w w1 w2 : World} (h : Below w.heap.size w w1) (h2 : Below w1.heap.size w1 w2) : Below w.heap.size w w2 := h.trans (h2.mono h.size)

theorem below_row {B g : Nat} {a w : World} (h : Below B a w) (hg : B ≤ g) (cs : Array Value) : Below B a (w.setRow g cs) :=
  ⟨h.os, h.tape, h.output, by simpa using h.size, fun k hk => (setRow_other w g k cs (by omega)).trans (h.block k hk)⟩
theorem Box.row {w : World} {g : Nat} {t : TypeId} {old : Array Value} (h : Box w g t old) (cs : Array Value) : Box (w.setRow g cs) g t cs := setRow_heap w g old cs t _ h
theorem Box.far_row {w : World} {g k : Nat} {t : TypeId} {cs : Array Value} (h : Box w k t cs) (hk : k ≠ g) (new : Array Value) : Box (w.setRow g new) k t cs := (setRow_other w g k new hk).trans h

/-- One cell of an array that goes by value. -/
theorem run_index_arr {P : Program} {t e n k : Nat} {cs : Array Value} {v : Value} (ht : P.underlying t = some (.array n e)) (ha : ∀ w, (isAgg e).run P w = .ok false w) (hs : ∀ w, (Go.sizeOf e).run P w = .ok 1 w) (hk : k < n) (hv : cs[k]? = some v) (w : World) :
    (Instr.index t (.agg cs) (.int .i64 (k : Int))).run P w = .ok v w := by
  have h0 : (0 : Int) ≤ (k : Int) ∧ (k : Int) < (n : Int) := by omega
  have h1 : ¬ n ≤ k := by omega
  simp [Instr.index, Sem.run_bind, run_underlying ht, asIntOf, h0, h1, hs, Go.part, ha, hv]

/-- A variable of an array's type is made. -/
theorem wpList_zero {P : Program} {ops : Array Oper} {rest : List Oper} {o : Oper} {a : Act} {w : World} {Q : Exit → Act → World → Prop} (hg : o.guard = none) (t : TypeId) (ho : o.op = .alloc t) (cs : Array Value) (hz : (P.info? t).map (·.zero) = some (some (.agg cs)))
    (h : wpList P ops Q rest (a.put o.dst (.pointer (some ⟨w.heap.size, 0, none⟩))) (w.alloc (.cells cs t))) : wpList P ops Q (o :: rest) a w :=
  wpList_plain hg fun _ hK => by
    unfold Oper.wp execOp
    cases hq : P.info? t with
    | none => simp [hq] at hz
    | some i =>
      have hz' : i.zero = some (.agg cs) := by simpa [hq] using hz
      simp [ho, Instr.alloc, zeroValue, typeInfo, hq, hz', newVar, Value.cells]
      exact hK _ _ h

/-- The primes stand in the program's variable. -/
def primesV : List Value := primesL.map fun p : Nat => .int .u64 (p : Int)
def primesA : Array Value := primesV.toArray
def Prim (t : TypeId) (fr : Nat × Nat) (w : World) : Prop := w.heap[0]? = some (.cells primesA t fr)
section
variable {t : TypeId} {fr : Nat × Nat} {w w' : World}
theorem Prim.lt (h : Prim t fr w) : 0 < w.heap.size := by
  rcases Nat.lt_or_ge 0 w.heap.size with h' | h'
  · exact h'
  · unfold Prim at h
    rw [Array.getElem?_eq_none h'] at h
    cases h
theorem Prim.below {B : Nat} (h : Prim t fr w) (hb : Below B w w') (hB : 0 < B) : Prim t fr w' := (hb.block 0 hB).trans h
theorem Prim.on (h : Prim t fr w) (hb : Below w.heap.size w w') : Prim t fr w' := h.below hb h.lt
theorem Prim.alloc (h : Prim t fr w) (o : Obj) : Prim t fr (w.alloc o) := h.on ((Below.refl w.heap.size w).alloc (Nat.le_refl _) o)
end
theorem prime_at {k : Nat} (hk : k < 64) : ∃ p, primesL[k]? = some p ∧ p < 512 ∧ primesA[k]? = some (.int .u64 (p : Int)) := by
  have hl : k < primesL.length := hk
  refine ⟨primesL[k], List.getElem?_eq_getElem hl, ?_, ?_⟩
  · have hall : ∀ p ∈ primesL, p < 512 := by decide
    exact hall _ (List.getElem_mem hl)
  · unfold primesA primesV
    rw [List.getElem?_toArray, List.getElem?_map, List.getElem?_eq_getElem hl]
    rfl

def constsV : List Value := consts.map u
def constsA : Array Value := constsV.toArray
theorem constsV_len : constsV.length = 64 := rfl
theorem const_at {k p : Nat} (h : primesL[k]? = some p) : constsV[k]? = some (u (cubeOf p)) := by
  unfold constsV
  rw [← consts_eq, List.getElem?_map, List.getElem?_map, h]
  rfl

theorem consts_one : constsA.all (·.oneCell') = true := by kernel_rfl
theorem zeros_size : (part (.int .u32 0) constsV 64 0).size = constsA.size := by kernel_rfl
theorem info31 : (Tryd.prog.info? 31).map (·.size) = some 64 := by kernel_rfl
theorem info70 : (Tryd.prog.info? 70).map (·.size) = some 64 := by kernel_rfl
theorem info50 : (Tryd.prog.info? 50).map (·.size) = some 1 := by kernel_rfl
abbrev z32 : Value := .int .u32 0
theorem zero31 (l : List Value) : (Tryd.prog.info? 31).map (·.zero) = some (some (.agg (part z32 l 64 0))) := by
  rw [part_zero]
  kernel_rfl

theorem behind_cube (b p : Nat) (hp : p < 512) (w : World) (hc : w.cell? ⟨b, 0, none⟩ = some (.int .u64 (p : Int))) : Calls Tryd.prog 31 #[.func (.func 32) #[] #[.pointer (some ⟨b, 0, none⟩)]] w fun e w' => e = .returned (u (cubeOf p)) ∧ w = w' := behind_any 32 (.inl rfl) b _ w (cubeClosure p b hp w hc)
theorem behind_square (b p : Nat) (w : World) (hc : w.cell? ⟨b, 0, none⟩ = some (.int .u64 (p : Int))) : Calls Tryd.prog 31 #[.func (.func 43) #[] #[.pointer (some ⟨b, 0, none⟩)]] w fun e w' => e = .returned (u (squareOf p)) ∧ w = w' := behind_any 43 (.inr rfl) b _ w (squareClosure p b w hc)

set_option maxRecDepth 100000 in
set_option maxHeartbeats 2000000 in
theorem constants_any (t : TypeId) (fr : Nat × Nat) (w : World) (hP : Prim t fr w) : Calls Tryd.prog 12 #[] w fun e w' => e = .returned (.agg constsA) ∧ Below w.heap.size w w' := by
  have HP := Lib.hid hP
  clear hP
  go_enter Tryd.func12, Tryd.ntmps12
  go_wp2_with (first
    | (with_reducible refine wpList_zero rfl 31 rfl (part z32 constsV 64 0) (zero31 _) ?_)
    | (refine wpList_load_row rfl 70 (.global 0) rfl 0 rfl t primesA fr (.array 64 50) ((HP.out.alloc _).alloc _) Tryd.underlying70 rfl info70 ?_))
  go_loopw [2, 3, 5, 6, 7, 8, 9, 10, 11, 12, 13] (fun _ _ i _ _ _ _ _ _ _ _ wr => ∃ k : Nat, k ≤ 64 ∧ i = .int .i64 k ∧ Hid (Box wr w.heap.size 31 (part z32 constsV 64 0)) ∧ Hid (Box wr (w.heap.size + 1) 31 (part z32 constsV 64 k)) ∧ Below w.heap.size w wr) (fun _ _ i _ _ _ _ _ _ _ _ _ => 64 - (Lib.intOf i).toNat)
  case atStart => exact ⟨0, Nat.zero_le _, rfl, Lib.hid ((show Box _ _ _ _ from heap_alloc_new w _).alloc _), Lib.hid (heap_alloc2_new w _ _), ((Below.refl _ _).alloc (Nat.le_refl _) _).alloc (by simp) _⟩
  case round =>
    obtain ⟨k, hk, rfl, H0, H1, hB⟩ := hrel
    have hsz := hB.size
    have l1 := H1.out.lt
    by_cases hlt : k < 64
    · obtain ⟨p, hp, hp2, hp3⟩ := prime_at hlt
      have hix := run_index_arr (P := Tryd.prog) Tryd.underlying70 Tryd.isAgg50 Tryd.sizeOf50 hlt hp3
      have c1 := H1.out.cell (part_next (z := z32) (l := constsV) (n := 64) hlt (Nat.le_of_lt hlt))
      have f1 := H1.out.frozen k
      have HC := Lib.hid (const_at hp)
      clear hp hp3
      have ht : (wr.alloc (.cells #[.int .u64 (p : Int)] 50)).cell? ⟨wr.heap.size, 0, none⟩ = some (.int .u64 (p : Int)) := (show Box _ _ _ _ from heap_alloc_new wr _).cell rfl
      have HT := Lib.hid ht
      clear ht
      go_wp2_with (go_at_call 31; refine (behind_cube _ p hp2 _ HT.out).mono ?_; rintro e w1 ⟨rfl, rfl⟩)
      go_roundw
      case rel =>
        refine ⟨k + 1, hlt, by go_num, Lib.hid ((H0.out.far (by simp) _).alloc _), Lib.hid ?_, (hB.setCell (by simp) _).alloc (by simpa using hsz) _⟩
        have := H1.out.set (k := k) (u (cubeOf p))
        rw [part_set hlt HC.out] at this
        exact this.alloc _
      case measure => simp [Lib.intOf]; omega
    · obtain rfl : k = 64 := by omega
      have H2 : Hid (Box wr (w.heap.size + 1) 31 constsA) := Lib.hid (by have := H1.out; rw [part_full constsV_len] at this; exact this)
      go_wp2_with (first
        | (refine wpList_load_row rfl 31 (.tmp 1) rfl (w.heap.size + 1) rfl 31 constsA (0, 0) (.array 64 30) H2.out Tryd.underlying31 rfl info31 ?_)
        | (refine wpList_store_row rfl 31 (.tmp 0) (.tmp 14) rfl w.heap.size constsA rfl rfl 31 (part z32 constsV 64 0) H0.out info31 zeros_size consts_one ?_))
      exact bodyPost_ret (results_cell_row rfl _ _ w.heap.size 31 constsA (0, 0) (.array 64 30) rfl (setRow_heap _ _ _ _ _ _ H0.out) Tryd.underlying31 rfl info31) rfl ⟨rfl, below_row hB (Nat.le_refl _) _⟩
end Go.Proofs.YtkenbppoldfecaaDoor
