/- Proved here: More of package sha at the beginning, and behind some bytes, in words that a walk can carry. -/
import Derived.Test.YtkenbppoldfecaaDoorMath3
namespace Go.Proofs.YtkenbppoldfecaaDoor
open Go.RowKit Go.Shelf Go.Joins

/-- What More hands back: a sum that goes on, whose rest is its own. -/
def MoreQ (S : St) (r : Bytes) (q n : Nat) (w : World) (e : Ending) (w' : World) : Prop :=
  ∃ a c, e = .returned (.tuple #[.agg (runA S (.slice a q c) n), .int .i64 0]) ∧ Hid (w'.ownsRow w.heap.size 5 1 (.slice a q c) q (bytesV r)) ∧ Below w.heap.size w w'

theorem moreQ_of {S S' : St} {r rest l : Bytes} {q n n' : Nat} {w w' : World} {e : Ending} (h : MoreR S' rest l n' w e w') (hS : S = wordsOf S' (rest ++ l)) (hr : r = restOf (rest ++ l)) (hq : q = r.length) (hn : n = n' + l.length) : MoreQ S r q n w e w' := by
  subst hS hr hq hn
  obtain ⟨v', rfl, hown, hb⟩ := h
  obtain ⟨b, d, rfl⟩ : ∃ b d, v' = .slice b (restOf (rest ++ l)).length d := by
    obtain ⟨b, d, h, _⟩ := Rd.of_own hown
    rw [bytesV_len] at h
    exact ⟨b, d, h⟩
  exact ⟨b, d, rfl, Lib.hid hown, hb⟩

theorem more_first (t : TypeId) (fr : Nat × Nat) (x : Bytes) (S : St) (r : Bytes) (q n : Nat) (hS : S = wordsOf first x) (hr : r = restOf x) (hq : q = r.length) (hn : n = x.length) (v : Value) (w : World) (hP : Prim t fr w) (hv : Rd w v (bytesV x)) (hx : x.length ≤ 1000000) :
    Calls Tryd.prog 20 #[.agg (runA first nilS 0), v] w (MoreQ S r q n w) :=
  (more_any t fr first [] x none 0 0 0 v w hP ⟨by omega, rfl, fun _ => rfl⟩ rfl (Rd.nil w) hv (by omega)).mono fun _ _ h => moreQ_of h (by rw [hS]; rfl) (by rw [hr]; rfl) hq (by omega)

theorem more_next (t : TypeId) (fr : Nat × Nat) (x y : Bytes) (S0 : St) (r0 : Bytes) (q0 n0 : Nat) (hS0 : S0 = wordsOf first x) (hr0 : r0 = restOf x) (hq0 : q0 = r0.length) (hn0 : n0 = x.length)
    (S : St) (r : Bytes) (q n : Nat) (hS : S = wordsOf first (x ++ y)) (hr : r = restOf (x ++ y)) (hq : q = r.length) (hn : n = (x ++ y).length) (a : Option Addr) (c : Nat) (v : Value) (w : World) (hP : Prim t fr w) (h0 : Rd w (.slice a q0 c) (bytesV r0)) (hv : Rd w v (bytesV y)) (hx : (x ++ y).length ≤ 1000000) :
    Calls Tryd.prog 20 #[.agg (runA S0 (.slice a q0 c) n0), v] w (MoreQ S r q n w) := by
  rw [List.length_append] at hx hn
  refine (more_any t fr S0 r0 y a q0 c n0 v w hP ?_ hq0 h0 hv (by omega)).mono fun _ _ h => moreQ_of h ?_ ?_ hq (by omega)
  · rw [hq0, hn0, hr0, hS0]
    exact mayBe_words x (by omega)
  · rw [hS, hS0, hr0, (more_words first x y).1]
  · rw [hr, hr0, (more_words first x y).2]

theorem begin_q (t : TypeId) (fr : Nat × Nat) (w : World) (hP : Prim t fr w) : Calls Tryd.prog 19 #[] w fun e w' => e = .returned (.agg (runA first nilS 0)) ∧ Below w.heap.size w w' := begin_any t fr w hP
theorem box52_new {w W : World} (h : Below w.heap.size w W) : w.heap.size ≤ W.heap.size ∧ Box (W.alloc (.cells #[z32, z32, z32, z32, z32, z32, z32, z32, nilS, .int .u64 0] 52)) W.heap.size 52 #[z32, z32, z32, z32, z32, z32, z32, z32, nilS, .int .u64 0] := ⟨h.size, box_new _ _ _ rfl⟩
theorem own_far_row' {w : World} {base base' g n : Nat} {e : TypeId} {v : Value} {xs : List Value} (h : w.ownsRow base e 1 v n xs) (hg : g < base) (hb : base' ≤ base) (cs : Array Value) : (w.setRow g cs).ownsRow base' e 1 v n xs := own_mono (own_far_row h hg cs) hb
/-- A whole Running that is read, at a step of a region that draws. -/
theorem rangeR {w : World} {g : Nat} {cs : Array Value} (h : Box w g 52 cs) : w.rangeAt g 0 cs.toList := fun j v hv => by
  rw [Nat.zero_add]
  exact h.cell (by simpa using hv)
theorem range_w2 {w : World} {g : Nat} {s : St} {v : Value} {n : Nat} (h : Box w g 52 (runA s v n)) : w.rangeAt g 0 (runV s v n) := fun j x hx => by
  rw [Nat.zero_add]
  exact h.cell (by unfold runA; rw [List.getElem?_toArray]; exact hx)
/-- A whole row that is read, at a step of a region that draws. -/
theorem wp_load_if {P : Program} {op : Oper} {a : Act} {w : World} {K : Act → World → Prop} {Q : Exit → Act → World → Prop} {ops : Array Oper} (hw : Region.wanted op (yielded ops a.tmps) = true) (ty : TypeId) (x : Operand) (ho : op.op = .load ty x)
    (g t : Nat) (cs : Array Value) (hx : a.eval x = .pointer (some ⟨g, 0, none⟩)) (hg : Box w g t cs) (d : TypeDesc) (hu : P.underlying ty = some d) (hd : (match d with | .struct _ | .array _ _ => true | _ => false) = true) (hi : (P.info? ty).map (·.size) = some cs.size)
    (h : K (a.put op.dst (.agg cs)) w) : if Region.wanted op (yielded ops a.tmps) = true then op.wp P a w K Q else K (a.put op.dst undef) w := by
  rw [if_pos hw]
  exact wp_load_row ty x ho g hx t cs (0, 0) d hg hu hd hi h
theorem take_rd {w : World} {a : Option Addr} {m c : Nat} {b : Bytes} (h : Rd w (.slice a m c) (bytesV b)) (hm : m = b.length) (k : Nat) (hk : k ≤ m) : Rd w (.slice a k c) (bytesV (b.take k)) := by
  have := h.take (by rw [bytesV_len]; exact hm) k hk
  unfold bytesV at this ⊢
  rw [List.map_take]
  exact this
theorem drop_rd {w : World} {a : Option Addr} {m c : Nat} {b : Bytes} (h : Rd w (.slice a m c) (bytesV b)) (hm : m = b.length) (k : Nat) (hk : k ≤ m) : Rd w (.slice (if c = k then a else a.map (·.add k)) (m - k) (c - k)) (bytesV (b.drop k)) := by
  have := h.drop (by rw [bytesV_len]; exact hm) k hk
  unfold bytesV at this ⊢
  rw [List.map_drop]
  exact this
theorem run_slice_upto {P : Program} {t e : TypeId} (ht : P.underlying t = some (.slice e)) (hs : ∀ w, (Go.sizeOf e).run P w = .ok 1 w) (a : Option Addr) (len cap k : Nat) (hk : k ≤ cap) (w : World) :
    (Instr.slice t (.slice a len cap) none (some (.int .i64 (k : Int))) none).run P w = .ok (.slice a k cap) w := by
  have h1 : (0 : Int) ≤ (k : Int) ∧ (k : Int) ≤ (cap : Int) := by omega
  cases a <;> simp [Instr.slice, Sem.run_bind, run_underlying ht, Instr.sliceBounds, Instr.sliceBound, asIntOf, hk, h1, hs, Addr.add]
end Go.Proofs.YtkenbppoldfecaaDoor
