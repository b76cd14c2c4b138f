/- Proved here: parts of a slice that read as parts of its bytes; an append at a step of a region that draws. -/
import Derived.Test.YtkenbppoldfecaaDoorGoOn
import Derived.Deep.DeepCutAuto
import Derived.Deep.CutBlock
import Derived.Maps.AppendAt
namespace Go.Proofs.YtkenbppoldfecaaDoor
open Go.RowKit Go.Shelf Go.Joins

/-- Wherever B reads as b, v reads as x. -/
def Part (B : Value) (b : Bytes) (v : Value) (x : Bytes) : Prop := ∀ w, Rd w B (bytesV b) → Rd w v (bytesV x)
theorem Part.whole (B : Value) (b : Bytes) : Part B b B b := fun _ h => h
theorem Part.take {B : Value} {b x : Bytes} {a : Option Addr} {m c : Nat} (h : Part B b (.slice a m c) x) (hm : m = x.length) (k : Nat) (hk : k ≤ m) : Part B b (.slice a k c) (x.take k) := fun w hw => take_rd (h w hw) hm k hk
theorem Part.drop {B : Value} {b x : Bytes} {a : Option Addr} {m c : Nat} (h : Part B b (.slice a m c) x) (hm : m = x.length) (k : Nat) (hk : k ≤ m) : Part B b (.slice (if c = k then a else a.map (·.add k)) (m - k) (c - k)) (x.drop k) := fun w hw => drop_rd (h w hw) hm k hk

/-- These values read as these rows. -/
def Parts (B : Value) (b : Bytes) (vs : List Value) (ls : List Bytes) : Prop := vs.length = ls.length ∧ (∀ y ∈ vs, y.oneCell' = true) ∧ ∀ (i : Nat) (v : Value) (x : Bytes), vs[i]? = some v → ls[i]? = some x → Part B b v x
theorem Parts.nil (B : Value) (b : Bytes) : Parts B b [] [] := ⟨rfl, by simp, fun _ _ _ h => by cases h⟩
theorem Parts.push {B : Value} {b x : Bytes} {vs : List Value} {ls : List Bytes} {a : Option Addr} {m c : Nat} (h : Parts B b vs ls) (hx : Part B b (.slice a m c) x) : Parts B b (vs ++ [.slice a m c]) (ls ++ [x]) := by
  obtain ⟨h1, h2, h3⟩ := h
  refine ⟨by simp [h1], fun y hy => ?_, fun i v z hv hz => ?_⟩
  · rcases List.mem_append.1 hy with hy | hy
    · exact h2 y hy
    · rw [List.mem_singleton.1 hy]
      rfl
  · by_cases hi : i < vs.length
    · rw [List.getElem?_append_left hi] at hv
      rw [List.getElem?_append_left (by omega)] at hz
      exact h3 i v z hv hz
    · have hl := (List.getElem?_eq_some_iff.1 hv).1
      simp at hl
      obtain rfl : i = vs.length := by omega
      rw [List.getElem?_append_right (Nat.le_refl _), Nat.sub_self] at hv
      rw [List.getElem?_append_right (by omega), h1, Nat.sub_self] at hz
      cases hv
      cases hz
      exact hx
theorem Parts.rdR {B : Value} {b : Bytes} {vs : List Value} {ls : List Bytes} {w : World} {v : Value} (h : Parts B b vs ls) (hB : Rd w B (bytesV b)) (hv : Rd w v vs) : RdR w v (ls.map bytesV) := by
  refine ⟨vs, hv, by rw [List.length_map]; exact h.1, fun i y r hy hr => ?_⟩
  rw [List.getElem?_map] at hr
  obtain ⟨x, hx, rfl⟩ := Option.map_eq_some_iff.1 hr
  exact h.2.2 i y x hy hx w hB

/-- append of one slice to a row of slices of the call's own, at a step of a region that draws. -/
theorem wp_append_if {op : Oper} {a : Act} {w : World} {K : Act → World → Prop} {Q : Exit → Act → World → Prop} {ops : Array Oper} (hw : Region.wanted op (yielded ops a.tmps) = true) (s x : Operand)
    (ho : op.op = .call { callee := .builtin .append, args := #[s, x], argTypes := #[22, 22] }) (base : Nat) (v : Value) (vs : List Value) (hs : a.eval s = v) (hown : w.ownsRow base 24 1 v vs.length vs) (g : Nat) (y : Value) (hx : a.eval x = .slice (some ⟨g, 0, none⟩) 1 1)
    (hy : w.cell? ⟨g, 0, none⟩ = some y) (h1 : y.oneCell' = true) (hb : base ≤ w.heap.size) (hl : vs.length ≤ 1000)
    (h : ∀ v' w', w'.ownsRow base 24 1 v' (vs ++ [y]).length (vs ++ [y]) → w.grownBy w' v.ownBlock → K (a.put op.dst v') w') : if Region.wanted op (yielded ops a.tmps) = true then op.wp Tryd.prog a w K Q else K (a.put op.dst undef) w := by
  rw [if_pos hw]
  obtain ⟨i0, hi, hz0, hz1, hz2⟩ := info_parts info24
  obtain ⟨v', w', hr, h2, h3, _⟩ := run_append_own_at (P := Tryd.prog) w base 22 op.type 24 i0 (.slice none 0 0) 1 24 Tryd.underlying22 hi hz0 hz1 hz2 rfl (by decide) v vs.length vs hown ⟨g, 0, none⟩ 1 1 [y] rfl (fun j u hu => by
    have hj : j = 0 := by
      have := (List.getElem?_eq_some_iff.1 hu).1
      simpa using this
    subst hj
    cases hu
    exact hy) (by simpa using h1) (by unfold maxLen; omega) (by omega) hb
  unfold Oper.wp execOp
  simp only [ho, resolve, invoke, builtin, Sem.run_bind, Sem.run_pure, Result.andThen_ok, List.map_toArray, List.map_cons, List.map_nil, hs, hx, hr]
  exact h v' w' (by rw [List.length_append]; exact h2) h3

theorem Box.grown {w w' : World} {k t : Nat} {cs : Array Value} {row : Option Nat} (h : Box w k t cs) (hg : w.grownBy w' row) (hne : row ≠ some k) : Box w' k t cs := (hg.block k h.lt (fun e => hne e.symm)).trans h
theorem own24_on {w w' : World} {B n : Nat} {v : Value} {xs : List Value} (h : w.ownsRow B 24 1 v n xs) (hb : Below w.heap.size w w') : w'.ownsRow B 24 1 v n xs :=
  h.kept (row := none) ⟨hb.os, hb.tape, hb.output, hb.size, fun k hk _ => hb.block k hk⟩ (Classical.em _)
theorem own24_far {w : World} {base g n : Nat} {v : Value} {xs : List Value} (h : w.ownsRow base 24 1 v n xs) (hg : g < base) (cs : Array Value) : (w.setRow g cs).ownsRow base 24 1 v n xs := own_far_row h hg cs

/-- What the last test of ShaParts needs of a world: both digests, the sum that goes on, and all that lay there ahead. -/
structure Keeps (D : Bytes) (g14 g16 g5 : Nat) (V : Array Value) (w3 w' : World) : Prop where
  d1 : Box w' g14 27 (bytesA D)
  d2 : Box w' g16 27 (bytesA D)
  r : Box w' g5 52 V
  low : Below w3.heap.size w3 w'
namespace Keeps
variable {D : Bytes} {g14 g16 g5 : Nat} {V : Array Value} {w3 w' w'' : World}
theorem drew (h : Keeps D g14 g16 g5 V w3 w') : Keeps D g14 g16 g5 V w3 w'.drew := ⟨h.d1, h.d2, h.r, h.low.drew⟩
theorem alloc (h : Keeps D g14 g16 g5 V w3 w') (o : Obj) : Keeps D g14 g16 g5 V w3 (w'.alloc o) := ⟨h.d1.alloc o, h.d2.alloc o, h.r.alloc o, h.low.alloc h.low.size o⟩
theorem on (h : Keeps D g14 g16 g5 V w3 w') (hb : Below w'.heap.size w' w'') : Keeps D g14 g16 g5 V w3 w'' := ⟨h.d1.below hb h.d1.lt, h.d2.below hb h.d2.lt, h.r.below hb h.r.lt, bch h.low hb⟩
theorem grown (h : Keeps D g14 g16 g5 V w3 w') {row : Option Nat} (hg : w'.grownBy w'' row) (h1 : row ≠ some g14) (h2 : row ≠ some g16) (h3 : row ≠ some g5) (hr : ∀ j, row = some j → w3.heap.size ≤ j) : Keeps D g14 g16 g5 V w3 w'' := ⟨h.d1.grown hg h1, h.d2.grown hg h2, h.r.grown hg h3, h.low.grown hg h.low.size hr⟩
end Keeps

theorem end_q (t : TypeId) (fr : Nat × Nat) (b : Bytes) (S : St) (r : Bytes) (q m : Nat) (D : Bytes) (hS : S = wordsOf first b) (hr : r = restOf b) (hq : q = r.length) (hm : m = b.length) (hD : D = sumL b) (a : Option Addr) (c : Nat) (w : World) (hP : Prim t fr w) (hv : Rd w (.slice a q c) (bytesV r)) (hb : m ≤ 1000000) :
    Calls Tryd.prog 21 #[.agg (runA S (.slice a q c) m)] w fun e w' => e = .returned (.tuple #[.agg (bytesA D), .int .i64 0]) ∧ Below w.heap.size w w' := by
  have h := end_any t fr S r a q c m w hP (by rw [hS, hq, hr, hm]; exact mayBe_words b (by omega)) hq hv (by omega)
  have e : digestL (wordsOf S (r ++ padL m)) = D := by
    rw [hD, hS, hr, hm, (more_words first b (padL b.length)).1]
    rfl
  rw [e] at h
  exact h
theorem sum_q (t : TypeId) (fr : Nat × Nat) (ls : List Bytes) (b D : Bytes) (hls : ls.flatten = b) (hD : D = sumL b) (v : Value) (w : World) (hP : Prim t fr w) (hv : RdR w v (ls.map bytesV)) (hn : ls.length ≤ 1000) (hb : b.length ≤ 1000000) :
    Calls Tryd.prog 10 #[v] w fun e w' => e = .returned (.agg (bytesA D)) ∧ Below w.heap.size w w' := by
  rw [hD]
  exact sum_any ls b hls v t fr w hP hv hn (by omega)
theorem one_rd {w : World} {B : Value} {b : Bytes} {a : Option Addr} {m c : Nat} (hB : B = .slice a m c) (h : Rd w B (bytesV b)) : RdR (w.alloc (.cells #[B] 24)) (.slice (some ⟨w.heap.size, 0, none⟩) 1 1) ([b].map bytesV) := by
  subst hB
  refine ⟨[.slice a m c], rd_box (xs := [.slice a m c]) (box_new _ _ _ rfl) rfl (by unfold maxLen; omega), rfl, fun j x r hx hr => ?_⟩
  have hj : j = 0 := by
    have := (List.getElem?_eq_some_iff.1 hx).1
    simpa using this
  subst hj
  cases hx
  cases hr
  exact h.on (below_new _ _)
theorem same27 (D : Bytes) (hD : D.length = 32) (W : World) : (Op.equalIn 10000 27 (.agg (bytesA D)) (.agg (bytesA D))).run Tryd.prog W = .ok true W := by
  have h : (Op.equalIn (9998 + 2) 27 (.agg (bytesA D)) (.agg (bytesA D))).run Tryd.prog W = .ok (D == D) W := run_equalIn_bytes W 9998 27 5 32 Tryd.underlying27 Tryd.underlying5 Tryd.sizeOf5 D D hD hD
  rw [show (10000 : Nat) = 9998 + 2 from rfl, h]
  simp
theorem sumL_len (b : Bytes) : (sumL b).length = 32 := digestL_len _
end Go.Proofs.YtkenbppoldfecaaDoor
