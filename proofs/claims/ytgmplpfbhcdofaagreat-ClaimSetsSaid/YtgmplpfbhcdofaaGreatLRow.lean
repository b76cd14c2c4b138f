/- Proved here: leaves and rows of leaves as they lie in memory, slices.Clone of such a row. -/
import Derived.Test.YtgmplpfbhcdofaaGreatBase
import Derived.Test.YtgmplpfbhcdofaaGreatPPath4
import Derived.Lib.IndexBytes
import Derived.Deep.DeepCutAuto
import Derived.Lib.SliceRun
import Derived.Laws.CopyRow
import Derived.Laws.Rows
namespace Go.Proofs.YtgmplpfbhcdofaaGreat
open Go.RowKit Go.Shelf
attribute [local go_sem] Oper.semAt_some

theorem below_row14 {B g : Nat} {a w : World} (h : Below B a w) (hg : B ≤ g) (cs : Array Value) : Below B a (w.setRow g cs) :=
  ⟨h.os, h.tape, h.output, by simpa using h.size, fun k hk => (setRow_other w g k cs (by omega)).trans (h.block k hk)⟩
theorem Boxed.row14 {w : World} {g : Nat} {t : TypeId} {old : Array Value} (h : Box w g t old) (cs : Array Value) : Box (w.setRow g cs) g t cs := setRow_heap w g old cs t _ h
/-- A leaf. -/
structure Lf where
  p : Bs
  dir : Bool
  d : Bs
deriving DecidableEq
def Lf.nil : Lf := ⟨[], false, []⟩
theorem Box.below {w w' : World} {B g : Nat} {t : TypeId} {cs : Array Value} (h : Box w g t cs) (hb : Below B w w') (hg : g < B) : Box w' g t cs := (hb.block g hg).trans h
theorem Box.on {w w' : World} {g : Nat} {t : TypeId} {cs : Array Value} (h : Box w g t cs) (hb : Below w.heap.size w w') : Box w' g t cs := h.below hb h.lt
theorem Box.far_row {w : World} {g k : Nat} {t : TypeId} {cs : Array Value} (h : Box w k t cs) (hk : k ≠ g) (new : Array Value) : Box (w.setRow g new) k t cs := (setRow_other w g k new hk).trans h
theorem Box.alloc {w : World} {g : Nat} {t : TypeId} {cs : Array Value} (h : Box w g t cs) (o : Obj) : Box (w.alloc o) g t cs := (Below.heap_alloc w o g h.lt).trans h
theorem box_new {w : World} {t : TypeId} {cs : Array Value} : Box (w.alloc (.cells cs t)) w.heap.size t cs := heap_alloc_new w _

/-! ### Leaves -/
def Lf.arr (x : Lf) : Array Value := #[.string ⟨x.p.toArray⟩, .bool x.dir, .string ⟨x.d.toArray⟩]
def Lf.cells (x : Lf) : List Value := [.string ⟨x.p.toArray⟩, .bool x.dir, .string ⟨x.d.toArray⟩]
def flatL (l : List Lf) : List Value := l.flatMap Lf.cells
theorem flatL_cons (v : Lf) (l : List Lf) : flatL (v :: l) = v.cells ++ flatL l := rfl
theorem flatL_append (a b : List Lf) : flatL (a ++ b) = flatL a ++ flatL b := List.flatMap_append
theorem lcells_len (v : Lf) : v.cells.length = 3 := rfl
theorem flatL_len (l : List Lf) : (flatL l).length = l.length * 3 := by
  induction l with
  | nil => rfl
  | cons v l ih => rw [flatL_cons, List.length_append, ih, List.length_cons, lcells_len]; omega
theorem flat3L (l : List Lf) (j r : Nat) (hr : r < 3) : (flatL l)[j * 3 + r]? = (l[j]?).bind fun v => v.cells[r]? := by
  induction l generalizing j with
  | nil => simp [flatL]
  | cons v l ih =>
    cases j with
    | zero =>
      rw [flatL_cons, Nat.zero_mul, Nat.zero_add, List.getElem?_append_left (by rw [lcells_len]; exact hr)]
      rfl
    | succ j =>
      rw [flatL_cons, List.getElem?_append_right (by rw [lcells_len]; omega), lcells_len, show (j + 1) * 3 + r - 3 = j * 3 + r by omega, ih]
      rfl
theorem lf_one (v : Lf) : ∀ u ∈ v.cells, u.oneCell' = true := by
  intro u hu
  simp [Lf.cells] at hu
  rcases hu with rfl | rfl | rfl <;> rfl
theorem flatL_one (l : List Lf) : ∀ u ∈ flatL l, u.oneCell' = true := by
  intro u hu
  obtain ⟨v, _, hv⟩ := List.mem_flatMap.1 hu
  exact lf_one v u hv
theorem flatL_take (l : List Lf) (k : Nat) : flatL (l.take k) = (flatL l).take (k * 3) := by
  induction l generalizing k with
  | nil => simp [flatL]
  | cons v l ih =>
    cases k with
    | zero => simp [flatL]
    | succ k =>
      rw [List.take_succ_cons, flatL_cons, flatL_cons, ih, show (k + 1) * 3 = v.cells.length + k * 3 by rw [lcells_len]; omega, List.take_append, Nat.add_sub_cancel_left, List.take_of_length_le (l := v.cells) (by omega)]

/-- A slice of n elements that reads as these cells. -/
def RdX (w : World) (x : Value) (n : Nat) (xs : List Value) : Prop :=
  ∃ a c, x = .slice a n c ∧ n ≤ c ∧ c ≤ maxLen ∧ (0 < n → ∃ g o, a = some ⟨g, o, none⟩ ∧ g < w.heap.size ∧ ∀ (j : Nat) (u : Value), xs[j]? = some u → w.cell? ⟨g, o + j, none⟩ = some u)
theorem RdX.nil (w : World) : RdX w (.slice none 0 0) 0 [] := ⟨none, 0, rfl, Nat.le_refl _, Nat.zero_le _, fun h => absurd h (Nat.lt_irrefl _)⟩
theorem RdX.on {w w' : World} {x : Value} {n : Nat} {xs : List Value} (h : RdX w x n xs) (hb : Below w.heap.size w w') : RdX w' x n xs := by
  obtain ⟨a, c, h1, h2, h3, h4⟩ := h
  refine ⟨a, c, h1, h2, h3, fun h0 => ?_⟩
  obtain ⟨g, o, e, hg, hc⟩ := h4 h0
  exact ⟨g, o, e, Nat.lt_of_lt_of_le hg hb.size, fun j u hu => (hb.cell (p := ⟨g, _, none⟩) hg).trans (hc j u hu)⟩
theorem RdX.of_own {w : World} {B s n : Nat} {e : TypeId} {x : Value} {xs : List Value} (h : w.ownsRow B e s x n xs) : RdX w x n xs := by
  have hx := h
  rcases h.2 with ⟨rfl, rfl⟩ | ⟨g, cap, cur, rfl, _, hg, h2, h3, _⟩
  · exact ⟨none, 0, rfl, Nat.le_refl _, Nat.zero_le _, fun h => absurd h (Nat.lt_irrefl _)⟩
  · exact ⟨_, _, rfl, h2, h3, fun _ => ⟨g, 0, rfl, (hx.lt g rfl).2, fun j u hu => by
      have := hx.cells (g := g) rfl j u hu
      rw [addr_add] at this
      exact this⟩⟩
def RdL (w : World) (x : Value) (l : List Lf) : Prop := RdX w x l.length (flatL l)
theorem RdL.on {w w' : World} {x : Value} {l : List Lf} (h : RdL w x l) (hb : Below w.heap.size w w') : RdL w' x l := RdX.on h hb
theorem RdL.nil (w : World) : RdL w (.slice none 0 0) [] := RdX.nil w
/-- The three cells of an item. -/
structure LAt (w : World) (g o : Nat) (b : Lf) : Prop where
  c0 : w.cell? ⟨g, o, none⟩ = some (.string ⟨b.p.toArray⟩)
  c1 : w.cell? ⟨g, o + 1, none⟩ = some (.bool b.dir)
  c2 : w.cell? ⟨g, o + 2, none⟩ = some (.string ⟨b.d.toArray⟩)
theorem lat_of {w : World} {g o : Nat} {l : List Lf} (hc : ∀ (j : Nat) (u : Value), (flatL l)[j]? = some u → w.cell? ⟨g, o + j, none⟩ = some u) (j : Nat) (b : Lf) (hj : l[j]? = some b) : LAt w g (o + j * 3) b := by
  have key : ∀ r u, r < 3 → b.cells[r]? = some u → w.cell? ⟨g, o + j * 3 + r, none⟩ = some u := fun r u hr hu => by
    have := flat3L l j r hr
    rw [hj] at this
    rw [Nat.add_assoc]
    exact hc (j * 3 + r) u (this.trans hu)
  exact ⟨key 0 _ (by omega) rfl, key 1 _ (by omega) rfl, key 2 _ (by omega) rfl⟩
theorem LAt.on {w w' : World} {g o : Nat} {b : Lf} (h : LAt w g o b) (hg : g < w.heap.size) (hb : Below w.heap.size w w') : LAt w' g o b :=
  have k : ∀ r u, w.cell? ⟨g, r, none⟩ = some u → w'.cell? ⟨g, r, none⟩ = some u := fun _ _ hu => (hb.cell (p := ⟨g, _, none⟩) hg).trans hu
  ⟨k _ _ h.c0, k _ _ h.c1, k _ _ h.c2⟩
theorem Box.lf {w : World} {g : Nat} {t : TypeId} {b : Lf} (h : Box w g t b.arr) : LAt w g 0 b := ⟨h.cell rfl, h.cell rfl, h.cell rfl⟩
theorem RdL.open {w : World} {x : Value} {l : List Lf} (h : RdL w x l) : ∃ a c, x = .slice a l.length c ∧ l.length ≤ c ∧ c ≤ maxLen ∧
    (0 < l.length → ∃ g o, a = some ⟨g, o, none⟩ ∧ g < w.heap.size ∧ ∀ (j : Nat) (b : Lf), l[j]? = some b → LAt w g (o + j * 3) b) := by
  obtain ⟨a, c, h1, h2, h3, h4⟩ := h
  refine ⟨a, c, h1, h2, h3, fun h0 => ?_⟩
  obtain ⟨g, o, e, hg, hc⟩ := h4 h0
  exact ⟨g, o, e, hg, fun j b hj => lat_of hc j b hj⟩
theorem RdL.take {w : World} {a : Option Addr} {n c : Nat} {l : List Lf} (hn : n = l.length) (h : RdL w (.slice a n c) l) (q : Nat) (hq : q ≤ n) : RdL w (.slice a q c) (l.take q) := by
  obtain ⟨a', c', e, h1, h2, h3⟩ := h
  cases e
  have el : (l.take q).length = q := by rw [List.length_take]; omega
  unfold RdL
  rw [el]
  refine ⟨a, c, rfl, by omega, h2, fun h0 => ?_⟩
  obtain ⟨g, o, e, hg, hc⟩ := h3 (by omega)
  refine ⟨g, o, e, hg, fun j u hj => hc j u ?_⟩
  rw [flatL_take] at hj
  rw [List.getElem?_take] at hj
  split at hj
  · exact hj
  · cases hj
theorem zeroL : Tryz.prog.built 63 [] = some Lf.nil.arr := by kernel_rfl
theorem zero41 : (Tryz.prog.info? 63).map (·.zero) = some (some (.agg Lf.nil.arr)) := by kernel_rfl
theorem info41 (b : Lf) : (Tryz.prog.info? 63).map (·.size) = some b.arr.size := by
  show _ = some 3
  kernel_rfl
theorem info41z : (Tryz.prog.info? 63).map (fun i => (i.zero, i.size, i.bytes)) = some (some (.agg Lf.nil.arr), 3, 40) := by kernel_rfl
theorem larr_one (b : Lf) : (b.arr).all (·.oneCell') = true := by
  simp [Lf.arr, Value.oneCell']

set_option maxRecDepth 100000 in
set_option maxHeartbeats 2000000 in
theorem lclone_any (l : List Lf) (x : Value) (w : World) (hx : RdL w x l) (hl : l.length ≤ 1000000) :
    Calls Tryz.prog 34 #[x] w fun e w' => ∃ x', e = .returned x' ∧ w'.ownsRow w.heap.size 63 3 x' l.length (flatL l) ∧ Below w.heap.size w w' := by
  obtain ⟨a, cap, rfl, hlc, hcm, hcell⟩ := id hx
  obtain ⟨i0, hi, hz0, hz1, hz2⟩ := info_parts info41z
  have q38 : ∀ (w : World) (a : Option Addr) (n c n' c' : Nat), (binOp .eql 52 (.slice a n c) (.slice none n' c')).run Tryz.prog w = .ok (.bool a.isNone) w := fun w a n c n' c' => Lib.run_eql_slice_nil w _ _ a n c n' c' Tryz.underlying52
  cases a with
  | none =>
    have h0 : l.length = 0 := by
      rcases Nat.eq_zero_or_pos l.length with h | h
      · exact h
      · obtain ⟨g, o, e, _⟩ := hcell h; cases e
    have : l = [] := List.eq_nil_of_length_eq_zero h0
    subst this
    clear hcell hx
    go_enter Tryz.func34, Tryz.ntmps34
    go_wp2
    go_ret
    exact ⟨_, rfl, World.ownsRow_nil _ _ _ _, Below.refl _ _⟩
  | some ad =>
    have hnews : ∀ (j : Nat) (u : Value), (flatL l)[j]? = some u → (w.alloc (.cells #[] 63)).cell? (ad.add j) = some u := fun j u hu => by
      have h0 : 0 < l.length := by
        have := (List.getElem?_eq_some_iff.1 hu).1
        rw [flatL_len] at this
        omega
      obtain ⟨g, o, e, hg, hc⟩ := hcell h0
      cases e
      rw [addr_add]
      exact Lib.cell?_alloc_some _ (hc j u hu)
    obtain ⟨n, hn⟩ : ∃ n, n = l.length := ⟨_, rfl⟩
    have hfl := flatL_len l
    rw [← hn] at hfl hl hlc
    rw [← hn]
    have HFL := Lib.hid hfl
    have HNW := Lib.hid hnews
    clear hcell hx hn hfl hnews
    go_enter Tryz.func34, Tryz.ntmps34
    go_wp2_with (at_builtin; refine wpList_append_own _ rfl _ _ 52 rfl w.heap.size 63 i0 (.agg Lf.nil.arr) 3 40 Tryz.underlying52 hi hz0 hz1 hz2 rfl (by decide) _ _ _ rfl (World.ownsRow_made w #[] 0 (Nat.le_refl _) (Nat.zero_le _) rfl) ad n cap (flatL l) rfl HFL.out HNW.out (flatL_one l) (by unfold maxLen; omega) (by omega) (by simp) ?_)
    intro v' w1 hown hgrow _
    go_wp2
    go_ret
    refine ⟨v', rfl, by simpa using hown, ?_⟩
    exact ((Below.refl _ w).alloc (Nat.le_refl _) _).grown hgrow (by simp) (by intro k hk; simp [Value.ownBlock] at hk; omega)
end Go.Proofs.YtgmplpfbhcdofaaGreat
