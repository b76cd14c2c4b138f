/- Boxes of cells, items and rows of items as they lie in memory, slices.Clone of such a row. -/
import Derived.Test.YtiakedoebecgpaaDoorRows
import Derived.Test.YtiakedoebecgpaaDoorWMath
import Derived.Test.YtiakedoebecgpaaDoorClean
import Derived.Test.YtiakedoebecgpaaDoorOf
import Derived.WalkKit
import Derived.Lib.Hide
import Derived.WalkSpells
import Derived.WalkLawsBesides
import Derived.Lib.IndexBytes
import Derived.Deep.QuietTactic
import Derived.Deep.DeepCutAuto
import Derived.BigQuiet
import Derived.Lib.SliceRun
import Derived.Laws.CopyRow
import Derived.Laws.Rows
import Derived.Maps.AppendAt
namespace Go.Proofs.YtiakedoebecgpaaDoor
open Go.RowKit Go.Shelf

theorem below_drewN' {B : Nat} {a w : World} (h : Below B a w) (n : Nat) : Below B a (w.drewN n) := ⟨h.os, h.tape, h.output, h.size, h.block⟩
theorem bch {w w1 w2 : World} (h : Below w.heap.size w w1) (h2 : Below w1.heap.size w1 w2) : Below w.heap.size w w2 := h.trans (h2.mono h.size)
theorem retb {a b : Bool} (h : a = b) : Ending.returned (.bool a) = .returned (.bool b) := by rw [h]

/-- The block is just these cells, none frozen. -/
def Box (w : World) (g : Nat) (t : TypeId) (cs : Array Value) : Prop := w.heap[g]? = some (.cells cs t (0, 0))
theorem Box.lt {w : World} {g : Nat} {t : TypeId} {cs : Array Value} (h : Box w g t cs) : g < w.heap.size := by
  rcases Nat.lt_or_ge g w.heap.size with h' | h'
  · exact h'
  · unfold Box at h
    rw [Array.getElem?_eq_none h'] at h
    cases h
theorem Box.below {w w' : World} {B g : Nat} {t : TypeId} {cs : Array Value} (h : Box w g t cs) (hb : Below B w w') (hg : g < B) : Box w' g t cs := (hb.block g hg).trans h
theorem Box.on {w w' : World} {g : Nat} {t : TypeId} {cs : Array Value} (h : Box w g t cs) (hb : Below w.heap.size w w') : Box w' g t cs := h.below hb h.lt
theorem Box.alloc {w : World} {g : Nat} {t : TypeId} {cs : Array Value} (h : Box w g t cs) (o : Obj) : Box (w.alloc o) g t cs := (Below.heap_alloc w o g h.lt).trans h
theorem Box.set {w : World} {g k : Nat} {t : TypeId} {cs : Array Value} (h : Box w g t cs) (v : Value) : Box (w.setCell ⟨g, k, none⟩ v) g t (cs.setIfInBounds k v) := heap_setCell_same w g k cs t v h
theorem Box.far {w : World} {g : Nat} {t : TypeId} {cs : Array Value} (h : Box w g t cs) {p : Addr} (hp : g ≠ p.block) (v : Value) : Box (w.setCell p v) g t cs := (heap_setCell_other w p g v hp).trans h
theorem Box.cell {w : World} {g : Nat} {t : TypeId} {cs : Array Value} (h : Box w g t cs) {k : Nat} {v : Value} (hv : cs[k]? = some v) : w.cell? ⟨g, k, none⟩ = some v := (cell_of_row w g k cs t (0, 0) h).trans hv
theorem Box.kept {W W' : World} {row : Option Nat} {g : Nat} {t : TypeId} {cs : Array Value} (h : Box W g t cs) (hg : W.grownBy W' row) (hne : some g ≠ row) : Box W' g t cs := (hg.block g h.lt hne).trans h
theorem box_new {w : World} {t : TypeId} {cs : Array Value} : Box (w.alloc (.cells cs t)) w.heap.size t cs := heap_alloc_new w _
theorem below_new (w : World) (o : Obj) : Below w.heap.size w (w.alloc o) := (Below.refl _ _).alloc (Nat.le_refl _) _
theorem Box.drew {w : World} {g : Nat} {t : TypeId} {cs : Array Value} (h : Box w g t cs) : Box w.drew g t cs := h
theorem Box.row {w : World} {g : Nat} {t : TypeId} {old : Array Value} (h : Box w g t old) (cs : Array Value) : Box (w.setRow g cs) g t cs := setRow_heap w g old cs t _ h
theorem Box.far_row {w : World} {g k : Nat} {t : TypeId} {cs : Array Value} (h : Box w k t cs) (hk : k ≠ g) (new : Array Value) : Box (w.setRow g new) k t cs := (setRow_other w g k new hk).trans h
theorem below_row {B g : Nat} {a w : World} (h : Below B a w) (hg : B ≤ g) (cs : Array Value) : Below B a (w.setRow g cs) :=
  ⟨h.os, h.tape, h.output, by simpa using h.size, fun k hk => (setRow_other w g k cs (by omega)).trans (h.block k hk)⟩
theorem Box.free {w : World} {g k : Nat} {t : TypeId} {cs : Array Value} (h : Box w g t cs) : w.frozen? ⟨g, k, none⟩ = some false := by
  unfold World.frozen?
  rw [show w.heap[g]? = _ from h]
  rfl
theorem add_to (g o j : Nat) : (⟨g, o, none⟩ : Addr).add j = ⟨g, o + j, none⟩ := by
  unfold Addr.add
  split <;> simp_all

/-! ### Items -/
def It.arr (x : It) : Array Value := #[.string ⟨x.path.toArray⟩, .int .i64 x.kind, .string ⟨x.data.toArray⟩]
def It.cells (x : It) : List Value := [.string ⟨x.path.toArray⟩, .int .i64 x.kind, .string ⟨x.data.toArray⟩]
def flatI (l : List It) : List Value := l.flatMap It.cells
theorem flatI_cons (v : It) (l : List It) : flatI (v :: l) = v.cells ++ flatI l := rfl
theorem flatI_append (a b : List It) : flatI (a ++ b) = flatI a ++ flatI b := List.flatMap_append
theorem icells_len (v : It) : v.cells.length = 3 := rfl
theorem flatI_len (l : List It) : (flatI l).length = l.length * 3 := by
  induction l with
  | nil => rfl
  | cons v l ih => rw [flatI_cons, List.length_append, ih, List.length_cons, icells_len]; omega
theorem flat3 (l : List It) (j r : Nat) (hr : r < 3) : (flatI l)[j * 3 + r]? = (l[j]?).bind fun v => v.cells[r]? := by
  induction l generalizing j with
  | nil => simp [flatI]
  | cons v l ih =>
    cases j with
    | zero =>
      rw [flatI_cons, Nat.zero_mul, Nat.zero_add, List.getElem?_append_left (by rw [icells_len]; exact hr)]
      rfl
    | succ j =>
      rw [flatI_cons, List.getElem?_append_right (by rw [icells_len]; omega), icells_len, show (j + 1) * 3 + r - 3 = j * 3 + r by omega, ih]
      rfl
theorem it_one (v : It) : ∀ u ∈ v.cells, u.oneCell' = true := by
  intro u hu
  simp [It.cells] at hu
  rcases hu with rfl | rfl | rfl <;> rfl
theorem flatI_one (l : List It) : ∀ u ∈ flatI l, u.oneCell' = true := by
  intro u hu
  obtain ⟨v, _, hv⟩ := List.mem_flatMap.1 hu
  exact it_one v u hv
theorem flatI_take (l : List It) (k : Nat) : flatI (l.take k) = (flatI l).take (k * 3) := by
  induction l generalizing k with
  | nil => simp [flatI]
  | cons v l ih =>
    cases k with
    | zero => simp [flatI]
    | succ k =>
      rw [List.take_succ_cons, flatI_cons, flatI_cons, ih, show (k + 1) * 3 = v.cells.length + k * 3 by rw [icells_len]; omega, List.take_append, Nat.add_sub_cancel_left, List.take_of_length_le (l := v.cells) (by omega)]

/-- A slice of n elements that reads as these cells. -/
def RdF (w : World) (x : Value) (n : Nat) (xs : List Value) : Prop :=
  ∃ a c, x = .slice a n c ∧ n ≤ c ∧ c ≤ maxLen ∧ (0 < n → ∃ g o, a = some ⟨g, o, none⟩ ∧ g < w.heap.size ∧ ∀ (j : Nat) (u : Value), xs[j]? = some u → w.cell? ⟨g, o + j, none⟩ = some u)
theorem RdF.nil (w : World) : RdF w (.slice none 0 0) 0 [] := ⟨none, 0, rfl, Nat.le_refl _, Nat.zero_le _, fun h => absurd h (Nat.lt_irrefl _)⟩
theorem RdF.on {w w' : World} {x : Value} {n : Nat} {xs : List Value} (h : RdF w x n xs) (hb : Below w.heap.size w w') : RdF w' x n xs := by
  obtain ⟨a, c, h1, h2, h3, h4⟩ := h
  refine ⟨a, c, h1, h2, h3, fun h0 => ?_⟩
  obtain ⟨g, o, e, hg, hc⟩ := h4 h0
  exact ⟨g, o, e, Nat.lt_of_lt_of_le hg hb.size, fun j u hu => (hb.cell (p := ⟨g, _, none⟩) hg).trans (hc j u hu)⟩
theorem RdF.of_own {w : World} {B s n : Nat} {e : TypeId} {x : Value} {xs : List Value} (h : w.ownsRow B e s x n xs) : RdF w x n xs := by
  have hx := h
  rcases h.2 with ⟨rfl, rfl⟩ | ⟨g, cap, cur, rfl, _, hg, h2, h3, _⟩
  · exact ⟨none, 0, rfl, Nat.le_refl _, Nat.zero_le _, fun h => absurd h (Nat.lt_irrefl _)⟩
  · exact ⟨_, _, rfl, h2, h3, fun _ => ⟨g, 0, rfl, (hx.lt g rfl).2, fun j u hu => by
      have := hx.cells (g := g) rfl j u hu
      rw [add_to] at this
      exact this⟩⟩
def RdI (w : World) (x : Value) (l : List It) : Prop := RdF w x l.length (flatI l)
theorem RdI.on {w w' : World} {x : Value} {l : List It} (h : RdI w x l) (hb : Below w.heap.size w w') : RdI w' x l := RdF.on h hb
theorem RdI.nil (w : World) : RdI w (.slice none 0 0) [] := RdF.nil w
/-- The three cells of an item. -/
structure IAt (w : World) (g o : Nat) (b : It) : Prop where
  c0 : w.cell? ⟨g, o, none⟩ = some (.string ⟨b.path.toArray⟩)
  c1 : w.cell? ⟨g, o + 1, none⟩ = some (.int .i64 b.kind)
  c2 : w.cell? ⟨g, o + 2, none⟩ = some (.string ⟨b.data.toArray⟩)
theorem iat_of {w : World} {g o : Nat} {l : List It} (hc : ∀ (j : Nat) (u : Value), (flatI l)[j]? = some u → w.cell? ⟨g, o + j, none⟩ = some u) (j : Nat) (b : It) (hj : l[j]? = some b) : IAt w g (o + j * 3) b := by
  have key : ∀ r u, r < 3 → b.cells[r]? = some u → w.cell? ⟨g, o + j * 3 + r, none⟩ = some u := fun r u hr hu => by
    have := flat3 l j r hr
    rw [hj] at this
    rw [Nat.add_assoc]
    exact hc (j * 3 + r) u (this.trans hu)
  exact ⟨key 0 _ (by omega) rfl, key 1 _ (by omega) rfl, key 2 _ (by omega) rfl⟩
theorem IAt.on {w w' : World} {g o : Nat} {b : It} (h : IAt w g o b) (hg : g < w.heap.size) (hb : Below w.heap.size w w') : IAt w' g o b :=
  have k : ∀ r u, w.cell? ⟨g, r, none⟩ = some u → w'.cell? ⟨g, r, none⟩ = some u := fun _ _ hu => (hb.cell (p := ⟨g, _, none⟩) hg).trans hu
  ⟨k _ _ h.c0, k _ _ h.c1, k _ _ h.c2⟩
theorem Box.it {w : World} {g : Nat} {t : TypeId} {b : It} (h : Box w g t b.arr) : IAt w g 0 b := ⟨h.cell rfl, h.cell rfl, h.cell rfl⟩
theorem RdI.open {w : World} {x : Value} {l : List It} (h : RdI w x l) : ∃ a c, x = .slice a l.length c ∧ l.length ≤ c ∧ c ≤ maxLen ∧
    (0 < l.length → ∃ g o, a = some ⟨g, o, none⟩ ∧ g < w.heap.size ∧ ∀ (j : Nat) (b : It), l[j]? = some b → IAt w g (o + j * 3) b) := by
  obtain ⟨a, c, h1, h2, h3, h4⟩ := h
  refine ⟨a, c, h1, h2, h3, fun h0 => ?_⟩
  obtain ⟨g, o, e, hg, hc⟩ := h4 h0
  exact ⟨g, o, e, hg, fun j b hj => iat_of hc j b hj⟩
theorem RdI.take {w : World} {a : Option Addr} {n c : Nat} {l : List It} (hn : n = l.length) (h : RdI w (.slice a n c) l) (q : Nat) (hq : q ≤ n) : RdI w (.slice a q c) (l.take q) := by
  obtain ⟨a', c', e, h1, h2, h3⟩ := h
  cases e
  have el : (l.take q).length = q := by rw [List.length_take]; omega
  unfold RdI
  rw [el]
  refine ⟨a, c, rfl, by omega, h2, fun h0 => ?_⟩
  obtain ⟨g, o, e, hg, hc⟩ := h3 (by omega)
  refine ⟨g, o, e, hg, fun j u hj => hc j u ?_⟩
  rw [flatI_take] at hj
  rw [List.getElem?_take] at hj
  split at hj
  · exact hj
  · cases hj
theorem zeroI : Tryd.prog.built 35 [] = some It.nil.arr := by kernel_rfl
theorem zero35 : (Tryd.prog.info? 35).map (·.zero) = some (some (.agg It.nil.arr)) := by kernel_rfl
theorem info35 (b : It) : (Tryd.prog.info? 35).map (·.size) = some b.arr.size := by
  show _ = some 3
  kernel_rfl
theorem info35z : (Tryd.prog.info? 35).map (fun i => (i.zero, i.size, i.bytes)) = some (some (.agg It.nil.arr), 3, 40) := by kernel_rfl
theorem iarr_one (b : It) : (b.arr).all (·.oneCell') = true := by
  simp [It.arr, Value.oneCell']

set_option maxRecDepth 100000 in
set_option maxHeartbeats 2000000 in
theorem clone_any (l : List It) (x : Value) (w : World) (hx : RdI w x l) (hl : l.length ≤ 1000000) :
    Calls Tryd.prog 38 #[x] w fun e w' => ∃ x', e = .returned x' ∧ w'.ownsRow w.heap.size 35 3 x' l.length (flatI l) ∧ Below w.heap.size w w' := by
  obtain ⟨a, cap, rfl, hlc, hcm, hcell⟩ := id hx
  obtain ⟨i0, hi, hz0, hz1, hz2⟩ := info_parts info35z
  have q33 : ∀ (w : World) (a : Option Addr) (n c n' c' : Nat), (binOp .eql 22 (.slice a n c) (.slice none n' c')).run Tryd.prog w = .ok (.bool a.isNone) w := fun w a n c n' c' => Lib.run_eql_slice_nil w _ _ a n c n' c' Tryd.underlying22
  cases a with
  | none =>
    have h0 : l.length = 0 := by
      rcases Nat.eq_zero_or_pos l.length with h | h
      · exact h
      · obtain ⟨g, o, e, _⟩ := hcell h; cases e
    have : l = [] := List.eq_nil_of_length_eq_zero h0
    subst this
    clear hcell hx
    go_enter Tryd.func38, Tryd.ntmps38
    go_wp2
    go_ret
    exact ⟨_, rfl, World.ownsRow_nil _ _ _ _, Below.refl _ _⟩
  | some ad =>
    have hnews : ∀ (j : Nat) (u : Value), (flatI l)[j]? = some u → (w.alloc (.cells #[] 35)).cell? (ad.add j) = some u := fun j u hu => by
      have h0 : 0 < l.length := by
        have := (List.getElem?_eq_some_iff.1 hu).1
        rw [flatI_len] at this
        omega
      obtain ⟨g, o, e, hg, hc⟩ := hcell h0
      cases e
      rw [add_to]
      exact Lib.cell?_alloc_some _ (hc j u hu)
    obtain ⟨n, hn⟩ : ∃ n, n = l.length := ⟨_, rfl⟩
    have hfl := flatI_len l
    rw [← hn] at hfl hl hlc
    rw [← hn]
    have HFL := Lib.hid hfl
    have HNW := Lib.hid hnews
    clear hcell hx hn hfl hnews
    go_enter Tryd.func38, Tryd.ntmps38
    go_wp2_with (at_builtin; refine wpList_append_own _ rfl _ _ 22 rfl w.heap.size 35 i0 (.agg It.nil.arr) 3 40 Tryd.underlying22 hi hz0 hz1 hz2 rfl (by decide) _ _ _ rfl (World.ownsRow_made w #[] 0 (Nat.le_refl _) (Nat.zero_le _) rfl) ad n cap (flatI l) rfl HFL.out HNW.out (flatI_one l) (by unfold maxLen; omega) (by omega) (by simp) ?_)
    intro v' w1 hown hgrow _
    go_wp2
    go_ret
    refine ⟨v', rfl, by simpa using hown, ?_⟩
    exact ((Below.refl _ w).alloc (Nat.le_refl _) _).grown hgrow (by simp) (by intro k hk; simp [Value.ownBlock] at hk; omega)
end Go.Proofs.YtiakedoebecgpaaDoor
