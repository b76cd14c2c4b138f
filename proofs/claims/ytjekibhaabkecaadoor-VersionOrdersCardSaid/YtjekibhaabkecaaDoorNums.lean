/- Proved here: readNumbers of package version, for texts of at most 140737488355328 bytes. -/
import Derived.Test.YtjekibhaabkecaaDoorSplit
import Derived.Test.YtjekibhaabkecaaDoorBegin
import Derived.BigGuardPartIn
import Derived.Shelf.RegionOpen
import Derived.Shelf.Abstract
namespace Go.Proofs.YtjekibhaabkecaaDoor
open Go.RowKit Go.Shelf
attribute [local go_sem] Oper.semAt_some

theorem sseq_any (s t : ByteArray) (w : World) : Calls Tryd.prog 69 #[.string s, .string t, .int .i64 0] w fun e w' => e = .returned (.func (.func 82) #[] #[.pointer (some ⟨w.heap.size + 1, 0, none⟩), .pointer (some ⟨w.heap.size, 0, none⟩), .pointer (some ⟨w.heap.size + 1 + 1, 0, none⟩)]) ∧ ((w.alloc (.cells #[.string s] 9)).alloc (.cells #[.string t] 9)).alloc (.cells #[.int .i64 0] 3) = w' := by
  go_enter Tryd.func69, Tryd.ntmps69
  go_wp2
  go_ret
  exact ⟨rfl, rfl⟩
theorem splitseq_any (s t : ByteArray) (w : World) : Calls Tryd.prog 51 #[.string s, .string t] w fun e w' => e = .returned (.func (.func 82) #[] #[.pointer (some ⟨w.heap.size + 1, 0, none⟩), .pointer (some ⟨w.heap.size, 0, none⟩), .pointer (some ⟨w.heap.size + 1 + 1, 0, none⟩)]) ∧ ((w.alloc (.cells #[.string s] 9)).alloc (.cells #[.string t] 9)).alloc (.cells #[.int .i64 0] 3) = w' := by
  go_enter Tryd.func51, Tryd.ntmps51
  go_wp2_with (go_at_call 69; refine (sseq_any s t w).mono ?_; rintro e w' ⟨rfl, rfl⟩)
  go_ret
  exact ⟨rfl, rfl⟩

def okP (p : ByteArray) : Bool := (numR p.data.toList 9999).2
def valP (p : ByteArray) : Nat := (numR p.data.toList 9999).1
def slotP (ps : List ByteArray) (j : Nat) : Int := ((ps.map valP).getD j 0 : Nat)
def cellsP (ps : List ByteArray) : Array Value := #[.int .i64 (slotP ps 0), .int .i64 (slotP ps 1), .int .i64 (slotP ps 2), .int .i64 (slotP ps 3)]
def ints4 (a b c d : Int) : Array Value := #[.int .i64 a, .int .i64 b, .int .i64 c, .int .i64 d]
/-- Are these pieces numbers of a version? -/
def readsP (ps : List ByteArray) : Bool := ps.all okP && decide (ps.length ≤ 4)

def nI (w : World) (pre : List ByteArray) (W : World) : Prop :=
  (pre.all okP = true ∧ pre.length ≤ 4) ∧ Box W w.heap.size 24 (ints4 0 0 0 0) ∧ Boxed W (w.heap.size + 1) 3 (.int .i64 0) ∧ Boxed W (w.heap.size + 1 + 1) 4 (.bool false) ∧ Box W (w.heap.size + 1 + 1 + 1) 24 (cellsP pre) ∧ Boxed W (w.heap.size + 1 + 1 + 1 + 1) 3 (.int .i64 (pre.length : Int)) ∧ Below w.heap.size w W
def nX (w : World) (s : ByteArray) (_ : List ByteArray) (W : World) : Prop :=
  ∃ a b c d m, readsP (pieces 46 s) = false ∧ Box W w.heap.size 24 (ints4 a b c d) ∧ Boxed W (w.heap.size + 1) 3 (.int .i64 m) ∧ Boxed W (w.heap.size + 1 + 1) 4 (.bool false) ∧ Below w.heap.size w W
theorem Box.kept {W W' : World} {row : Option Nat} {g : Nat} {t : TypeId} {cs : Array Value} (h : Box W g t cs) (hg : W.grownBy W' row) (hne : some g ≠ row) : Box W' g t cs := (hg.block g h.lt hne).trans h
theorem nI_steady (w : World) (lo hi : Nat) (h : w.heap.size + 5 ≤ lo) : Steady lo hi (nI w) := by
  rintro pre X Y row ⟨h0, h1, h2, h3, h4, h5, hb⟩ hg hr
  have far : ∀ k, k < lo → some k ≠ row := fun k hk e => by have := (hr k e.symm).1; omega
  exact ⟨h0, h1.kept hg (far _ (by omega)), h2.kept hg (far _ (by omega)), h3.kept hg (far _ (by omega)), h4.kept hg (far _ (by omega)), h5.kept hg (far _ (by omega)), hb.grown hg hb.size (fun k e => by have := (hr k e).1; omega)⟩
theorem nX_steady (w : World) (s : ByteArray) (lo hi : Nat) (h : w.heap.size + 5 ≤ lo) : Steady lo hi (nX w s) := by
  rintro pre X Y row ⟨a, b, c, d, m, h0, h1, h2, h3, hb⟩ hg hr
  have far : ∀ k, k < lo → some k ≠ row := fun k hk e => by have := (hr k e.symm).1; omega
  exact ⟨a, b, c, d, m, h0, h1.kept hg (far _ (by omega)), h2.kept hg (far _ (by omega)), h3.kept hg (far _ (by omega)), hb.grown hg hb.size (fun k e => by have := (hr k e).1; omega)⟩

theorem nI_on {w : World} {pre : List ByteArray} {X Y : World} (h : nI w pre X) (hb : Below X.heap.size X Y) : nI w pre Y := by
  obtain ⟨h0, h1, h2, h3, h4, h5, hbb⟩ := h
  exact ⟨h0, h1.on hb, boxed_same h2 (hb.block _ h2.lt), boxed_same h3 (hb.block _ h3.lt), h4.on hb, boxed_same h5 (hb.block _ h5.lt), bch hbb hb⟩

def NumsR (s : ByteArray) (w : World) (e : Ending) (w' : World) : Prop :=
  ∃ a b c d m, e = .returned (.tuple #[.agg (ints4 a b c d), .int .i64 m, .bool (readsP (pieces 46 s))]) ∧ (readsP (pieces 46 s) = true → ints4 a b c d = cellsP (pieces 46 s) ∧ m = ((pieces 46 s).length : Int)) ∧ Below w.heap.size w w'

theorem num9 (x : ByteArray) (w : World) : Calls Tryd.prog 52 #[.string x, .int .i64 9999] w fun e w' => e = .returned (.tuple #[.int .i64 (valP x : Int), .bool (okP x)]) ∧ Below w.heap.size w w' := number_any x 9999 (by omega) w
/-- Where the loop begins. -/
def nW (s : ByteArray) (w : World) : World :=
  (((((((w.alloc (.cells #[.int .i64 0, .int .i64 0, .int .i64 0, .int .i64 0] 24)).alloc (.cells #[.int .i64 0] 3)).alloc (.cells #[.bool false] 4)).alloc (.cells #[.int .i64 0, .int .i64 0, .int .i64 0, .int .i64 0] 24)).alloc (.cells #[.int .i64 0] 3)).alloc (.cells #[.string s] 9)).alloc (.cells #[.string ⟨#[46]⟩] 9)).alloc (.cells #[.int .i64 0] 3)
theorem nW_boxes (s : ByteArray) (w : World) : nI w [] (nW s w) ∧ Boxed (nW s w) (w.heap.size + 5) 9 (.string s) ∧ Boxed (nW s w) (w.heap.size + 5 + 1) 9 (.string ⟨#[46]⟩) ∧ Boxed (nW s w) (w.heap.size + 5 + 1 + 1) 3 (.int .i64 0) ∧ (nW s w).heap.size = w.heap.size + 5 + 3 := by
  unfold nW
  have b0 := ((((((((box_new (w := w) (t := 24) (cs := ints4 0 0 0 0)).alloc (.cells #[.int .i64 0] 3)).alloc (.cells #[.bool false] 4)).alloc (.cells #[.int .i64 0, .int .i64 0, .int .i64 0, .int .i64 0] 24)).alloc (.cells #[.int .i64 0] 3)).alloc (.cells #[.string s] 9)).alloc (.cells #[.string ⟨#[46]⟩] 9)).alloc (.cells #[.int .i64 0] 3))
  have b1 := (((((((Boxed.new (w.alloc (.cells (ints4 0 0 0 0) 24)) 3 (.int .i64 0)).alloc (.cells #[.bool false] 4)).alloc (.cells #[.int .i64 0, .int .i64 0, .int .i64 0, .int .i64 0] 24)).alloc (.cells #[.int .i64 0] 3)).alloc (.cells #[.string s] 9)).alloc (.cells #[.string ⟨#[46]⟩] 9)).alloc (.cells #[.int .i64 0] 3))
  have b2 := ((((((Boxed.new ((w.alloc (.cells (ints4 0 0 0 0) 24)).alloc (.cells #[.int .i64 0] 3)) 4 (.bool false)).alloc (.cells #[.int .i64 0, .int .i64 0, .int .i64 0, .int .i64 0] 24)).alloc (.cells #[.int .i64 0] 3)).alloc (.cells #[.string s] 9)).alloc (.cells #[.string ⟨#[46]⟩] 9)).alloc (.cells #[.int .i64 0] 3))
  have b3 := (((((box_new (w := ((w.alloc (.cells (ints4 0 0 0 0) 24)).alloc (.cells #[.int .i64 0] 3)).alloc (.cells #[.bool false] 4)) (t := 24) (cs := ints4 0 0 0 0)).alloc (.cells #[.int .i64 0] 3)).alloc (.cells #[.string s] 9)).alloc (.cells #[.string ⟨#[46]⟩] 9)).alloc (.cells #[.int .i64 0] 3))
  have b4 := ((((Boxed.new ((((w.alloc (.cells (ints4 0 0 0 0) 24)).alloc (.cells #[.int .i64 0] 3)).alloc (.cells #[.bool false] 4)).alloc (.cells (ints4 0 0 0 0) 24)) 3 (.int .i64 0)).alloc (.cells #[.string s] 9)).alloc (.cells #[.string ⟨#[46]⟩] 9)).alloc (.cells #[.int .i64 0] 3))
  have b5 := (((Boxed.new (((((w.alloc (.cells (ints4 0 0 0 0) 24)).alloc (.cells #[.int .i64 0] 3)).alloc (.cells #[.bool false] 4)).alloc (.cells (ints4 0 0 0 0) 24)).alloc (.cells #[.int .i64 0] 3)) 9 (.string s)).alloc (.cells #[.string ⟨#[46]⟩] 9)).alloc (.cells #[.int .i64 0] 3))
  have b6 := ((Boxed.new ((((((w.alloc (.cells (ints4 0 0 0 0) 24)).alloc (.cells #[.int .i64 0] 3)).alloc (.cells #[.bool false] 4)).alloc (.cells (ints4 0 0 0 0) 24)).alloc (.cells #[.int .i64 0] 3)).alloc (.cells #[.string s] 9)) 9 (.string ⟨#[46]⟩)).alloc (.cells #[.int .i64 0] 3))
  have b7 := Boxed.new (((((((w.alloc (.cells (ints4 0 0 0 0) 24)).alloc (.cells #[.int .i64 0] 3)).alloc (.cells #[.bool false] 4)).alloc (.cells (ints4 0 0 0 0) 24)).alloc (.cells #[.int .i64 0] 3)).alloc (.cells #[.string s] 9)).alloc (.cells #[.string ⟨#[46]⟩] 9)) 3 (.int .i64 0)
  simp only [World.size_alloc] at b1 b2 b3 b4 b5 b6 b7
  have hb : Below w.heap.size w (nW s w) := by
    unfold nW
    refine ((((((((Below.refl _ w).alloc (Nat.le_refl _) _).alloc ?_ _).alloc ?_ _).alloc ?_ _).alloc ?_ _).alloc ?_ _).alloc ?_ _).alloc ?_ _ <;> (simp only [World.size_alloc]; omega)
  exact ⟨⟨⟨rfl, by simp⟩, b0, b1, b2, b3, b4, hb⟩, b5, b6, b7, by simp only [World.size_alloc]⟩
theorem slot_snoc (pre : List ByteArray) (x : ByteArray) (h : pre.length < 4) : (cellsP pre).setIfInBounds pre.length (.int .i64 (valP x : Int)) = cellsP (pre ++ [x]) := by
  match pre, h with
  | [], _ => rfl
  | [a], _ => rfl
  | [a, b], _ => rfl
  | [a, b, c], _ => rfl
  | a :: b :: c :: d :: r, h => simp at h; omega

/-- The three results are set. -/
def put7 (w X : World) (a b c d m : Int) (o : Bool) : World :=
  ((((((X.setCell ⟨w.heap.size, 0, none⟩ (.int .i64 a)).setCell ⟨w.heap.size, 1, none⟩ (.int .i64 b)).setCell ⟨w.heap.size, 2, none⟩ (.int .i64 c)).setCell ⟨w.heap.size, 3, none⟩ (.int .i64 d)).setCell ⟨w.heap.size + 1, 0, none⟩ (.int .i64 m)).setCell ⟨w.heap.size + 1 + 1, 0, none⟩ (.bool o)).drew
theorem set4 (a b c d : Int) : ((((ints4 0 0 0 0).setIfInBounds 0 (.int .i64 a)).setIfInBounds 1 (.int .i64 b)).setIfInBounds 2 (.int .i64 c)).setIfInBounds 3 (.int .i64 d) = ints4 a b c d := rfl
theorem put7_boxes {w X : World} {pre : List ByteArray} (h : nI w pre X) (a b c d m : Int) (o : Bool) :
    Box (put7 w X a b c d m o) w.heap.size 24 (ints4 a b c d) ∧ Boxed (put7 w X a b c d m o) (w.heap.size + 1) 3 (.int .i64 m) ∧ Boxed (put7 w X a b c d m o) (w.heap.size + 1 + 1) 4 (.bool o) ∧ Below w.heap.size w (put7 w X a b c d m o) ∧ (∀ k, w.heap.size + 3 ≤ k → (put7 w X a b c d m o).heap[k]? = X.heap[k]?) := by
  obtain ⟨_, h1, h2, h3, _, _, hb⟩ := h
  refine ⟨?_, ?_, ?_, ?_, ?_⟩
  · rw [← set4 a b c d]
    unfold put7
    refine Box.drew ?_
    exact ((((((h1.set (k := 0) (.int .i64 a)).set (k := 1) (.int .i64 b)).set (k := 2) (.int .i64 c)).set (k := 3) (.int .i64 d)).far (p := ⟨w.heap.size + 1, 0, none⟩) (by simp) (.int .i64 m)).far (p := ⟨w.heap.size + 1 + 1, 0, none⟩) (by simp <;> omega) (.bool o))
  · have e : Box X (w.heap.size + 1) 3 #[.int .i64 0] := h2
    have e4 : Boxed ((((X.setCell ⟨w.heap.size, 0, none⟩ (.int .i64 a)).setCell ⟨w.heap.size, 1, none⟩ (.int .i64 b)).setCell ⟨w.heap.size, 2, none⟩ (.int .i64 c)).setCell ⟨w.heap.size, 3, none⟩ (.int .i64 d)) (w.heap.size + 1) 3 (.int .i64 0) := (((e.far (p := ⟨w.heap.size, 0, none⟩) (by simp) _).far (p := ⟨w.heap.size, 1, none⟩) (by simp) _).far (p := ⟨w.heap.size, 2, none⟩) (by simp) _).far (p := ⟨w.heap.size, 3, none⟩) (by simp) _
    unfold put7
    exact Box.drew ((e4.set (.int .i64 m)).other (by omega) _)
  · have e : Box X (w.heap.size + 1 + 1) 4 #[.bool false] := h3
    have e5 : Boxed (((((X.setCell ⟨w.heap.size, 0, none⟩ (.int .i64 a)).setCell ⟨w.heap.size, 1, none⟩ (.int .i64 b)).setCell ⟨w.heap.size, 2, none⟩ (.int .i64 c)).setCell ⟨w.heap.size, 3, none⟩ (.int .i64 d)).setCell ⟨w.heap.size + 1, 0, none⟩ (.int .i64 m)) (w.heap.size + 1 + 1) 4 (.bool false) := ((((e.far (p := ⟨w.heap.size, 0, none⟩) (by simp <;> omega) _).far (p := ⟨w.heap.size, 1, none⟩) (by simp <;> omega) _).far (p := ⟨w.heap.size, 2, none⟩) (by simp <;> omega) _).far (p := ⟨w.heap.size, 3, none⟩) (by simp <;> omega) _).far (p := ⟨w.heap.size + 1, 0, none⟩) (by simp) _
    unfold put7
    exact Box.drew (e5.set (.bool o))
  · unfold put7
    have l1 : w.heap.size ≤ w.heap.size + 1 := by omega
    have l2 : w.heap.size ≤ w.heap.size + 1 + 1 := by omega
    have e1 := hb.setCell (p := ⟨w.heap.size, 0, none⟩) (Nat.le_refl _) (.int .i64 a)
    have e2 := e1.setCell (p := ⟨w.heap.size, 1, none⟩) (Nat.le_refl _) (.int .i64 b)
    have e3 := e2.setCell (p := ⟨w.heap.size, 2, none⟩) (Nat.le_refl _) (.int .i64 c)
    have e4 := e3.setCell (p := ⟨w.heap.size, 3, none⟩) (Nat.le_refl _) (.int .i64 d)
    have e5 := e4.setCell (p := ⟨w.heap.size + 1, 0, none⟩) l1 (.int .i64 m)
    have e6 := e5.setCell (p := ⟨w.heap.size + 1 + 1, 0, none⟩) l2 (.bool o)
    exact e6.drew
  · intro k hk
    unfold put7
    rw [show ∀ Z : World, Z.drew.heap = Z.heap from fun _ => rfl]
    rw [Below.heap_setCell _ _ _ _ (by simp <;> omega), Below.heap_setCell _ _ _ _ (by simp <;> omega), Below.heap_setCell _ _ _ _ (by simp <;> omega), Below.heap_setCell _ _ _ _ (by simp <;> omega), Below.heap_setCell _ _ _ _ (by simp <;> omega), Below.heap_setCell _ _ _ _ (by simp <;> omega)]
theorem put7_stop {w X : World} {pre ys : List ByteArray} {s : ByteArray} (h : nI w pre X) (hno : readsP (pieces 46 s) = false) (a b c d m : Int) : Fix (w.heap.size + 5) (w.heap.size + 5 + 5) X (put7 w X a b c d m false) ∧ nX w s ys (put7 w X a b c d m false) := by
  obtain ⟨h1, h2, h3, h4, h5⟩ := put7_boxes h a b c d m false
  exact ⟨fun k hk _ => h5 k (by omega), a, b, c, d, m, hno, h1, h2, h3, h4⟩
/-- One number more. -/
def step7 (w X : World) (k : Nat) (x : Int) : World := (X.setCell ⟨w.heap.size + 1 + 1 + 1, k, none⟩ (.int .i64 x)).setCell ⟨w.heap.size + 1 + 1 + 1 + 1, 0, none⟩ (.int .i64 ((k : Int) + 1))
theorem step7_on {w X : World} {pre : List ByteArray} {x : ByteArray} (h : nI w pre X) (hx : okP x = true) (hl : pre.length < 4) : Fix (w.heap.size + 5) (w.heap.size + 5 + 5) X (step7 w X pre.length (valP x)) ∧ nI w (pre ++ [x]) (step7 w X pre.length (valP x)) := by
  obtain ⟨⟨h0, _⟩, h1, h2, h3, h4, h5, hb⟩ := h
  refine ⟨fun k hk _ => ?_, ⟨by rw [List.all_append, h0]; simp [hx], by simp; omega⟩, ?_, ?_, ?_, ?_, ?_, ?_⟩
  · unfold step7
    rw [Below.heap_setCell _ _ _ _ (by simp <;> omega), Below.heap_setCell _ _ _ _ (by simp <;> omega)]
  · exact (h1.far (p := ⟨w.heap.size + 1 + 1 + 1, pre.length, none⟩) (by simp <;> omega) _).far (p := ⟨w.heap.size + 1 + 1 + 1 + 1, 0, none⟩) (by simp <;> omega) _
  · have e : Box X (w.heap.size + 1) 3 #[.int .i64 0] := h2
    exact (e.far (p := ⟨w.heap.size + 1 + 1 + 1, pre.length, none⟩) (by simp <;> omega) _).far (p := ⟨w.heap.size + 1 + 1 + 1 + 1, 0, none⟩) (by simp <;> omega) _
  · have e : Box X (w.heap.size + 1 + 1) 4 #[.bool false] := h3
    exact (e.far (p := ⟨w.heap.size + 1 + 1 + 1, pre.length, none⟩) (by simp) _).far (p := ⟨w.heap.size + 1 + 1 + 1 + 1, 0, none⟩) (by simp <;> omega) _
  · rw [← slot_snoc pre x hl]
    exact (h4.set (k := pre.length) _).far (p := ⟨w.heap.size + 1 + 1 + 1 + 1, 0, none⟩) (by simp) _
  · have e : Box X (w.heap.size + 1 + 1 + 1 + 1) 3 #[.int .i64 (pre.length : Int)] := h5
    have e2 : Boxed (X.setCell ⟨w.heap.size + 1 + 1 + 1, pre.length, none⟩ (.int .i64 (valP x : Int))) (w.heap.size + 1 + 1 + 1 + 1) 3 (.int .i64 (pre.length : Int)) := e.far (p := ⟨w.heap.size + 1 + 1 + 1, pre.length, none⟩) (by simp) _
    have e3 := e2.set (.int .i64 ((pre.length : Int) + 1))
    rw [List.length_append]
    exact e3
  · exact (hb.setCell (p := ⟨w.heap.size + 1 + 1 + 1, pre.length, none⟩) (by show w.heap.size ≤ w.heap.size + 1 + 1 + 1; omega) _).setCell (p := ⟨w.heap.size + 1 + 1 + 1 + 1, 0, none⟩) (by show w.heap.size ≤ w.heap.size + 1 + 1 + 1 + 1; omega) _
theorem res37 (W : World) (g : Nat) (a b c d m : Int) (o : Bool) (h2 : Box W g 24 (ints4 a b c d)) (h3 : Boxed W (g + 1) 3 (.int .i64 m)) (h4 : Boxed W (g + 1 + 1) 4 (.bool o)) (tmps : Array Value) (t2 : tmps.getD 2 undef = .pointer (some ⟨g, 0, none⟩)) (t3 : tmps.getD 3 undef = .pointer (some ⟨g + 1, 0, none⟩)) (t4 : tmps.getD 4 undef = .pointer (some ⟨g + 1 + 1, 0, none⟩)) : (results Tryd.f37 tmps).run Tryd.prog W = .ok (.tuple #[.agg (ints4 a b c d), .int .i64 m, .bool o]) W := by
  have c0 : W.cell? ⟨g, 0, none⟩ = some (.int .i64 a) := h2.cell (k := 0) rfl
  have c1 : W.cell? ⟨g, 1, none⟩ = some (.int .i64 b) := h2.cell (k := 1) rfl
  have c2 : W.cell? ⟨g, 2, none⟩ = some (.int .i64 c) := h2.cell (k := 2) rfl
  have c3 : W.cell? ⟨g, 3, none⟩ = some (.int .i64 d) := h2.cell (k := 3) rfl
  have c4 := h3.cell
  have c5 := h4.cell
  have ee : Tryd.f37.results = #[.cell 2 24, .cell 3 3, .cell 4 4] := rfl
  rw [Array.getD_eq_getD_getElem?] at t2 t3 t4
  unfold results
  rw [ee]
  simp [go_sem, t2, t3, t4, c0, c1, c2, c3, c4, c5, ints4]

set_option maxRecDepth 100000 in
set_option maxHeartbeats 4000000 in
theorem nums_any (s : ByteArray) (hs : s.size ≤ 140737488355328) (w : World) : Calls Tryd.prog 37 #[.string s] w (NumsR s w) := by
  refine (callsIn_wide (n := 5)).1 ?_
  refine callsIn_of_wp_marks Tryd.func37 rfl trivial ?_ rfl
  simp only [Tryd.ntmps37, List.size_toArray, List.length_cons, List.length_nil, Nat.reduceAdd, Nat.reduceSub, Array.replicate_succ, Array.replicate_zero, List.push_toArray, List.append_toArray, List.nil_append, List.cons_append]
  gi_wp2_with (refine ⟨trivial, ?_⟩; gi_at_call 51; refine (callsIn_wide.2 (splitseq_any s ⟨#[46]⟩ _)).mono ?_; rintro e w' ⟨rfl, rfl⟩)
  obtain ⟨h0, b5, b6, b7, hsz⟩ := nW_boxes s w
  have HW0 : Hid (nW s w = _) := Lib.hid rfl
  obtain ⟨W0, hW0⟩ : ∃ W0, nW s w = W0 := ⟨_, rfl⟩
  have hW0' := hW0
  unfold nW at hW0'
  rw [hW0']
  rw [hW0] at h0 b5 b6 b7 hsz
  clear HW0 hW0 hW0'
  refine range_hands rfl (by omega) (gf := 82) (lb := #[.pointer (some ⟨w.heap.size + 5 + 1, 0, none⟩), .pointer (some ⟨w.heap.size + 5, 0, none⟩), .pointer (some ⟨w.heap.size + 5 + 1 + 1, 0, none⟩)]) rfl trivial (enters_of Tryd.func82 (by kernel_rfl) rfl)
    (w.heap.size + 5) hsz.symm (split1_hands 46 _ (by omega) (w.heap.size + 5) s hs W0 b5 b6 b7) rfl (nI w) (nX w s) (nI_steady w _ _ (Nat.le_refl _)) (nX_steady w s _ _ (Nat.le_refl _)) h0
    (fun x => { tmps := #[.string s, undef, .pointer (some ⟨w.heap.size, 0, none⟩), .pointer (some ⟨w.heap.size + 1, 0, none⟩), .pointer (some ⟨w.heap.size + 1 + 1, 0, none⟩), .pointer (some ⟨w.heap.size + 1 + 1 + 1, 0, none⟩), .pointer (some ⟨w.heap.size + 1 + 1 + 1 + 1, 0, none⟩), .string x, undef, undef, .string s,
      .func (.func 82) #[] #[.pointer (some ⟨w.heap.size + 5 + 1, 0, none⟩), .pointer (some ⟨w.heap.size + 5, 0, none⟩), .pointer (some ⟨w.heap.size + 5 + 1 + 1, 0, none⟩)],
      .string x, undef, undef, undef, undef, undef, undef, undef, undef, undef, undef, undef, undef, undef, undef, undef, undef, undef, undef, undef, undef], defers := [] }) ?assign ?body ?done ?stop
  case assign =>
    intro l x X K hK
    gi_wp2
    exact hK
  case body =>
    rintro l pre x X hpre hsx ⟨⟨hok, hlen⟩, h1, h2, h3, h4, h5, hb⟩
    have c6 := h5.cell
    have f6 := h5.frozen
    obtain ⟨q, hq⟩ : ∃ q, q = okP x := ⟨_, rfl⟩
    have HN : Hid (∀ W, Calls Tryd.prog 52 #[.string x, .int .i64 9999] W fun e w' => e = .returned (.tuple #[.int .i64 (valP x : Int), .bool q]) ∧ Below W.heap.size W w') := Lib.hid (fun W => by rw [hq]; exact num9 x W)
    cases q with
    | false =>
      have HQ := Lib.hid hq
      have HNO : Hid (readsP (pieces 46 s) = false) := Lib.hid (by
        obtain ⟨t, ht⟩ := hpre
        unfold readsP
        rw [← ht, List.all_append, List.all_append, List.all_cons, ← hq]
        simp)
      have HI := Lib.hid (show nI w pre X from ⟨⟨hok, hlen⟩, h1, h2, h3, h4, h5, hb⟩)
      have HS := Lib.hid hsx
      clear hq hpre hok hlen h1 h2 h3 h4 h5 hb c6 f6 hsx hsz b5 b6 b7 h0 hs
      gi_wp2_with (refine ⟨trivial, ?_⟩; gi_at_call 52; refine (CallsIn.inRound l (callsIn_wide.2 (HN.out _))).mono ?_; rintro e w1 ⟨rfl, hb1⟩; refine Hid.out ?_)
      refine Lib.hid ?_
      have HI1 := Lib.hid (nI_on HI.out hb1)
      have HF := Lib.hid (Fix.below (lo := w.heap.size + 5) hb1 HS.out)
      obtain ⟨h0, h1, h2, h3, h4, h5, hb⟩ := HI1.out
      obtain ⟨p0, hp0⟩ : ∃ p, p = slotP pre 0 := ⟨_, rfl⟩
      obtain ⟨p1, hp1⟩ : ∃ p, p = slotP pre 1 := ⟨_, rfl⟩
      obtain ⟨p2, hp2⟩ : ∃ p, p = slotP pre 2 := ⟨_, rfl⟩
      obtain ⟨p3, hp3⟩ : ∃ p, p = slotP pre 3 := ⟨_, rfl⟩
      have c6 := h5.cell
      have a0 : w1.cell? ⟨w.heap.size + 1 + 1 + 1, 0, none⟩ = some (.int .i64 p0) := by rw [hp0]; exact h4.cell (k := 0) rfl
      have a1 : w1.cell? ⟨w.heap.size + 1 + 1 + 1, 1, none⟩ = some (.int .i64 p1) := by rw [hp1]; exact h4.cell (k := 1) rfl
      have a2 : w1.cell? ⟨w.heap.size + 1 + 1 + 1, 2, none⟩ = some (.int .i64 p2) := by rw [hp2]; exact h4.cell (k := 2) rfl
      have a3 : w1.cell? ⟨w.heap.size + 1 + 1 + 1, 3, none⟩ = some (.int .i64 p3) := by rw [hp3]; exact h4.cell (k := 3) rfl
      have z0 : w1.cell? ⟨w.heap.size, 0, none⟩ = some (.int .i64 0) := h1.cell (k := 0) rfl
      have z1 : w1.cell? ⟨w.heap.size, 1, none⟩ = some (.int .i64 0) := h1.cell (k := 1) rfl
      have z2 : w1.cell? ⟨w.heap.size, 2, none⟩ = some (.int .i64 0) := h1.cell (k := 2) rfl
      have z3 : w1.cell? ⟨w.heap.size, 3, none⟩ = some (.int .i64 0) := h1.cell (k := 3) rfl
      have y0 := h2.cell
      have y1 := h3.cell
      have g0 := frozen_of_row w1 _ 0 _ _ h1
      have g1 := frozen_of_row w1 _ 1 _ _ h1
      have g2 := frozen_of_row w1 _ 2 _ _ h1
      have g3 := frozen_of_row w1 _ 3 _ _ h1
      have g4 := h2.frozen
      have g5 := h3.frozen
      clear hb1 h0 h1 h2 h3 h4 h5 hb HS HI HN HQ hp0 hp1 hp2 hp3
      gi_wp2
      gi_region
      all_goals
        gi_wp2
        have HO := put7_stop (ys := pre ++ [x]) HI1.out HNO.out p0 p1 p2 p3 (pre.length : Int)
        exact ⟨HF.out.trans HO.1, HO.2⟩
    | true =>
      have HX : Hid (okP x = true) := Lib.hid hq.symm
      have HI := Lib.hid (show nI w pre X from ⟨⟨hok, hlen⟩, h1, h2, h3, h4, h5, hb⟩)
      have HS := Lib.hid hsx
      have HP := Lib.hid hpre
      obtain ⟨k, hk⟩ : ∃ k, k = pre.length := ⟨_, rfl⟩
      have hk4 : k ≤ 4 := by omega
      have HK := Lib.hid hk
      clear hq hpre hok hlen h1 h2 h3 h4 h5 hb c6 f6 hsx hsz b5 b6 b7 h0 hs hk
      by_cases h4k : k = 4
      · have HNO : Hid (readsP (pieces 46 s) = false) := Lib.hid (by
          obtain ⟨t, ht⟩ := HP.out
          unfold readsP
          rw [← ht]
          have : ¬ (pre ++ [x] ++ t).length ≤ 4 := by simp; have := HK.out; omega
          rw [decide_eq_false this, Bool.and_false])
        subst h4k
        gi_wp2_with (refine ⟨trivial, ?_⟩; gi_at_call 52; refine (CallsIn.inRound l (callsIn_wide.2 (HN.out _))).mono ?_; rintro e w1 ⟨rfl, hb1⟩; refine Hid.out ?_)
        refine Lib.hid ?_
        have HI1 := Lib.hid (nI_on HI.out hb1)
        have HF := Lib.hid (Fix.below (lo := w.heap.size + 5) hb1 HS.out)
        obtain ⟨h0, h1, h2, h3, h4, h5, hb⟩ := HI1.out
        obtain ⟨p0, hp0⟩ : ∃ p, p = slotP pre 0 := ⟨_, rfl⟩
        obtain ⟨p1, hp1⟩ : ∃ p, p = slotP pre 1 := ⟨_, rfl⟩
        obtain ⟨p2, hp2⟩ : ∃ p, p = slotP pre 2 := ⟨_, rfl⟩
        obtain ⟨p3, hp3⟩ : ∃ p, p = slotP pre 3 := ⟨_, rfl⟩
        have c6 : w1.cell? ⟨w.heap.size + 1 + 1 + 1 + 1, 0, none⟩ = some (.int .i64 4) := by have := h5.cell; rw [← HK.out] at this; exact this
        have a0 : w1.cell? ⟨w.heap.size + 1 + 1 + 1, 0, none⟩ = some (.int .i64 p0) := by rw [hp0]; exact h4.cell (k := 0) rfl
        have a1 : w1.cell? ⟨w.heap.size + 1 + 1 + 1, 1, none⟩ = some (.int .i64 p1) := by rw [hp1]; exact h4.cell (k := 1) rfl
        have a2 : w1.cell? ⟨w.heap.size + 1 + 1 + 1, 2, none⟩ = some (.int .i64 p2) := by rw [hp2]; exact h4.cell (k := 2) rfl
        have a3 : w1.cell? ⟨w.heap.size + 1 + 1 + 1, 3, none⟩ = some (.int .i64 p3) := by rw [hp3]; exact h4.cell (k := 3) rfl
        have z0 : w1.cell? ⟨w.heap.size, 0, none⟩ = some (.int .i64 0) := h1.cell (k := 0) rfl
        have z1 : w1.cell? ⟨w.heap.size, 1, none⟩ = some (.int .i64 0) := h1.cell (k := 1) rfl
        have z2 : w1.cell? ⟨w.heap.size, 2, none⟩ = some (.int .i64 0) := h1.cell (k := 2) rfl
        have z3 : w1.cell? ⟨w.heap.size, 3, none⟩ = some (.int .i64 0) := h1.cell (k := 3) rfl
        have y0 := h2.cell
        have y1 := h3.cell
        have g0 := frozen_of_row w1 _ 0 _ _ h1
        have g1 := frozen_of_row w1 _ 1 _ _ h1
        have g2 := frozen_of_row w1 _ 2 _ _ h1
        have g3 := frozen_of_row w1 _ 3 _ _ h1
        have g4 := h2.frozen
        have g5 := h3.frozen
        clear hb1 h0 h1 h2 h3 h4 h5 hb HS HI HN HX HP HK hp0 hp1 hp2 hp3
        gi_wp2
        gi_region
        all_goals
          gi_wp2
          have HO := put7_stop (ys := pre ++ [x]) HI1.out HNO.out p0 p1 p2 p3 4
          exact ⟨HF.out.trans HO.1, HO.2⟩
      · have q1 : ((k : Int) == 4) = false := by rw [beq_eq_false_iff_ne]; omega
        have q2 : (0 : Int) ≤ (k : Int) := by omega
        have q3 : (k : Int) < 4 := by omega
        have q4 : IntKind.i64.wrap ((k : Int) + 1) = (k : Int) + 1 := IntWalk.i64_in _ (by omega)
        gi_wp2_with (refine ⟨trivial, ?_⟩; gi_at_call 52; refine (CallsIn.inRound l (callsIn_wide.2 (HN.out _))).mono ?_; rintro e w1 ⟨rfl, hb1⟩; refine Hid.out ?_)
        refine Lib.hid ?_
        have HI1 := Lib.hid (nI_on HI.out hb1)
        have HF := Lib.hid (Fix.below (lo := w.heap.size + 5) hb1 HS.out)
        obtain ⟨h0, h1, h2, h3, h4, h5, hb⟩ := HI1.out
        have c6 : w1.cell? ⟨w.heap.size + 1 + 1 + 1 + 1, 0, none⟩ = some (.int .i64 (k : Int)) := by rw [HK.out]; exact h5.cell
        have f6 := h5.frozen
        obtain ⟨pk, hpk⟩ : ∃ pk : Int, (cellsP pre)[k]? = some (.int .i64 pk) := by
          rcases (by omega : k = 0 ∨ k = 1 ∨ k = 2 ∨ k = 3) with rfl | rfl | rfl | rfl <;> exact ⟨_, rfl⟩
        have ak := h4.cell hpk
        have fk := frozen_of_row w1 _ k _ _ h4
        clear hb1 h0 h1 h2 h3 h4 h5 hb HS HI HN HP h4k hpk
        gi_wp2
        have HO := step7_on HI1.out HX.out (by have := HK.out; omega)
        rw [← HK.out] at HO
        exact ⟨HF.out.trans HO.1, HO.2⟩
  case done =>
    rintro X HX hK
    have HI := Lib.hid HX
    obtain ⟨h0, h1, h2, h3, h4, h5, hb⟩ := HX
    have HR : Hid (readsP (pieces 46 s) = true) := Lib.hid (by unfold readsP; rw [h0.1, decide_eq_true h0.2]; rfl)
    obtain ⟨p0, hp0⟩ : ∃ p, p = slotP (pieces 46 s) 0 := ⟨_, rfl⟩
    obtain ⟨p1, hp1⟩ : ∃ p, p = slotP (pieces 46 s) 1 := ⟨_, rfl⟩
    obtain ⟨p2, hp2⟩ : ∃ p, p = slotP (pieces 46 s) 2 := ⟨_, rfl⟩
    obtain ⟨p3, hp3⟩ : ∃ p, p = slotP (pieces 46 s) 3 := ⟨_, rfl⟩
    obtain ⟨k, hk⟩ : ∃ k, k = (pieces 46 s).length := ⟨_, rfl⟩
    have HP : Hid (ints4 p0 p1 p2 p3 = cellsP (pieces 46 s) ∧ (k : Int) = ((pieces 46 s).length : Int)) := Lib.hid ⟨by rw [hp0, hp1, hp2, hp3]; rfl, by rw [hk]⟩
    have c6 : X.cell? ⟨w.heap.size + 1 + 1 + 1 + 1, 0, none⟩ = some (.int .i64 (k : Int)) := by rw [hk]; exact h5.cell
    have a0 : X.cell? ⟨w.heap.size + 1 + 1 + 1, 0, none⟩ = some (.int .i64 p0) := by rw [hp0]; exact h4.cell (k := 0) rfl
    have a1 : X.cell? ⟨w.heap.size + 1 + 1 + 1, 1, none⟩ = some (.int .i64 p1) := by rw [hp1]; exact h4.cell (k := 1) rfl
    have a2 : X.cell? ⟨w.heap.size + 1 + 1 + 1, 2, none⟩ = some (.int .i64 p2) := by rw [hp2]; exact h4.cell (k := 2) rfl
    have a3 : X.cell? ⟨w.heap.size + 1 + 1 + 1, 3, none⟩ = some (.int .i64 p3) := by rw [hp3]; exact h4.cell (k := 3) rfl
    have z0 : X.cell? ⟨w.heap.size, 0, none⟩ = some (.int .i64 0) := h1.cell (k := 0) rfl
    have z1 : X.cell? ⟨w.heap.size, 1, none⟩ = some (.int .i64 0) := h1.cell (k := 1) rfl
    have z2 : X.cell? ⟨w.heap.size, 2, none⟩ = some (.int .i64 0) := h1.cell (k := 2) rfl
    have z3 : X.cell? ⟨w.heap.size, 3, none⟩ = some (.int .i64 0) := h1.cell (k := 3) rfl
    have y0 := h2.cell
    have y1 := h3.cell
    have g0 := frozen_of_row X _ 0 _ _ h1
    have g1 := frozen_of_row X _ 1 _ _ h1
    have g2 := frozen_of_row X _ 2 _ _ h1
    have g3 := frozen_of_row X _ 3 _ _ h1
    have g4 := h2.frozen
    have g5 := h3.frozen
    have HK := Lib.hid hK
    clear h0 h1 h2 h3 h4 h5 hb hp0 hp1 hp2 hp3 hk hK hsz b5 b6 b7 hs
    gi_wp2
    gi_region
    all_goals
      gi_wp2
      obtain ⟨o1, o2, o3, o4, o5⟩ := put7_boxes HI.out p0 p1 p2 p3 (k : Int) true
      have hK2 := (o5 (w.heap.size + 5 + 3) (by omega)).trans HK.out
      refine ⟨by simp, .inl ⟨_, _, rfl, run_takeDeferred hK2, ?_⟩⟩
      refine ⟨_, res37 _ w.heap.size p0 p1 p2 p3 k true (o1.kept (grownBy_putObj' _ _ _) (by simp <;> omega)) (o2.kept (grownBy_putObj' _ _ _) (by simp <;> omega)) (o3.kept (grownBy_putObj' _ _ _) (by simp <;> omega)) _ rfl rfl rfl, ?_⟩
      exact ⟨p0, p1, p2, p3, k, by rw [HR.out], fun _ => HP.out, o4.grown (grownBy_putObj' _ _ _) o4.size (fun r e => by cases e; omega)⟩
  case stop =>
    rintro pre X ⟨a, b, c, d, m, hno, h1, h2, h3, hb⟩ hK
    have HNO := Lib.hid hno
    clear hno hsz b5 b6 b7 hs h0
    gi_wp2
    refine ⟨by simp, .inl ⟨_, _, rfl, run_takeDeferred hK, ?_⟩⟩
    refine ⟨_, res37 _ w.heap.size a b c d m false (h1.kept (grownBy_putObj' _ _ _) (by simp <;> omega)) (h2.kept (grownBy_putObj' _ _ _) (by simp <;> omega)) (h3.kept (grownBy_putObj' _ _ _) (by simp <;> omega)) _ rfl rfl rfl, ?_⟩
    exact ⟨a, b, c, d, m, by rw [HNO.out], fun h => (by rw [HNO.out] at h; cases h), hb.grown (grownBy_putObj' _ _ _) hb.size (fun r e => by cases e; omega)⟩
end Go.Proofs.YtjekibhaabkecaaDoor
