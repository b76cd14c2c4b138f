/- Proved here: Leaves of package reloc: leaf by leaf, where each may be moved. | Proved here: leaves and rows of leaves as they lie in memory, slices.Clone of such a row. | Proved here: plain words on leaves: which rows of them may be. | Proved here: Find of package pack and of puncheonref09: the leaf of a path. | Proved here: CheckLeaves of package pack, and what it calls. | Proved here: CheckLeaves of package pack: which rows of leaves may be. | Proved here: plain words on leaves moved; a cell stored into a row of leaves of a call's own; cmp.Or of three. -/
import Derived.Test.YtophihnjlodmjaaDoorCase
import Derived.Test.YtophihnjlodmjaaDoorMP1
import Derived.Lib.IndexBytes
import Derived.Deep.DeepCutAuto
import Derived.Lib.SliceRun
import Derived.Laws.CopyRow
import Derived.Laws.Rows
import Derived.StillTailTactics
import Derived.RegionTactic
import Derived.Test.YtophihnjlodmjaaDoorLong
import Derived.Deep.AppendLies
namespace Go.Proofs.YtophihnjlodmjaaDoor
open Go.RowKit Go.Shelf
attribute [local go_sem] Oper.semAt_some

/-- A leaf. -/
structure Lf where
  p : Bs
  dir : Bool
  d : Bs
deriving DecidableEq
def Lf.nil : Lf := ⟨[], false, []⟩
theorem Box.below {w w' : World} {B g : Nat} {t : TypeId} {cs : Array Value} (h : Box w g t cs) (hb : Below B w w') (hg : g < B) : Box w' g t cs := (hb.block g hg).trans h
theorem Box.on {w w' : World} {g : Nat} {t : TypeId} {cs : Array Value} (h : Box w g t cs) (hb : Below w.heap.size w w') : Box w' g t cs := h.below hb h.lt
theorem Box.far_row {w : World} {g k : Nat} {t : TypeId} {cs : Array Value} (h : Box w k t cs) (hk : k ≠ g) (new : Array Value) : Box (w.setRow g new) k t cs := (setRow_other w g k new hk).trans h
theorem Box.alloc {w : World} {g : Nat} {t : TypeId} {cs : Array Value} (h : Box w g t cs) (o : Obj) : Box (w.alloc o) g t cs := (Below.heap_alloc w o g h.lt).trans h
theorem box_new {w : World} {t : TypeId} {cs : Array Value} : Box (w.alloc (.cells cs t)) w.heap.size t cs := heap_alloc_new w _

/-! ### Leaves -/
def Lf.arr (x : Lf) : Array Value := #[.string ⟨x.p.toArray⟩, .bool x.dir, .string ⟨x.d.toArray⟩]
def Lf.cells (x : Lf) : List Value := [.string ⟨x.p.toArray⟩, .bool x.dir, .string ⟨x.d.toArray⟩]
def flatL (l : List Lf) : List Value := l.flatMap Lf.cells
theorem flatL_cons (v : Lf) (l : List Lf) : flatL (v :: l) = v.cells ++ flatL l := rfl
theorem flatL_append (a b : List Lf) : flatL (a ++ b) = flatL a ++ flatL b := List.flatMap_append
theorem lcells_len (v : Lf) : v.cells.length = 3 := rfl
theorem flatL_len (l : List Lf) : (flatL l).length = l.length * 3 := by
  induction l with
  | nil => rfl
  | cons v l ih => rw [flatL_cons, List.length_append, ih, List.length_cons, lcells_len]; omega
theorem flat3L (l : List Lf) (j r : Nat) (hr : r < 3) : (flatL l)[j * 3 + r]? = (l[j]?).bind fun v => v.cells[r]? := by
  induction l generalizing j with
  | nil => simp [flatL]
  | cons v l ih =>
    cases j with
    | zero =>
      rw [flatL_cons, Nat.zero_mul, Nat.zero_add, List.getElem?_append_left (by rw [lcells_len]; exact hr)]
      rfl
    | succ j =>
      rw [flatL_cons, List.getElem?_append_right (by rw [lcells_len]; omega), lcells_len, show (j + 1) * 3 + r - 3 = j * 3 + r by omega, ih]
      rfl
theorem lf_one (v : Lf) : ∀ u ∈ v.cells, u.oneCell' = true := by
  intro u hu
  simp [Lf.cells] at hu
  rcases hu with rfl | rfl | rfl <;> rfl
theorem flatL_one (l : List Lf) : ∀ u ∈ flatL l, u.oneCell' = true := by
  intro u hu
  obtain ⟨v, _, hv⟩ := List.mem_flatMap.1 hu
  exact lf_one v u hv
theorem flatL_take (l : List Lf) (k : Nat) : flatL (l.take k) = (flatL l).take (k * 3) := by
  induction l generalizing k with
  | nil => simp [flatL]
  | cons v l ih =>
    cases k with
    | zero => simp [flatL]
    | succ k =>
      rw [List.take_succ_cons, flatL_cons, flatL_cons, ih, show (k + 1) * 3 = v.cells.length + k * 3 by rw [lcells_len]; omega, List.take_append, Nat.add_sub_cancel_left, List.take_of_length_le (l := v.cells) (by omega)]

/-- A slice of n elements that reads as these cells. -/
def RdX (w : World) (x : Value) (n : Nat) (xs : List Value) : Prop :=
  ∃ a c, x = .slice a n c ∧ n ≤ c ∧ c ≤ maxLen ∧ (0 < n → ∃ g o, a = some ⟨g, o, none⟩ ∧ g < w.heap.size ∧ ∀ (j : Nat) (u : Value), xs[j]? = some u → w.cell? ⟨g, o + j, none⟩ = some u)
theorem RdX.nil (w : World) : RdX w (.slice none 0 0) 0 [] := ⟨none, 0, rfl, Nat.le_refl _, Nat.zero_le _, fun h => absurd h (Nat.lt_irrefl _)⟩
theorem RdX.on {w w' : World} {x : Value} {n : Nat} {xs : List Value} (h : RdX w x n xs) (hb : Below w.heap.size w w') : RdX w' x n xs := by
  obtain ⟨a, c, h1, h2, h3, h4⟩ := h
  refine ⟨a, c, h1, h2, h3, fun h0 => ?_⟩
  obtain ⟨g, o, e, hg, hc⟩ := h4 h0
  exact ⟨g, o, e, Nat.lt_of_lt_of_le hg hb.size, fun j u hu => (hb.cell (p := ⟨g, _, none⟩) hg).trans (hc j u hu)⟩
theorem RdX.of_own {w : World} {B s n : Nat} {e : TypeId} {x : Value} {xs : List Value} (h : w.ownsRow B e s x n xs) : RdX w x n xs := by
  have hx := h
  rcases h.2 with ⟨rfl, rfl⟩ | ⟨g, cap, cur, rfl, _, hg, h2, h3, _⟩
  · exact ⟨none, 0, rfl, Nat.le_refl _, Nat.zero_le _, fun h => absurd h (Nat.lt_irrefl _)⟩
  · exact ⟨_, _, rfl, h2, h3, fun _ => ⟨g, 0, rfl, (hx.lt g rfl).2, fun j u hu => by
      have := hx.cells (g := g) rfl j u hu
      rw [addr_add] at this
      exact this⟩⟩
def RdL (w : World) (x : Value) (l : List Lf) : Prop := RdX w x l.length (flatL l)
theorem RdL.on {w w' : World} {x : Value} {l : List Lf} (h : RdL w x l) (hb : Below w.heap.size w w') : RdL w' x l := RdX.on h hb
theorem RdL.nil (w : World) : RdL w (.slice none 0 0) [] := RdX.nil w
/-- The three cells of an item. -/
structure LAt (w : World) (g o : Nat) (b : Lf) : Prop where
  c0 : w.cell? ⟨g, o, none⟩ = some (.string ⟨b.p.toArray⟩)
  c1 : w.cell? ⟨g, o + 1, none⟩ = some (.bool b.dir)
  c2 : w.cell? ⟨g, o + 2, none⟩ = some (.string ⟨b.d.toArray⟩)
theorem lat_of {w : World} {g o : Nat} {l : List Lf} (hc : ∀ (j : Nat) (u : Value), (flatL l)[j]? = some u → w.cell? ⟨g, o + j, none⟩ = some u) (j : Nat) (b : Lf) (hj : l[j]? = some b) : LAt w g (o + j * 3) b := by
  have key : ∀ r u, r < 3 → b.cells[r]? = some u → w.cell? ⟨g, o + j * 3 + r, none⟩ = some u := fun r u hr hu => by
    have := flat3L l j r hr
    rw [hj] at this
    rw [Nat.add_assoc]
    exact hc (j * 3 + r) u (this.trans hu)
  exact ⟨key 0 _ (by omega) rfl, key 1 _ (by omega) rfl, key 2 _ (by omega) rfl⟩
theorem LAt.on {w w' : World} {g o : Nat} {b : Lf} (h : LAt w g o b) (hg : g < w.heap.size) (hb : Below w.heap.size w w') : LAt w' g o b :=
  have k : ∀ r u, w.cell? ⟨g, r, none⟩ = some u → w'.cell? ⟨g, r, none⟩ = some u := fun _ _ hu => (hb.cell (p := ⟨g, _, none⟩) hg).trans hu
  ⟨k _ _ h.c0, k _ _ h.c1, k _ _ h.c2⟩
theorem Box.lf {w : World} {g : Nat} {t : TypeId} {b : Lf} (h : Box w g t b.arr) : LAt w g 0 b := ⟨h.cell rfl, h.cell rfl, h.cell rfl⟩
theorem RdL.open {w : World} {x : Value} {l : List Lf} (h : RdL w x l) : ∃ a c, x = .slice a l.length c ∧ l.length ≤ c ∧ c ≤ maxLen ∧
    (0 < l.length → ∃ g o, a = some ⟨g, o, none⟩ ∧ g < w.heap.size ∧ ∀ (j : Nat) (b : Lf), l[j]? = some b → LAt w g (o + j * 3) b) := by
  obtain ⟨a, c, h1, h2, h3, h4⟩ := h
  refine ⟨a, c, h1, h2, h3, fun h0 => ?_⟩
  obtain ⟨g, o, e, hg, hc⟩ := h4 h0
  exact ⟨g, o, e, hg, fun j b hj => lat_of hc j b hj⟩
theorem RdL.take {w : World} {a : Option Addr} {n c : Nat} {l : List Lf} (hn : n = l.length) (h : RdL w (.slice a n c) l) (q : Nat) (hq : q ≤ n) : RdL w (.slice a q c) (l.take q) := by
  obtain ⟨a', c', e, h1, h2, h3⟩ := h
  cases e
  have el : (l.take q).length = q := by rw [List.length_take]; omega
  unfold RdL
  rw [el]
  refine ⟨a, c, rfl, by omega, h2, fun h0 => ?_⟩
  obtain ⟨g, o, e, hg, hc⟩ := h3 (by omega)
  refine ⟨g, o, e, hg, fun j u hj => hc j u ?_⟩
  rw [flatL_take] at hj
  rw [List.getElem?_take] at hj
  split at hj
  · exact hj
  · cases hj
theorem zeroL : Tryd.prog.built 41 [] = some Lf.nil.arr := by kernel_rfl
theorem zero41 : (Tryd.prog.info? 41).map (·.zero) = some (some (.agg Lf.nil.arr)) := by kernel_rfl
theorem info41 (b : Lf) : (Tryd.prog.info? 41).map (·.size) = some b.arr.size := by
  show _ = some 3
  kernel_rfl
theorem info41z : (Tryd.prog.info? 41).map (fun i => (i.zero, i.size, i.bytes)) = some (some (.agg Lf.nil.arr), 3, 40) := by kernel_rfl
theorem larr_one (b : Lf) : (b.arr).all (·.oneCell') = true := by
  simp [Lf.arr, Value.oneCell']

set_option maxRecDepth 100000 in
set_option maxHeartbeats 2000000 in
theorem lclone_any (l : List Lf) (x : Value) (w : World) (hx : RdL w x l) (hl : l.length ≤ 1000000) :
    Calls Tryd.prog 20 #[x] w fun e w' => ∃ x', e = .returned x' ∧ w'.ownsRow w.heap.size 41 3 x' l.length (flatL l) ∧ Below w.heap.size w w' := by
  obtain ⟨a, cap, rfl, hlc, hcm, hcell⟩ := id hx
  obtain ⟨i0, hi, hz0, hz1, hz2⟩ := info_parts info41z
  have q38 : ∀ (w : World) (a : Option Addr) (n c n' c' : Nat), (binOp .eql 38 (.slice a n c) (.slice none n' c')).run Tryd.prog w = .ok (.bool a.isNone) w := fun w a n c n' c' => Lib.run_eql_slice_nil w _ _ a n c n' c' Tryd.underlying38
  cases a with
  | none =>
    have h0 : l.length = 0 := by
      rcases Nat.eq_zero_or_pos l.length with h | h
      · exact h
      · obtain ⟨g, o, e, _⟩ := hcell h; cases e
    have : l = [] := List.eq_nil_of_length_eq_zero h0
    subst this
    clear hcell hx
    go_enter Tryd.func20, Tryd.ntmps20
    go_wp2
    go_ret
    exact ⟨_, rfl, World.ownsRow_nil _ _ _ _, Below.refl _ _⟩
  | some ad =>
    have hnews : ∀ (j : Nat) (u : Value), (flatL l)[j]? = some u → (w.alloc (.cells #[] 41)).cell? (ad.add j) = some u := fun j u hu => by
      have h0 : 0 < l.length := by
        have := (List.getElem?_eq_some_iff.1 hu).1
        rw [flatL_len] at this
        omega
      obtain ⟨g, o, e, hg, hc⟩ := hcell h0
      cases e
      rw [addr_add]
      exact Lib.cell?_alloc_some _ (hc j u hu)
    obtain ⟨n, hn⟩ : ∃ n, n = l.length := ⟨_, rfl⟩
    have hfl := flatL_len l
    rw [← hn] at hfl hl hlc
    rw [← hn]
    have HFL := Lib.hid hfl
    have HNW := Lib.hid hnews
    clear hcell hx hn hfl hnews
    go_enter Tryd.func20, Tryd.ntmps20
    go_wp2_with (at_builtin; refine wpList_append_own _ rfl _ _ 38 rfl w.heap.size 41 i0 (.agg Lf.nil.arr) 3 40 Tryd.underlying38 hi hz0 hz1 hz2 rfl (by decide) _ _ _ rfl (World.ownsRow_made w #[] 0 (Nat.le_refl _) (Nat.zero_le _) rfl) ad n cap (flatL l) rfl HFL.out HNW.out (flatL_one l) (by unfold maxLen; omega) (by omega) (by simp) ?_)
    intro v' w1 hown hgrow _
    go_wp2
    go_ret
    refine ⟨v', rfl, by simpa using hown, ?_⟩
    exact ((Below.refl _ w).alloc (Nat.le_refl _) _).grown hgrow (by simp) (by intro k hk; simp [Value.ownBlock] at hk; omega)
end Go.Proofs.YtophihnjlodmjaaDoor

namespace Go.Proofs.YtophihnjlodmjaaDoor
open Go.RowKit Go.Shelf

/-- A leaf may be, whatever stands beside it. -/
def validLf (x : Lf) : Bool := !(x.p == [47]) && (decide (x.p.length ≤ 60) && (Pt.validB x.p && (if x.dir = true then x.d == [] else decide (x.d.length ≤ 200))))
/-- The leaf of a path. -/
def findL (l : List Lf) (p : Bs) : Lf × Bool := match l.find? (fun x => x.p == p) with
  | some x => (x, true)
  | none => (.nil, false)
def upIn (u : Bs) (l : List Lf) : Bool := u == [47] || ((findL l u).2 && (findL l u).1.dir)
/-- It stands at the root, or in a directory. -/
def inDirB (x : Lf) (l : List Lf) : Bool := upIn (Pt.upL x.p) l
/-- Each stands behind the one ahead of it. -/
def Rise (l : List Lf) : Prop := ∀ (i : Nat) (a b : Lf), l[i]? = some a → l[i + 1]? = some b → Pt.cmpL a.p b.p < 0
open Classical in
noncomputable def riseB (l : List Lf) : Bool := decide (Rise l)
def OkLs (l : List Lf) : Prop := l.length ≤ 16 ∧ (∀ x ∈ l, validLf x = true ∧ inDirB x l = true) ∧ Rise l
open Classical in
noncomputable def okLs (l : List Lf) : Bool := decide (OkLs l)
open Classical in
theorem okLs_iff (l : List Lf) : okLs l = true ↔ OkLs l := by unfold okLs; exact decide_eq_true_iff
open Classical in
theorem riseB_iff (l : List Lf) : riseB l = true ↔ Rise l := by unfold riseB; exact decide_eq_true_iff
open Classical in
theorem okLs_no {l : List Lf} (h : ¬ OkLs l) : okLs l = false := by unfold okLs; exact decide_eq_false h
theorem okLs_short {l : List Lf} (h : okLs l = true) : l.length ≤ 16 := ((okLs_iff l).1 h).1
theorem validLf_iff (x : Lf) : validLf x = true ↔ x.p ≠ [47] ∧ x.p.length ≤ 60 ∧ Pt.validB x.p = true ∧ (x.dir = true → x.d = []) ∧ (x.dir = false → x.d.length ≤ 200) := by
  unfold validLf
  cases x.dir <;> simp
theorem validLf_data {x : Lf} (h : validLf x = true) : x.d.length ≤ 200 := by
  obtain ⟨_, _, _, h4, h5⟩ := (validLf_iff x).1 h
  cases hd : x.dir with
  | true => rw [h4 hd]; simp
  | false => exact h5 hd
theorem okLs_path {l : List Lf} (h : okLs l = true) {x : Lf} (hx : x ∈ l) : x.p.length ≤ 60 := ((validLf_iff x).1 (((okLs_iff l).1 h).2.1 x hx).1).2.1
theorem okLs_data {l : List Lf} (h : okLs l = true) {x : Lf} (hx : x ∈ l) : x.d.length ≤ 200 := validLf_data (((okLs_iff l).1 h).2.1 x hx).1
end Go.Proofs.YtophihnjlodmjaaDoor

namespace Go.Proofs.YtophihnjlodmjaaDoor
open Go.RowKit Go.Shelf
attribute [local go_sem] Oper.semAt_some

theorem results_two {P : Program} {fn : Func} {p q : Tmp} {ty : TypeId} (h : fn.results = #[.cell p ty, .tmp q]) (tmps : Array Value) (w : World) (g : Nat) (hp : tmps.getD p undef = .pointer (some ⟨g, 0, none⟩)) (cs : Array Value) (hr : (loadVar ty ⟨g, 0, none⟩).run P w = .ok (.agg cs) w) :
    (results fn tmps).run P w = .ok (.tuple #[.agg cs, tmps.getD q undef]) w := by
  have e : tmps[p]?.getD undef = .pointer (some ⟨g, 0, none⟩) := by rw [← hp]; simp
  simp [results, h, e, asAddr, hr]
theorem end_lf {fn : Func} {p q : Tmp} (h : fn.results = #[.cell p 41, .tmp q]) (tmps : Array Value) {w : World} {g : Nat} {y : Lf} (X : Box w g 41 y.arr) (hp : tmps.getD p undef = .pointer (some ⟨g, 0, none⟩)) {v : Value} (hq : tmps.getD q undef = v) :
    (results fn tmps).run Tryd.prog w = .ok (.tuple #[.agg y.arr, v]) w := by
  rw [← hq]
  exact results_two h tmps w g hp y.arr (run_loadVar_row _ g 41 41 y.arr (0, 0) _ X Tryd.underlying41 rfl (info41 _))

set_option maxRecDepth 100000 in
set_option maxHeartbeats 4000000 in
theorem find_any (l : List Lf) (v : Value) (p : ByteArray) (w : World) (hv : RdL w v l) (hl : l.length ≤ 1000000) : Calls Tryd.prog 70 #[v, .string p] w fun e w' => e = .returned (.tuple #[.agg (findL l p.data.toList).1.arr, .bool (findL l p.data.toList).2]) ∧ Below w.heap.size w w' := by
  obtain ⟨w1, hw1⟩ : ∃ z, z = (w.alloc (.cells #[.string ⟨#[]⟩, .bool false, .string ⟨#[]⟩] 41)) := ⟨_, rfl⟩
  have X1 : Hid (Box w1 w.heap.size 41 Lf.nil.arr) := Lib.hid (by rw [hw1]; exact box_new)
  have HB1 : Hid (Below w.heap.size w w1) := Lib.hid (by rw [hw1]; exact below_new _ _)
  have HV := Lib.hid (hv.on HB1.out)
  obtain ⟨b4, hb4⟩ : ∃ z, z = w.heap.size := ⟨_, rfl⟩
  rw [← hb4] at X1
  have H4 : Hid (w.heap.size ≤ b4) := Lib.hid (by rw [hb4]; exact Nat.le_refl _)
  obtain ⟨a, c, rfl, hlc, hcm, _⟩ := hv.open
  obtain ⟨n, hn⟩ : ∃ n, n = l.length := ⟨_, rfl⟩
  rw [← hn] at HV hl hlc ⊢
  have HN := Lib.hid hn
  have hlI : (n : Int) ≤ 1000000 := by omega
  clear hv hn
  have HR : Hid (findL l p.data.toList = match l.find? (fun x => x.p == p.data.toList) with | some x => (x, true) | none => (.nil, false)) := Lib.hid rfl
  go_enter Tryd.func70, Tryd.ntmps70
  go_upto_region 1 with fail
  rw [← hw1, ← hb4]
  clear hw1 hb4
  go_wp2_with fail
  go_loopw [10] (fun i W => ∃ k : Nat, k ≤ n ∧ i = .int .i64 k ∧ Hid (∀ (j : Nat) (x : Lf), l[j]? = some x → j < k → x.p ≠ p.data.toList) ∧ Hid (Below w1.heap.size w1 W)) (fun i _ => n - (Lib.intOf i).toNat)
  case atStart => exact ⟨0, Nat.zero_le _, rfl, Lib.hid (fun j x _ h => absurd h (Nat.not_lt_zero _)), Lib.hid (Below.refl _ _)⟩
  case round =>
    obtain ⟨k, hk, rfl, HLo, HBk⟩ := hrel
    obtain ⟨wq, hwq⟩ : ∃ q, q = wr := ⟨_, rfl⟩
    rw [← hwq] at HBk ⊢
    clear hwq
    by_cases hlt : k < n
    · obtain ⟨x, hx⟩ : ∃ x, l[k]? = some x := ⟨_, List.getElem?_eq_getElem (by rw [← HN.out]; exact hlt)⟩
      obtain ⟨a', c', e, _, _, hc⟩ := (HV.out.on HBk.out).open
      rw [← HN.out] at e
      cases e
      obtain ⟨g, o, rfl, hg, hc⟩ := hc (by rw [← HN.out]; omega)
      obtain ⟨q0, q1, q2⟩ := hc k x hx
      have k1 : (k : Int) < (n : Int) := by omega
      have k2 : (0 : Int) ≤ (k : Int) := by omega
      have k4 : IntKind.i64.wrap ((k : Int) + 1) = (k : Int) + 1 := IntWalk.i64_in _ (by omega)
      obtain ⟨w5, hw5⟩ : ∃ q, q = wq.alloc (.cells #[.string ⟨x.p.toArray⟩, .bool x.dir, .string ⟨x.d.toArray⟩] 41) := ⟨_, rfl⟩
      have X5 : Box w5 wq.heap.size 41 x.arr := by rw [hw5]; exact box_new
      have HB5 : Hid (Below w1.heap.size w1 w5) := Lib.hid (by rw [hw5]; exact bch HBk.out (below_new _ _))
      obtain ⟨d0, d1, d2⟩ := X5.lf
      have HX := Lib.hid hx
      clear hc hx X5
      go_upto_region 4 with fail
      obtain ⟨b7, hb7⟩ : ∃ q, q = wq.heap.size := ⟨_, rfl⟩
      rw [← hb7] at d0 d1 d2 ⊢
      rw [← hw5]
      clear hw5 hb7 q0 q1 q2
      by_cases he : x.p = p.data.toList
      · have t2 : x.p = p.toList := by rw [Lib.toList_data]; exact he
        have t3 : (x.p == p.toList) = true := by simp [t2]
        have HF : Hid (l.find? (fun x => x.p == p.data.toList) = some x) := Lib.hid (by
          rw [List.find?_eq_some_iff_getElem]
          refine ⟨by simp [he], k, (List.getElem?_eq_some_iff.1 HX.out).1, (List.getElem?_eq_some_iff.1 HX.out).2, fun j hj => ?_⟩
          have hjl : j < l.length := Nat.lt_trans hj (List.getElem?_eq_some_iff.1 HX.out).1
          have := HLo.out j (l[j]'hjl) (List.getElem?_eq_getElem hjl) hj
          simpa using this)
        have X7 := Lib.hid (X1.out.on HB5.out)
        have HB7 := Lib.hid (bch HB1.out HB5.out)
        have HXE : Hid (x.arr = Lf.arr ⟨p.toList, x.dir, x.d⟩) := Lib.hid (by rw [← t2])
        clear he
        go_wp2_with (refine wpList_store_row rfl 41 (.tmp 4) (.tmp 18) rfl b4 (Lf.arr ⟨p.toList, x.dir, x.d⟩) rfl rfl 41 _ X7.out (info41 _) rfl (larr_one _) ?_)
        exact bodyPost_ret (end_lf rfl _ (Boxed.row14 X7.out _) rfl rfl) rfl ⟨by rw [HR.out, HF.out]; show _ = Ending.returned (.tuple #[.agg x.arr, .bool true]); rw [HXE.out]; rfl, below_row14 HB7.out H4.out _⟩
      · have t2 : ¬ x.p = p.toList := by rw [Lib.toList_data]; exact he
        have t3 : (x.p == p.toList) = false := by simp [t2]
        have HLo2 : Hid (∀ (j : Nat) (y : Lf), l[j]? = some y → j < k + 1 → y.p ≠ p.data.toList) := Lib.hid (fun j y hj hlt => by
          rcases Nat.lt_or_ge j k with h | h
          · exact HLo.out j y hj h
          · obtain rfl : j = k := by omega
            rw [HX.out] at hj; cases hj; exact he)
        clear he
        go_wp2_with fail
        go_roundw
        case rel => exact ⟨k + 1, hlt, by go_num, HLo2, HB5⟩
        case measure => simp [Lib.intOf]; omega
    · have k1 : ¬ ((k : Int) < (n : Int)) := by omega
      have HF : Hid (l.find? (fun x => x.p == p.data.toList) = none) := Lib.hid (by
        rw [List.find?_eq_none]
        intro x hx
        obtain ⟨j, hj⟩ := List.mem_iff_getElem?.1 hx
        have := HLo.out j x hj (by have := (List.getElem?_eq_some_iff.1 hj).1; rw [← HN.out] at this; omega)
        simpa using this)
      have X7 := Lib.hid (X1.out.on HBk.out)
      have HB7 := Lib.hid (bch HB1.out HBk.out)
      go_wp2_with (first
        | (with_reducible refine wpList_zero rfl 41 rfl Lf.nil.arr zero41 ?_)
        | (refine wpList_store_row rfl 41 (.tmp 4) (.tmp 20) rfl b4 Lf.nil.arr rfl rfl 41 _ X7.out (info41 _) rfl (larr_one _) ?_))
      exact bodyPost_ret (end_lf rfl _ (Boxed.row14 X7.out _) rfl rfl) rfl ⟨by rw [HR.out, HF.out]; rfl, below_row14 HB7.out H4.out _⟩

set_option maxRecDepth 100000 in
set_option maxHeartbeats 4000000 in
theorem rfind_any (l : List Lf) (v : Value) (p : ByteArray) (w : World) (hv : RdL w v l) (hl : l.length ≤ 1000000) : Calls Tryd.prog 40 #[v, .string p] w fun e w' => e = .returned (.tuple #[.agg (findL l p.data.toList).1.arr, .bool (findL l p.data.toList).2]) ∧ Below w.heap.size w w' := by
  obtain ⟨w1, hw1⟩ : ∃ z, z = (w.alloc (.cells #[.string ⟨#[]⟩, .bool false, .string ⟨#[]⟩] 41)) := ⟨_, rfl⟩
  have X1 : Hid (Box w1 w.heap.size 41 Lf.nil.arr) := Lib.hid (by rw [hw1]; exact box_new)
  have HB1 : Hid (Below w.heap.size w w1) := Lib.hid (by rw [hw1]; exact below_new _ _)
  have HV := Lib.hid (hv.on HB1.out)
  obtain ⟨b4, hb4⟩ : ∃ z, z = w.heap.size := ⟨_, rfl⟩
  rw [← hb4] at X1
  have H4 : Hid (w.heap.size ≤ b4) := Lib.hid (by rw [hb4]; exact Nat.le_refl _)
  obtain ⟨a, c, rfl, hlc, hcm, _⟩ := hv.open
  obtain ⟨n, hn⟩ : ∃ n, n = l.length := ⟨_, rfl⟩
  rw [← hn] at HV hl hlc ⊢
  have HN := Lib.hid hn
  have hlI : (n : Int) ≤ 1000000 := by omega
  clear hv hn
  have HR : Hid (findL l p.data.toList = match l.find? (fun x => x.p == p.data.toList) with | some x => (x, true) | none => (.nil, false)) := Lib.hid rfl
  go_enter Tryd.func40, Tryd.ntmps40
  go_upto_region 1 with fail
  rw [← hw1, ← hb4]
  clear hw1 hb4
  go_wp2_with fail
  go_loopw [10] (fun i W => ∃ k : Nat, k ≤ n ∧ i = .int .i64 k ∧ Hid (∀ (j : Nat) (x : Lf), l[j]? = some x → j < k → x.p ≠ p.data.toList) ∧ Hid (Below w1.heap.size w1 W)) (fun i _ => n - (Lib.intOf i).toNat)
  case atStart => exact ⟨0, Nat.zero_le _, rfl, Lib.hid (fun j x _ h => absurd h (Nat.not_lt_zero _)), Lib.hid (Below.refl _ _)⟩
  case round =>
    obtain ⟨k, hk, rfl, HLo, HBk⟩ := hrel
    obtain ⟨wq, hwq⟩ : ∃ q, q = wr := ⟨_, rfl⟩
    rw [← hwq] at HBk ⊢
    clear hwq
    by_cases hlt : k < n
    · obtain ⟨x, hx⟩ : ∃ x, l[k]? = some x := ⟨_, List.getElem?_eq_getElem (by rw [← HN.out]; exact hlt)⟩
      obtain ⟨a', c', e, _, _, hc⟩ := (HV.out.on HBk.out).open
      rw [← HN.out] at e
      cases e
      obtain ⟨g, o, rfl, hg, hc⟩ := hc (by rw [← HN.out]; omega)
      obtain ⟨q0, q1, q2⟩ := hc k x hx
      have k1 : (k : Int) < (n : Int) := by omega
      have k2 : (0 : Int) ≤ (k : Int) := by omega
      have k4 : IntKind.i64.wrap ((k : Int) + 1) = (k : Int) + 1 := IntWalk.i64_in _ (by omega)
      obtain ⟨w5, hw5⟩ : ∃ q, q = wq.alloc (.cells #[.string ⟨x.p.toArray⟩, .bool x.dir, .string ⟨x.d.toArray⟩] 41) := ⟨_, rfl⟩
      have X5 : Box w5 wq.heap.size 41 x.arr := by rw [hw5]; exact box_new
      have HB5 : Hid (Below w1.heap.size w1 w5) := Lib.hid (by rw [hw5]; exact bch HBk.out (below_new _ _))
      obtain ⟨d0, d1, d2⟩ := X5.lf
      have HX := Lib.hid hx
      clear hc hx X5
      go_upto_region 4 with fail
      obtain ⟨b7, hb7⟩ : ∃ q, q = wq.heap.size := ⟨_, rfl⟩
      rw [← hb7] at d0 d1 d2 ⊢
      rw [← hw5]
      clear hw5 hb7 q0 q1 q2
      by_cases he : x.p = p.data.toList
      · have t2 : x.p = p.toList := by rw [Lib.toList_data]; exact he
        have t3 : (x.p == p.toList) = true := by simp [t2]
        have HF : Hid (l.find? (fun x => x.p == p.data.toList) = some x) := Lib.hid (by
          rw [List.find?_eq_some_iff_getElem]
          refine ⟨by simp [he], k, (List.getElem?_eq_some_iff.1 HX.out).1, (List.getElem?_eq_some_iff.1 HX.out).2, fun j hj => ?_⟩
          have hjl : j < l.length := Nat.lt_trans hj (List.getElem?_eq_some_iff.1 HX.out).1
          have := HLo.out j (l[j]'hjl) (List.getElem?_eq_getElem hjl) hj
          simpa using this)
        have X7 := Lib.hid (X1.out.on HB5.out)
        have HB7 := Lib.hid (bch HB1.out HB5.out)
        have HXE : Hid (x.arr = Lf.arr ⟨p.toList, x.dir, x.d⟩) := Lib.hid (by rw [← t2])
        clear he
        go_wp2_with (refine wpList_store_row rfl 41 (.tmp 4) (.tmp 18) rfl b4 (Lf.arr ⟨p.toList, x.dir, x.d⟩) rfl rfl 41 _ X7.out (info41 _) rfl (larr_one _) ?_)
        exact bodyPost_ret (end_lf rfl _ (Boxed.row14 X7.out _) rfl rfl) rfl ⟨by rw [HR.out, HF.out]; show _ = Ending.returned (.tuple #[.agg x.arr, .bool true]); rw [HXE.out]; rfl, below_row14 HB7.out H4.out _⟩
      · have t2 : ¬ x.p = p.toList := by rw [Lib.toList_data]; exact he
        have t3 : (x.p == p.toList) = false := by simp [t2]
        have HLo2 : Hid (∀ (j : Nat) (y : Lf), l[j]? = some y → j < k + 1 → y.p ≠ p.data.toList) := Lib.hid (fun j y hj hlt => by
          rcases Nat.lt_or_ge j k with h | h
          · exact HLo.out j y hj h
          · obtain rfl : j = k := by omega
            rw [HX.out] at hj; cases hj; exact he)
        clear he
        go_wp2_with fail
        go_roundw
        case rel => exact ⟨k + 1, hlt, by go_num, HLo2, HB5⟩
        case measure => simp [Lib.intOf]; omega
    · have k1 : ¬ ((k : Int) < (n : Int)) := by omega
      have HF : Hid (l.find? (fun x => x.p == p.data.toList) = none) := Lib.hid (by
        rw [List.find?_eq_none]
        intro x hx
        obtain ⟨j, hj⟩ := List.mem_iff_getElem?.1 hx
        have := HLo.out j x hj (by have := (List.getElem?_eq_some_iff.1 hj).1; rw [← HN.out] at this; omega)
        simpa using this)
      have X7 := Lib.hid (X1.out.on HBk.out)
      have HB7 := Lib.hid (bch HB1.out HBk.out)
      go_wp2_with (first
        | (with_reducible refine wpList_zero rfl 41 rfl Lf.nil.arr zero41 ?_)
        | (refine wpList_store_row rfl 41 (.tmp 4) (.tmp 20) rfl b4 Lf.nil.arr rfl rfl 41 _ X7.out (info41 _) rfl (larr_one _) ?_))
      exact bodyPost_ret (end_lf rfl _ (Boxed.row14 X7.out _) rfl rfl) rfl ⟨by rw [HR.out, HF.out]; rfl, below_row14 HB7.out H4.out _⟩
end Go.Proofs.YtophihnjlodmjaaDoor

namespace Go.Proofs.YtophihnjlodmjaaDoor
open Go.RowKit Go.Shelf
attribute [local go_sem] Oper.semAt_some

set_option maxRecDepth 100000 in
set_option maxHeartbeats 2000000 in
theorem leaf_any (x : Lf) (w : World) : Calls Tryd.prog 55 #[.agg #[.string ⟨x.p.toArray⟩, .bool x.dir, .string ⟨x.d.toArray⟩]] w fun e w' => e = .returned (.bool (validLf x)) ∧ Below w.heap.size w w' := by
  obtain ⟨w1, hw1⟩ : ∃ q, q = w.alloc (.cells #[.string ⟨x.p.toArray⟩, .bool x.dir, .string ⟨x.d.toArray⟩] 41) := ⟨_, rfl⟩
  have X1 : Hid (Box w1 w.heap.size 41 x.arr) := Lib.hid (by rw [hw1]; exact box_new)
  have B1 : Hid (Below w.heap.size w w1) := Lib.hid (by rw [hw1]; exact below_new _ _)
  obtain ⟨bx, hbx⟩ : ∃ q, q = w.heap.size := ⟨_, rfl⟩
  rw [← hbx] at X1
  go_enter Tryd.func55, Tryd.ntmps55
  go_upto_region 1 with fail
  rw [← hw1, ← hbx]
  clear hw1 hbx
  have x0 : w1.cell? ⟨bx, 0, none⟩ = some (.string ⟨x.p.toArray⟩) := X1.out.cell (k := 0) rfl
  have x1 : w1.cell? ⟨bx, 1, none⟩ = some (.bool x.dir) := X1.out.cell (k := 1) rfl
  have x2 : w1.cell? ⟨bx, 2, none⟩ = some (.string ⟨x.d.toArray⟩) := X1.out.cell (k := 2) rfl
  by_cases hr : x.p = [47]
  · have t1 : (x.p == [47]) = true := by simp [hr]
    have HV : Hid (validLf x = false) := Lib.hid (by unfold validLf; simp [hr])
    clear hr
    go_wp2
    go_ret
    exact ⟨by rw [HV.out]; rfl, B1.out⟩
  · have t1 : (x.p == [47]) = false := by simp [hr]
    by_cases hl : x.p.length ≤ 60
    · have t2 : decide ((x.p.length : Int) > 60) = false := decide_eq_false (by omega)
      obtain ⟨b, hb⟩ : ∃ b, b = Pt.validB x.p := ⟨_, rfl⟩
      have HCK : Hid (∀ W : World, Calls Tryd.prog 68 #[.string ⟨x.p.toArray⟩] W fun e w' => e = .returned (.int .i64 (Pt.errB b)) ∧ Below W.heap.size W w') := Lib.hid (fun W => by
        rw [hb]; exact Pt.check_any ⟨x.p.toArray⟩ (by show x.p.length ≤ _; omega) W)
      cases b with
      | false =>
        have HV : Hid (validLf x = false) := Lib.hid (by unfold validLf; rw [← hb]; simp)
        have HCK2 : Hid (∀ W : World, Calls Tryd.prog 68 #[.string ⟨x.p.toArray⟩] W fun e w' => e = .returned (.int .i64 110) ∧ Below W.heap.size W w') := HCK
        clear hr hl hb HCK
        go_wp2_with (go_at_call 68; refine (HCK2.out _).mono ?_; rintro e w2 ⟨rfl, hb2⟩; have B2 := Lib.hid (bch B1.out hb2); clear hb2)
        go_ret
        exact ⟨by rw [HV.out]; rfl, B2.out⟩
      | true =>
        have HCK2 : Hid (∀ W : World, Calls Tryd.prog 68 #[.string ⟨x.p.toArray⟩] W fun e w' => e = .returned (.int .i64 0) ∧ Below W.heap.size W w') := HCK
        cases hd : x.dir with
        | true =>
          have HV : Hid (validLf x = x.d.isEmpty) := Lib.hid (by unfold validLf; rw [← hb, hd, decide_eq_true hl]; simp [hr])
          have HD := Lib.hid hd
          rw [hd] at x1
          clear hr hl hb HCK hd
          go_upto_region 3 with (go_at_call 68; refine (HCK2.out _).mono ?_; rintro e w2 ⟨rfl, hb2⟩; have X2 := Lib.hid (X1.out.on hb2); have B2 := Lib.hid (bch B1.out hb2); clear hb2)
          clear x0 x1 x2
          have x1 : w2.cell? ⟨bx, 1, none⟩ = some (.bool true) := by rw [X2.out.cell (k := 1) (v := .bool x.dir) rfl, HD.out]
          have x2 : w2.cell? ⟨bx, 2, none⟩ = some (.string ⟨x.d.toArray⟩) := X2.out.cell (k := 2) rfl
          go_wp2
          go_ret
          exact ⟨by rw [HV.out]; rfl, B2.out⟩
        | false =>
          have HV : Hid (validLf x = decide (x.d.length ≤ 200)) := Lib.hid (by unfold validLf; rw [← hb, hd, decide_eq_true hl]; simp [hr])
          have HD := Lib.hid hd
          rw [hd] at x1
          clear hr hl hb HCK hd
          go_upto_region 3 with (go_at_call 68; refine (HCK2.out _).mono ?_; rintro e w2 ⟨rfl, hb2⟩; have X2 := Lib.hid (X1.out.on hb2); have B2 := Lib.hid (bch B1.out hb2); clear hb2)
          clear x0 x1 x2
          have x1 : w2.cell? ⟨bx, 1, none⟩ = some (.bool false) := by rw [X2.out.cell (k := 1) (v := .bool x.dir) rfl, HD.out]
          have x2 : w2.cell? ⟨bx, 2, none⟩ = some (.string ⟨x.d.toArray⟩) := X2.out.cell (k := 2) rfl
          have HI : Hid (decide ((x.d.length : Int) ≤ 200) = decide (x.d.length ≤ 200)) := Lib.hid (decide_eq_decide.2 (by omega))
          go_wp2
          go_ret
          exact ⟨by rw [HV.out, ← HI.out]; rfl, B2.out⟩
    · have t2 : decide ((x.p.length : Int) > 60) = true := decide_eq_true (by omega)
      have HV : Hid (validLf x = false) := Lib.hid (by unfold validLf; rw [decide_eq_false hl]; simp)
      clear hr hl
      go_wp2
      go_ret
      exact ⟨by rw [HV.out]; rfl, B1.out⟩

/-- Find's answer, cell by cell. -/
theorem find_lit (l : List Lf) (v : Value) (p : Bs) (w : World) (hv : RdL w v l) (hl : l.length ≤ 1000000) {y : Lf} {b : Bool} (hy : findL l p = (y, b)) : Calls Tryd.prog 70 #[v, .string ⟨p.toArray⟩] w fun e w' => e = .returned (.tuple #[.agg #[.string ⟨y.p.toArray⟩, .bool y.dir, .string ⟨y.d.toArray⟩], .bool b]) ∧ Below w.heap.size w w' :=
  (find_any l v ⟨p.toArray⟩ w hv hl).mono (by
    rintro e w' ⟨h, hb⟩
    refine ⟨?_, hb⟩
    rw [h]
    show Ending.returned (.tuple #[.agg (findL l p).1.arr, .bool (findL l p).2]) = _
    rw [hy]; rfl)

set_option maxRecDepth 100000 in
set_option maxHeartbeats 2000000 in
theorem indir_any (x : Lf) (l : List Lf) (v : Value) (w : World) (hv : RdL w v l) (hl : l.length ≤ 1000000) (hx : x.p.length ≤ 140737488355328) : Calls Tryd.prog 56 #[.agg #[.string ⟨x.p.toArray⟩, .bool x.dir, .string ⟨x.d.toArray⟩], v] w fun e w' => e = .returned (.bool (inDirB x l)) ∧ Below w.heap.size w w' := by
  obtain ⟨w1, hw1⟩ : ∃ q, q = w.alloc (.cells #[.string ⟨x.p.toArray⟩, .bool x.dir, .string ⟨x.d.toArray⟩] 41) := ⟨_, rfl⟩
  have X1 : Hid (Box w1 w.heap.size 41 x.arr) := Lib.hid (by rw [hw1]; exact box_new)
  have hb1 : Below w.heap.size w w1 := by rw [hw1]; exact below_new _ _
  have B1 := Lib.hid hb1
  have HV1 := Lib.hid (RdL.on hv hb1)
  obtain ⟨u, hu⟩ : ∃ u, u = Pt.upL x.p := ⟨_, rfl⟩
  have HUP : Hid (∀ W : World, Calls Tryd.prog 69 #[.string ⟨x.p.toArray⟩] W fun e w' => e = .returned (.string ⟨u.toArray⟩) ∧ Below W.heap.size W w') := Lib.hid (fun W => by rw [hu]; exact Pt.up_any ⟨x.p.toArray⟩ hx W)
  have HU := Lib.hid hu
  have HLL := Lib.hid hl
  obtain ⟨a, c, rfl, _, _, _⟩ := hv.open
  obtain ⟨n, hn⟩ : ∃ n, n = l.length := ⟨_, rfl⟩
  rw [← hn] at HV1 ⊢
  obtain ⟨bx, hbx⟩ : ∃ q, q = w.heap.size := ⟨_, rfl⟩
  rw [← hbx] at X1
  have HIN : Hid (inDirB x l = (u == [47] || ((findL l u).2 && (findL l u).1.dir))) := Lib.hid (by rw [hu]; rfl)
  clear hv hb1 hu hl hn hx
  go_enter Tryd.func56, Tryd.ntmps56
  go_upto_region 1 with fail
  rw [← hw1, ← hbx]
  clear hw1 hbx
  have x0 : w1.cell? ⟨bx, 0, none⟩ = some (.string ⟨x.p.toArray⟩) := X1.out.cell (k := 0) rfl
  cases hf : findL l u with
  | mk y b =>
    rw [hf] at HIN
    have HFI : Hid (∀ W : World, Below w1.heap.size w1 W → Calls Tryd.prog 70 #[.slice a n c, .string ⟨u.toArray⟩] W fun e w' => e = .returned (.tuple #[.agg #[.string ⟨y.p.toArray⟩, .bool y.dir, .string ⟨y.d.toArray⟩], .bool b]) ∧ Below W.heap.size W w') := Lib.hid (fun W hW => find_lit l _ u W (HV1.out.on hW) HLL.out hf)
    clear hf
    go_upto_region 2 with (go_at_call 69; refine (HUP.out _).mono ?_; rintro e w2 ⟨rfl, hb2⟩; have HB2 := Lib.hid hb2; clear hb2)
    clear x0
    go_upto_region 3 with (go_at_call 70; refine (HFI.out _ HB2.out).mono ?_; rintro e w3 ⟨rfl, hb3⟩; have HB3 := Lib.hid (bch B1.out (bch HB2.out hb3)); clear hb3)
    obtain ⟨w4, hw4⟩ : ∃ q, q = w3.alloc (.cells #[.string ⟨y.p.toArray⟩, .bool y.dir, .string ⟨y.d.toArray⟩] 41) := ⟨_, rfl⟩
    have X4 : Box w4 w3.heap.size 41 y.arr := by rw [hw4]; exact box_new
    have y1 : w4.cell? ⟨w3.heap.size, 1, none⟩ = some (.bool y.dir) := X4.cell (k := 1) rfl
    have HB4 : Hid (Below w.heap.size w w4) := Lib.hid (by rw [hw4]; exact bch HB3.out (below_new _ _))
    rw [← hw4]
    obtain ⟨b6, hb6⟩ : ∃ q, q = w3.heap.size := ⟨_, rfl⟩
    rw [← hb6] at y1 ⊢
    clear hw4 hb6 X4
    by_cases hr : u = [47]
    · have t1 : (u == [47]) = true := by simp [hr]
      have HV : Hid (inDirB x l = true) := Lib.hid (by rw [HIN.out, t1]; rfl)
      clear hr
      go_wp2
      go_ret
      exact ⟨by rw [HV.out]; rfl, HB4.out⟩
    · have t1 : (u == [47]) = false := by simp [hr]
      clear hr
      cases b with
      | false =>
        have HV : Hid (inDirB x l = false) := Lib.hid (by rw [HIN.out, t1]; rfl)
        go_wp2
        go_ret
        exact ⟨by rw [HV.out]; rfl, HB4.out⟩
      | true =>
        have HV : Hid (inDirB x l = y.dir) := Lib.hid (by rw [HIN.out, t1]; simp)
        go_wp2
        go_ret
        exact ⟨by rw [HV.out]; rfl, HB4.out⟩

set_option maxRecDepth 100000 in
set_option maxHeartbeats 2000000 in
theorem lcmp_any (x y : Lf) (hx : x.p.length ≤ 140737488355328) (hy : y.p.length ≤ 140737488355328) (w : World) : Calls Tryd.prog 58 #[.agg #[.string ⟨x.p.toArray⟩, .bool x.dir, .string ⟨x.d.toArray⟩], .agg #[.string ⟨y.p.toArray⟩, .bool y.dir, .string ⟨y.d.toArray⟩]] w fun e w' => e = .returned (.int .i64 (Pt.cmpL x.p y.p)) ∧ Below w.heap.size w w' := by
  obtain ⟨w1, hw1⟩ : ∃ q, q = (w.alloc (.cells #[.string ⟨x.p.toArray⟩, .bool x.dir, .string ⟨x.d.toArray⟩] 41)).alloc (.cells #[.string ⟨y.p.toArray⟩, .bool y.dir, .string ⟨y.d.toArray⟩] 41) := ⟨_, rfl⟩
  have X1 : Box w1 w.heap.size 41 x.arr := by rw [hw1]; exact box_new.alloc _
  have X2 : Box w1 (w.heap.size + 1) 41 y.arr := by rw [hw1, show w.heap.size + 1 = (w.alloc (.cells #[.string ⟨x.p.toArray⟩, .bool x.dir, .string ⟨x.d.toArray⟩] 41)).heap.size from by simp]; exact box_new
  have B1 : Hid (Below w.heap.size w w1) := Lib.hid (by rw [hw1]; exact bch (below_new _ _) (below_new _ _))
  have HC : Hid (∀ W : World, Calls Tryd.prog 59 #[.string ⟨x.p.toArray⟩, .string ⟨y.p.toArray⟩] W fun e w' => e = .returned (.int .i64 (Pt.cmpL x.p y.p)) ∧ Below W.heap.size W w') := Lib.hid (fun W => Pt.cmp_any ⟨x.p.toArray⟩ ⟨y.p.toArray⟩ hx hy W)
  have x0 : w1.cell? ⟨w.heap.size, 0, none⟩ = some (.string ⟨x.p.toArray⟩) := X1.cell (k := 0) rfl
  have y0 : w1.cell? ⟨w.heap.size + 1, 0, none⟩ = some (.string ⟨y.p.toArray⟩) := X2.cell (k := 0) rfl
  clear X1 X2 hx hy
  go_enter Tryd.func58, Tryd.ntmps58
  go_upto_region 1 with fail
  rw [← hw1]
  clear hw1
  go_wp2_with (go_at_call 59; refine (HC.out _).mono ?_; rintro e w2 ⟨rfl, hb2⟩; have B2 := Lib.hid (bch B1.out hb2); clear hb2)
  go_ret
  exact ⟨rfl, B2.out⟩

set_option maxRecDepth 100000 in
set_option maxHeartbeats 4000000 in
theorem rise_any (l : List Lf) (v : Value) (w : World) (hv : RdL w v l) (hl : l.length ≤ 1000000) (hp : ∀ x ∈ l, x.p.length ≤ 140737488355328) : Calls Tryd.prog 57 #[v, .func (.func 58) #[] #[]] w fun e w' => e = .returned (.bool (riseB l)) ∧ Below w.heap.size w w' := by
  have HP := Lib.hid hp
  have HV := Lib.hid hv
  obtain ⟨a, c, rfl, hlc, hcm, hcc⟩ := hv.open
  obtain ⟨n, hn⟩ : ∃ n, n = l.length := ⟨_, rfl⟩
  rw [← hn] at HV hl hlc ⊢
  have HN := Lib.hid hn
  clear hv hn hp hcc
  unfold maxLen at hcm
  go_enter Tryd.func57, Tryd.ntmps57
  go_wp2_with fail
  go_loopw [5] (fun i W => ∃ k : Nat, (k + 1 ≤ n ∨ k = 0) ∧ i = .int .i64 ((k : Int) + 1) ∧ Hid (∀ (j : Nat) (x y : Lf), j < k → l[j]? = some x → l[j + 1]? = some y → Pt.cmpL x.p y.p < 0) ∧ Hid (Below w.heap.size w W)) (fun i _ => n + 1 - (Lib.intOf i).toNat)
  case atStart => exact ⟨0, .inr rfl, rfl, Lib.hid (fun j x y h => absurd h (Nat.not_lt_zero _)), Lib.hid (Below.refl _ _)⟩
  case round =>
    obtain ⟨k, hk, rfl, HLo, HB⟩ := hrel
    by_cases hlt : k + 1 < n
    · obtain ⟨x, hx⟩ : ∃ x, l[k]? = some x := ⟨_, List.getElem?_eq_getElem (by rw [← HN.out]; omega)⟩
      obtain ⟨y, hy⟩ : ∃ y, l[k + 1]? = some y := ⟨_, List.getElem?_eq_getElem (by rw [← HN.out]; omega)⟩
      obtain ⟨a', c', e, z1, z2, hc⟩ := (HV.out.on HB.out).open
      clear z1 z2
      rw [← HN.out] at e
      cases e
      obtain ⟨g, o, rfl, hg, hd⟩ := hc (by rw [← HN.out]; omega)
      have hxa := hd k x hx
      have hya := hd (k + 1) y hy
      clear hd hc
      have k1 : (k : Int) + 1 < (n : Int) := by omega
      have k2 : (0 : Int) ≤ (k : Int) := by omega
      have k3 : IntKind.i64.wrap (k : Int) = (k : Int) := IntWalk.i64_in _ (by omega)
      have k6 : (k : Int) < (n : Int) := by omega
      have k7 : (0 : Int) ≤ (k : Int) + 1 := by omega
      have k8 : ((k : Int) + 1).toNat = k + 1 := by omega
      have k5 : IntKind.i64.wrap ((k : Int) + 1 - 1) = (k : Int) := by rw [IntWalk.i64_in _ (by omega)]; omega
      have HPX : Hid (x.p.length ≤ 140737488355328) := Lib.hid (HP.out x (List.mem_of_getElem? hx))
      have HPY : Hid (y.p.length ≤ 140737488355328) := Lib.hid (HP.out y (List.mem_of_getElem? hy))
      have HX := Lib.hid hx
      have HY := Lib.hid hy
      clear hx hy
      go_upto_region 4 with fail
      have q0 : wr.cell? ⟨g, o + k * 3, none⟩ = some (.string ⟨x.p.toArray⟩) := hxa.c0
      have q1 : wr.cell? ⟨g, o + k * 3 + 1, none⟩ = some (.bool x.dir) := hxa.c1
      have q2 : wr.cell? ⟨g, o + k * 3 + 2, none⟩ = some (.string ⟨x.d.toArray⟩) := hxa.c2
      have r0 : wr.cell? ⟨g, o + (k + 1) * 3, none⟩ = some (.string ⟨y.p.toArray⟩) := hya.c0
      have r1 : wr.cell? ⟨g, o + (k + 1) * 3 + 1, none⟩ = some (.bool y.dir) := hya.c1
      have r2 : wr.cell? ⟨g, o + (k + 1) * 3 + 2, none⟩ = some (.string ⟨y.d.toArray⟩) := hya.c2
      obtain ⟨z, hz⟩ : ∃ z, z = Pt.cmpL x.p y.p := ⟨_, rfl⟩
      have HCM : Hid (∀ W : World, Calls Tryd.prog 58 #[.agg #[.string ⟨x.p.toArray⟩, .bool x.dir, .string ⟨x.d.toArray⟩], .agg #[.string ⟨y.p.toArray⟩, .bool y.dir, .string ⟨y.d.toArray⟩]] W fun e w' => e = .returned (.int .i64 z) ∧ Below W.heap.size W w') := Lib.hid (fun W => by rw [hz]; exact lcmp_any x y HPX.out HPY.out W)
      have HBW : Hid (∀ w3, Below wr.heap.size wr.drew w3 → Below w.heap.size w w3) := Lib.hid (fun w3 h => bch (below_drewN HB.out 1) h)
      by_cases hz0 : z < 0
      · have tz : decide (z ≥ 0) = false := decide_eq_false (by omega)
        have HLo2 : Hid (∀ (j : Nat) (x y : Lf), j < k + 1 → l[j]? = some x → l[j + 1]? = some y → Pt.cmpL x.p y.p < 0) := Lib.hid (fun j x' y' hj hx' hy' => by
          rcases Nat.lt_or_ge j k with h | h
          · exact HLo.out j x' y' h hx' hy'
          · obtain rfl : j = k := by omega
            rw [HX.out] at hx'; rw [HY.out] at hy'
            cases hx'; cases hy'
            rw [← hz]; exact hz0)
        have k9 : IntKind.i64.wrap ((k : Int) + 1 + 1) = (k : Int) + 1 + 1 := IntWalk.i64_in _ (by omega)
        clear hz hz0
        go_still_tail 10, (by kernel_rfl)
        go_wp2_with (go_at_call 58; refine (HCM.out _).mono ?_; rintro e w3 ⟨rfl, hb3⟩; have B3 := Lib.hid (HBW.out _ hb3); clear hb3)
        go_roundw
        case rel => exact ⟨k + 1, .inl (by omega), by go_num, HLo2, B3⟩
        case measure => simp [Lib.intOf]; omega
      · have tz : decide (z ≥ 0) = true := decide_eq_true (by omega)
        have HR : Hid (riseB l = false) := Lib.hid (Bool.eq_false_iff.2 fun h => hz0 (by rw [hz]; exact (riseB_iff l).1 h k x y HX.out HY.out))
        clear hz hz0
        go_still_tail 10, (by kernel_rfl)
        go_wp2_with (go_at_call 58; refine (HCM.out _).mono ?_; rintro e w3 ⟨rfl, hb3⟩; have B3 := Lib.hid (HBW.out _ hb3); clear hb3)
        go_ret
        exact ⟨by rw [HR.out]; rfl, B3.out⟩
    · have HR : Hid (riseB l = true) := Lib.hid ((riseB_iff l).2 fun j x y hx hy => HLo.out j x y (by
        have := (List.getElem?_eq_some_iff.1 hy).1
        rw [← HN.out] at this
        omega) hx hy)
      have k1 : ¬ ((k : Int) + 1 < (n : Int)) := by omega
      go_wp2
      go_ret
      exact ⟨by rw [HR.out]; rfl, HB.out⟩
end Go.Proofs.YtophihnjlodmjaaDoor

namespace Go.Proofs.YtophihnjlodmjaaDoor
open Go.RowKit Go.Shelf
attribute [local go_sem] Oper.semAt_some

set_option maxRecDepth 100000 in
set_option maxHeartbeats 4000000 in
theorem vleaves_any (l : List Lf) (v : Value) (w : World) (hv : RdL w v l) : Calls Tryd.prog 44 #[v] w fun e w' => e = .returned (.bool (okLs l)) ∧ Below w.heap.size w w' := by
  have HV := Lib.hid hv
  obtain ⟨a, c, rfl, hlc, hcm, hcc⟩ := hv.open
  obtain ⟨n, hn⟩ : ∃ n, n = l.length := ⟨_, rfl⟩
  rw [← hn] at HV hlc ⊢
  have HN := Lib.hid hn
  clear hv hn hcc
  unfold maxLen at hcm
  by_cases h16 : n ≤ 16
  · have t16 : decide ((n : Int) > 16) = false := decide_eq_false (by omega)
    go_enter Tryd.func44, Tryd.ntmps44
    go_wp2_with fail
    clear t16
    go_loopw [10] (fun i W => ∃ k : Nat, k ≤ n ∧ i = .int .i64 (k : Int) ∧ Hid (∀ (j : Nat) (x : Lf), j < k → l[j]? = some x → validLf x = true ∧ inDirB x l = true) ∧ Hid (Below w.heap.size w W)) (fun i _ => n - (Lib.intOf i).toNat)
    case atStart => exact ⟨0, Nat.zero_le _, rfl, Lib.hid (fun j x h => absurd h (Nat.not_lt_zero _)), Lib.hid (Below.refl _ _)⟩
    case round =>
      obtain ⟨k, hk, rfl, HLo, HB⟩ := hrel
      obtain ⟨wq, hwq⟩ : ∃ q, q = wr := ⟨_, rfl⟩
      rw [← hwq] at HB ⊢
      clear hwq
      by_cases hlt : k < n
      · obtain ⟨x, hx⟩ : ∃ x, l[k]? = some x := ⟨_, List.getElem?_eq_getElem (by rw [← HN.out]; exact hlt)⟩
        have HVQ := Lib.hid (HV.out.on HB.out)
        obtain ⟨a', c', e, z1, z2, hc⟩ := HVQ.out.open
        clear z1 z2
        rw [← HN.out] at e
        cases e
        obtain ⟨g, o, rfl, hg, hd⟩ := hc (by rw [← HN.out]; omega)
        obtain ⟨q0, q1, q2⟩ := hd k x hx
        have k1 : (k : Int) < (n : Int) := by omega
        have k2 : (0 : Int) ≤ (k : Int) := by omega
        have k4 : IntKind.i64.wrap ((k : Int) + 1) = (k : Int) + 1 := IntWalk.i64_in _ (by omega)
        obtain ⟨w5, hw5⟩ : ∃ q, q = wq.alloc (.cells #[.string ⟨x.p.toArray⟩, .bool x.dir, .string ⟨x.d.toArray⟩] 41) := ⟨_, rfl⟩
        have X5 : Hid (Box w5 wq.heap.size 41 x.arr) := Lib.hid (by rw [hw5]; exact box_new)
        have hb5 : Below wq.heap.size wq w5 := by rw [hw5]; exact below_new _ _
        have HB5 : Hid (Below w.heap.size w w5) := Lib.hid (bch HB.out hb5)
        have HX := Lib.hid hx
        clear hc hd hx hb5
        go_upto_region 6 with fail
        obtain ⟨b7, hb7⟩ : ∃ q, q = wq.heap.size := ⟨_, rfl⟩
        rw [← hb7] at X5 ⊢
        rw [← hw5]
        clear hw5 hb7 q0 q1 q2
        have d0 : w5.cell? ⟨b7, 0, none⟩ = some (.string ⟨x.p.toArray⟩) := X5.out.cell (k := 0) rfl
        have d1 : w5.cell? ⟨b7, 1, none⟩ = some (.bool x.dir) := X5.out.cell (k := 1) rfl
        have d2 : w5.cell? ⟨b7, 2, none⟩ = some (.string ⟨x.d.toArray⟩) := X5.out.cell (k := 2) rfl
        cases h1 : validLf x with
        | false =>
          have HR : Hid (okLs l = false) := Lib.hid (okLs_no fun h => by
            have := (h.2.1 x (List.mem_of_getElem? HX.out)).1
            rw [h1] at this; cases this)
          have HV1 := Lib.hid h1
          clear h1
          go_wp2_with (go_at_call 55; refine (leaf_any x _).mono ?_; rintro e w6 ⟨rfl, hb⟩; have HB6 := Lib.hid (bch HB5.out hb); rw [HV1.out]; clear hb)
          go_ret
          exact ⟨by rw [HR.out]; rfl, HB6.out⟩
        | true =>
          have HV1 := Lib.hid h1
          have HPX : Hid (x.p.length ≤ 140737488355328) := Lib.hid (by have := ((validLf_iff x).1 h1).2.1; omega)
          have HLL : Hid (l.length ≤ 1000000) := Lib.hid (by rw [← HN.out]; omega)
          clear h1
          cases h2 : inDirB x l with
          | false =>
            have HR : Hid (okLs l = false) := Lib.hid (okLs_no fun h => by
              have := (h.2.1 x (List.mem_of_getElem? HX.out)).2
              rw [h2] at this; cases this)
            have HV2 := Lib.hid h2
            clear h2
            go_wp2_with (first
              | (go_at_call 55; refine (leaf_any x _).mono ?_; rintro e w6 ⟨rfl, hb⟩; have HB6 := Lib.hid (bch HB5.out hb); have X6 := Lib.hid (X5.out.on hb); rw [HV1.out]; clear hb d0 d1 d2; have d0 : w6.cell? ⟨b7, 0, none⟩ = some (.string ⟨x.p.toArray⟩) := X6.out.cell (k := 0) rfl; have d1 : w6.cell? ⟨b7, 1, none⟩ = some (.bool x.dir) := X6.out.cell (k := 1) rfl; have d2 : w6.cell? ⟨b7, 2, none⟩ = some (.string ⟨x.d.toArray⟩) := X6.out.cell (k := 2) rfl)
              | (go_at_call 56; refine (indir_any x l _ _ (HV.out.on HB6.out) HLL.out HPX.out).mono ?_; rintro e w8 ⟨rfl, hb⟩; have HB8 := Lib.hid (bch HB6.out hb); rw [HV2.out]; clear hb))
            go_ret
            exact ⟨by rw [HR.out]; rfl, HB8.out⟩
          | true =>
            have HLo2 : Hid (∀ (j : Nat) (y : Lf), j < k + 1 → l[j]? = some y → validLf y = true ∧ inDirB y l = true) := Lib.hid (fun j y hj hy => by
              rcases Nat.lt_or_ge j k with h | h
              · exact HLo.out j y h hy
              · obtain rfl : j = k := by omega
                rw [HX.out] at hy; cases hy
                exact ⟨HV1.out, h2⟩)
            have HV2 := Lib.hid h2
            clear h2
            go_wp2_with (first
              | (go_at_call 55; refine (leaf_any x _).mono ?_; rintro e w6 ⟨rfl, hb⟩; have HB6 := Lib.hid (bch HB5.out hb); have X6 := Lib.hid (X5.out.on hb); rw [HV1.out]; clear hb d0 d1 d2; have d0 : w6.cell? ⟨b7, 0, none⟩ = some (.string ⟨x.p.toArray⟩) := X6.out.cell (k := 0) rfl; have d1 : w6.cell? ⟨b7, 1, none⟩ = some (.bool x.dir) := X6.out.cell (k := 1) rfl; have d2 : w6.cell? ⟨b7, 2, none⟩ = some (.string ⟨x.d.toArray⟩) := X6.out.cell (k := 2) rfl)
              | (go_at_call 56; refine (indir_any x l _ _ (HV.out.on HB6.out) HLL.out HPX.out).mono ?_; rintro e w8 ⟨rfl, hb⟩; have HB8 := Lib.hid (bch HB6.out hb); rw [HV2.out]; clear hb))
            go_roundw
            case rel => exact ⟨k + 1, by omega, by go_num, HLo2, HB8⟩
            case measure => simp [Lib.intOf]; omega
      · have k1 : ¬ ((k : Int) < (n : Int)) := by omega
        have HALL : Hid (∀ x ∈ l, validLf x = true ∧ inDirB x l = true) := Lib.hid (fun x hx => by
          obtain ⟨j, hj⟩ := List.mem_iff_getElem?.1 hx
          exact HLo.out j x (by have := (List.getElem?_eq_some_iff.1 hj).1; rw [← HN.out] at this; omega) hj)
        have HR : Hid (okLs l = riseB l) := Lib.hid (by
          rw [Bool.eq_iff_iff, okLs_iff, riseB_iff]
          exact ⟨fun h => h.2.2, fun h => ⟨by rw [← HN.out]; exact h16, HALL.out, h⟩⟩)
        have HC : Hid (∀ W : World, RdL W (.slice a n c) l → Calls Tryd.prog 57 #[.slice a n c, .func (.func 58) #[] #[]] W fun e w' => e = .returned (.bool (okLs l)) ∧ Below W.heap.size W w') := Lib.hid (fun W hW => by
          rw [HR.out]
          exact rise_any l _ W hW (by rw [← HN.out]; omega) (fun x hx => by
            have := ((validLf_iff x).1 (HALL.out x hx).1).2.1
            omega))
        go_wp2_with (go_at_call 57; refine (HC.out _ (HV.out.on HB.out)).mono ?_; rintro e w6 ⟨rfl, hb⟩; have HB6 := Lib.hid (bch HB.out hb); clear hb)
        go_ret
        exact ⟨rfl, HB6.out⟩
  · have t16 : decide ((n : Int) > 16) = true := decide_eq_true (by omega)
    have HR : Hid (okLs l = false) := Lib.hid (okLs_no fun h => h16 (by rw [HN.out]; exact h.1))
    clear h16
    go_enter Tryd.func44, Tryd.ntmps44
    go_wp2
    go_ret
    exact ⟨by rw [HR.out]; rfl, Below.refl _ _⟩

theorem unless_any (b : Bool) (w : World) : Calls Tryd.prog 43 #[.bool b] w fun e w' => e = .returned (.int .i64 (if b = true then 0 else 190)) ∧ w = w' := by
  cases b
  all_goals
    go_enter Tryd.func43, Tryd.ntmps43
    go_wp2
    go_ret
    exact ⟨rfl, rfl⟩
noncomputable def chkLs (l : List Lf) : Int := if okLs l = true then 0 else 190
theorem chkls_any (l : List Lf) (v : Value) (w : World) (hv : RdL w v l) : Calls Tryd.prog 27 #[v] w fun e w' => e = .returned (.int .i64 (chkLs l)) ∧ Below w.heap.size w w' := by
  have HC := Lib.hid (vleaves_any l v w hv)
  obtain ⟨a, c, rfl, _, _, _⟩ := hv.open
  obtain ⟨z, hz⟩ : ∃ z, z = chkLs l := ⟨_, rfl⟩
  have HU : Hid (∀ W : World, Calls Tryd.prog 43 #[.bool (okLs l)] W fun e w' => e = .returned (.int .i64 z) ∧ W = w') := Lib.hid (fun W => by rw [hz]; exact unless_any _ W)
  rw [← hz]
  clear hv hz
  go_enter Tryd.func27, Tryd.ntmps27
  go_wp2_with (first
    | (go_at_call 44; refine HC.out.mono ?_; rintro e w6 ⟨rfl, hb⟩; have HB6 := Lib.hid hb; clear hb)
    | (go_at_call 43; refine (HU.out _).mono ?_; rintro e w' ⟨rfl, rfl⟩))
  go_ret
  exact ⟨rfl, HB6.out⟩
end Go.Proofs.YtophihnjlodmjaaDoor

namespace Go.Proofs.YtophihnjlodmjaaDoor
open Go.RowKit Go.Shelf
attribute [local go_sem] Oper.semAt_some

def mvLf (fr tt : Bs) (x : Lf) : Option Lf := match movL fr tt x.d with
  | some (o, _) => if o.length ≤ 200 then some ⟨x.p, x.dir, o⟩ else none
  | none => none
def mvLs (fr tt : Bs) : List Lf → Option (List Lf)
  | [] => some []
  | x :: l => match mvLf fr tt x, mvLs fr tt l with
    | some y, some m => some (y :: m)
    | _, _ => none
theorem mvLf_some {fr tt : Bs} {x : Lf} {o : Bs} {al : List Nat} (h : movL fr tt x.d = some (o, al)) (ho : o.length ≤ 200) : mvLf fr tt x = some ⟨x.p, x.dir, o⟩ := by unfold mvLf; rw [h]; simp [ho]
theorem mvLf_long {fr tt : Bs} {x : Lf} {o : Bs} {al : List Nat} (h : movL fr tt x.d = some (o, al)) (ho : ¬ o.length ≤ 200) : mvLf fr tt x = none := by unfold mvLf; rw [h]; simp [ho]
theorem mvLf_none {fr tt : Bs} {x : Lf} (h : movL fr tt x.d = none) : mvLf fr tt x = none := by unfold mvLf; rw [h]
theorem mvLs_len (fr tt : Bs) : ∀ {l m : List Lf}, mvLs fr tt l = some m → m.length = l.length
  | [], m, h => by cases h; rfl
  | x :: l, m, h => by
    unfold mvLs at h
    cases h1 : mvLf fr tt x with
    | none => rw [h1] at h; cases h
    | some y =>
      cases h2 : mvLs fr tt l with
      | none => rw [h1, h2] at h; cases h
      | some m' => rw [h1, h2] at h; cases h; simp [mvLs_len fr tt h2]
theorem mvLs_at (fr tt : Bs) : ∀ {l m : List Lf}, mvLs fr tt l = some m → ∀ (j : Nat) (x : Lf), l[j]? = some x → ∃ y, mvLf fr tt x = some y ∧ m[j]? = some y
  | [], m, h, j, x, hx => by cases hx
  | x :: l, m, h, j, u, hu => by
    unfold mvLs at h
    cases h1 : mvLf fr tt x with
    | none => rw [h1] at h; cases h
    | some y =>
      cases h2 : mvLs fr tt l with
      | none => rw [h1, h2] at h; cases h
      | some m' =>
        rw [h1, h2] at h; cases h
        cases j with
        | zero => simp at hu; subst hu; exact ⟨y, h1, by simp⟩
        | succ j => simp at hu; obtain ⟨z, hz, hz2⟩ := mvLs_at fr tt h2 j u hu; exact ⟨z, hz, by simpa using hz2⟩
theorem mvLs_of (fr tt : Bs) : ∀ {l m : List Lf}, m.length = l.length → (∀ (j : Nat) (x : Lf), l[j]? = some x → ∃ y, mvLf fr tt x = some y ∧ m[j]? = some y) → mvLs fr tt l = some m
  | [], m, hl, _ => by rw [List.eq_nil_of_length_eq_zero hl]; rfl
  | x :: l, m, hl, h => by
    cases m with
    | nil => cases hl
    | cons u m =>
      obtain ⟨y, hy, hy2⟩ := h 0 x rfl
      simp at hy2
      subst hy2
      have := mvLs_of fr tt (l := l) (m := m) (by simpa using hl) (fun j z hz => by
        obtain ⟨y, h1, h2⟩ := h (j + 1) z (by simpa using hz)
        exact ⟨y, h1, by simpa using h2⟩)
      unfold mvLs
      rw [hy, this]
theorem mvLs_no (fr tt : Bs) : ∀ {l : List Lf} {x : Lf}, x ∈ l → mvLf fr tt x = none → mvLs fr tt l = none
  | [], x, hx, _ => by cases hx
  | y :: l, x, hx, h => by
    unfold mvLs
    rcases List.mem_cons.1 hx with e | e
    · subst e; rw [h]
    · rw [mvLs_no fr tt e h]
      cases mvLf fr tt y <;> rfl
/-- The first k are moved, the others stand. -/
structure MvK (fr tt : Bs) (l m : List Lf) (k : Nat) : Prop where
  len : m.length = l.length
  lo : ∀ (j : Nat) (x : Lf), j < k → l[j]? = some x → ∃ y, mvLf fr tt x = some y ∧ m[j]? = some y
  hi : ∀ j, k ≤ j → m[j]? = l[j]?
theorem MvK.start (fr tt : Bs) (l : List Lf) : MvK fr tt l l 0 := ⟨rfl, fun j x h => absurd h (Nat.not_lt_zero _), fun _ _ => rfl⟩
theorem MvK.next {fr tt : Bs} {l m : List Lf} {k : Nat} (h : MvK fr tt l m k) {x y : Lf} (hx : l[k]? = some x) (hy : mvLf fr tt x = some y) : MvK fr tt l (m.set k y) (k + 1) := by
  have hk := (List.getElem?_eq_some_iff.1 hx).1
  refine ⟨by rw [List.length_set, h.len], fun j z hj hz => ?_, fun j hj => ?_⟩
  · rcases Nat.lt_or_ge j k with h1 | h1
    · obtain ⟨u, hu, hu2⟩ := h.lo j z h1 hz
      exact ⟨u, hu, by rw [List.getElem?_set_ne (by omega)]; exact hu2⟩
    · obtain rfl : j = k := by omega
      rw [hx] at hz; cases hz
      exact ⟨y, hy, by rw [List.getElem?_set_self (by rw [h.len]; exact hk)]⟩
  · rw [List.getElem?_set_ne (by omega)]; exact h.hi j (by omega)
theorem MvK.done {fr tt : Bs} {l m : List Lf} (h : MvK fr tt l m l.length) : mvLs fr tt l = some m :=
  mvLs_of fr tt h.len fun j x hx => h.lo j x (List.getElem?_eq_some_iff.1 hx).1 hx
theorem flatL_set (m : List Lf) (k : Nat) (x : Lf) (o : Bs) (hx : m[k]? = some x) : (flatL m).set (k * 3 + 2) (.string ⟨o.toArray⟩) = flatL (m.set k ⟨x.p, x.dir, o⟩) := by
  induction m generalizing k with
  | nil => cases hx
  | cons v m ih =>
    cases k with
    | zero =>
      simp at hx
      subst hx
      rfl
    | succ k =>
      rw [List.set_cons_succ, flatL_cons, flatL_cons, List.set_append_right _ _ (by rw [lcells_len]; omega), lcells_len, show (k + 1) * 3 + 2 - 3 = k * 3 + 2 by omega, ih k (by simpa using hx)]
theorem own_store {w : World} {B g n cap size : Nat} {e : TypeId} {xs : List Value} (h : w.ownsRow B e size (.slice (some ⟨g, 0, none⟩) n cap) n xs) (k : Nat) (v : Value) : (w.setCell ⟨g, k, none⟩ v).ownsRow B e size (.slice (some ⟨g, 0, none⟩) n cap) n (xs.set k v) := by
  obtain ⟨h1, ⟨h2, _⟩ | ⟨g', cap', cur, hv, hb, hg, hc, hm, hs, ht⟩⟩ := h
  · cases h2
  · cases hv
    refine ⟨by rw [List.length_set]; exact h1, .inr ⟨g, cap, cur.setIfInBounds k v, rfl, hb, heap_setCell_same w g k cur e v hg, hc, hm, by simpa using hs, ?_⟩⟩
    rw [Array.toList_setIfInBounds, ← ht, List.take_set]
theorem below_set {B g k : Nat} {a w : World} (h : Below B a w) (hg : B ≤ g) (v : Value) : Below B a (w.setCell ⟨g, k, none⟩ v) :=
  h.setCell (p := ⟨g, k, none⟩) hg v

set_option maxRecDepth 100000 in
/-- The first of three that is none of nought, else nought. -/
theorem or3_any (g c : Nat) (x y z : Int) (w : World) (h0 : w.cell? ⟨g, 0, none⟩ = some (.int .i64 x)) (h1 : w.cell? ⟨g, 1, none⟩ = some (.int .i64 y)) (h2 : w.cell? ⟨g, 2, none⟩ = some (.int .i64 z)) : Calls Tryd.prog 32 #[.slice (some ⟨g, 0, none⟩) 3 c] w fun e w' => e = .returned (.int .i64 (if x = 0 then (if y = 0 then z else y) else x)) ∧ w = w' := by
  go_enter Tryd.func32, Tryd.ntmps32
  go_wp2
  go_loop [8] (fun i => ∃ k : Nat, i = .int .i64 (k : Int) ∧ k ≤ 3 ∧ Hid ((1 ≤ k → x = 0) ∧ (2 ≤ k → y = 0) ∧ (3 ≤ k → z = 0))) (fun i => 3 - (Lib.intOf i).toNat)
  case atStart => exact ⟨0, rfl, Nat.zero_le _, Lib.hid ⟨by omega, by omega, by omega⟩⟩
  case round =>
    obtain ⟨k, rfl, hk, HK⟩ := hrel
    match k, hk with
    | 0, _ =>
      by_cases hx : x = 0
      · subst hx
        go_wp2
        go_round
        case rel => exact ⟨1, by go_num, by omega, Lib.hid ⟨fun _ => by trivial, by omega, by omega⟩⟩
        case measure => simp [Lib.intOf]
      · have t1 : (x != 0) = true := bne_iff_ne.2 hx
        go_wp2
        go_ret
        exact ⟨rfl, rfl⟩
    | 1, _ =>
      obtain rfl := HK.out.1 (Nat.le_refl _)
      by_cases hy : y = 0
      · subst hy
        go_wp2
        go_round
        case rel => exact ⟨2, by go_num, by omega, Lib.hid ⟨fun _ => by trivial, fun _ => by trivial, by omega⟩⟩
        case measure => simp [Lib.intOf]
      · have t1 : (y != 0) = true := bne_iff_ne.2 hy
        go_wp2
        go_ret
        exact ⟨rfl, rfl⟩
    | 2, _ =>
      obtain rfl := HK.out.1 (by omega)
      obtain rfl := HK.out.2.1 (Nat.le_refl _)
      by_cases hz : z = 0
      · subst hz
        go_wp2
        go_round
        case rel => exact ⟨3, by go_num, by omega, Lib.hid ⟨fun _ => by trivial, fun _ => by trivial, fun _ => by trivial⟩⟩
        case measure => simp [Lib.intOf]
      · have t1 : (z != 0) = true := bne_iff_ne.2 hz
        go_wp2
        go_ret
        exact ⟨rfl, rfl⟩
    | 3, _ =>
      obtain rfl := HK.out.1 (by omega)
      obtain rfl := HK.out.2.1 (by omega)
      obtain rfl := HK.out.2.2 (Nat.le_refl _)
      go_wp2
      go_ret
      exact ⟨rfl, rfl⟩
end Go.Proofs.YtophihnjlodmjaaDoor

namespace Go.Proofs.YtophihnjlodmjaaDoor
open Go.RowKit Go.Shelf
attribute [local go_sem] Oper.semAt_some

def OwnL (w : World) (B : Nat) (v : Value) (l : List Lf) : Prop := w.ownsRow B 41 3 v l.length (flatL l)
theorem OwnL.rd {w : World} {B : Nat} {v : Value} {l : List Lf} (h : OwnL w B v l) : RdL w v l := RdX.of_own h
theorem OwnL.on {w w' : World} {B : Nat} {v : Value} {l : List Lf} (h : OwnL w B v l) (hb : Below w.heap.size w w') : OwnL w' B v l := by
  have hx := h
  obtain ⟨h1, hc⟩ := h
  rcases hc with ⟨rfl, h0⟩ | ⟨g, c, cur, rfl, hB, hg, hr⟩
  · exact ⟨h1, .inl ⟨rfl, h0⟩⟩
  · exact ⟨h1, .inr ⟨g, c, cur, rfl, hB, (hb.block g (hx.lt g rfl).2).trans hg, hr⟩⟩
theorem OwnL.low {w : World} {B B' : Nat} {v : Value} {l : List Lf} (h : OwnL w B v l) (hB : B' ≤ B) : OwnL w B' v l := by
  obtain ⟨h1, hc⟩ := h
  rcases hc with hc | ⟨g, c, cur, e, h2, hr⟩
  · exact ⟨h1, .inl hc⟩
  · exact ⟨h1, .inr ⟨g, c, cur, e, Nat.le_trans hB h2, hr⟩⟩
theorem OwnL.slice {w : World} {B : Nat} {v : Value} {l : List Lf} (h : OwnL w B v l) : ∃ a c, v = .slice a l.length c := by
  obtain ⟨a, c, e, _⟩ := h.rd.open
  exact ⟨a, c, e⟩
theorem own_none (w : World) (B : Nat) : OwnL w B (.slice none 0 0) [] := World.ownsRow_nil w B 41 3
theorem OwnL.blk {w : World} {B : Nat} {v : Value} {l : List Lf} (h : OwnL w B v l) : ∀ q, v.ownBlock = some q → B ≤ q := by
  intro q hq
  rcases h.2 with ⟨rfl, _⟩ | ⟨g, cap, cur, rfl, hg, _⟩
  · simp [Value.ownBlock] at hq
  · simp [Value.ownBlock] at hq; omega
theorem OwnL.push {w : World} {B : Nat} {v : Value} {l : List Lf} {m : Nat} {x : Lf} (hm : m = l.length) (h : w.ownsRow B 41 3 v (m + 1) (flatL l ++ x.cells)) : OwnL w B v (l ++ [x]) := by
  unfold OwnL
  rw [List.length_append, flatL_append, ← hm]
  simpa [flatL] using h
theorem three_new (W : World) (x : Lf) : ∀ (j : Nat) (u : Value), x.cells[j]? = some u → (W.alloc (.cells x.arr 41)).cell? ((⟨W.heap.size, 0, none⟩ : Addr).add j) = some u := by
  intro j u hu
  rw [addr_add, Nat.zero_add]
  exact (box_new (w := W) (t := 41) (cs := x.arr)).cell (by rw [← hu, ← Array.getElem?_toList]; rfl)
/-- What an element of an own row reads as, and that it is not frozen. -/
theorem OwnL.at {w : World} {B g n c : Nat} {l : List Lf} (h : OwnL w B (.slice (some ⟨g, 0, none⟩) n c) l) {k : Nat} {x : Lf} (hx : l[k]? = some x) : w.cell? ⟨g, k * 3 + 2, none⟩ = some (.string ⟨x.d.toArray⟩) ∧ w.frozen? ⟨g, k * 3 + 2, none⟩ = false ∧ g < w.heap.size ∧ B ≤ g := by
  have hlt := World.ownsRow.lt h g rfl
  obtain ⟨a, c', e, _, _, hc⟩ := h.rd.open
  cases e
  obtain ⟨g', o, e, hg, hd⟩ := hc (by have := (List.getElem?_eq_some_iff.1 hx).1; omega)
  cases e
  refine ⟨by have := (hd k x hx).c2; rw [Nat.zero_add] at this; exact this, ?_, hlt.2, hlt.1⟩
  obtain ⟨_, ⟨h2, _⟩ | ⟨g2, cap, cur, hv, hb, hg2, _⟩⟩ := h
  · cases h2
  · cases hv
    exact frozen_of_row w g (k * 3 + 2) cur 41 hg2
theorem OwnL.store {w : World} {B g n c : Nat} {l : List Lf} (h : OwnL w B (.slice (some ⟨g, 0, none⟩) n c) l) {k : Nat} {x : Lf} (hx : l[k]? = some x) (o : Bs) : OwnL (w.setCell ⟨g, k * 3 + 2, none⟩ (.string ⟨o.toArray⟩)) B (.slice (some ⟨g, 0, none⟩) n c) (l.set k ⟨x.p, x.dir, o⟩) := by
  obtain ⟨a, c', e, _⟩ := h.rd.open
  cases e
  unfold OwnL at h ⊢
  rw [List.length_set, ← flatL_set l k x o hx]
  exact own_store h _ _
def LvR (fr tt : Bs) (l : List Lf) (w : World) (e : Ending) (w' : World) : Prop :=
  ((okLs l = false ∧ e = .returned (.tuple #[.slice none 0 0, .int .i64 190])) ∨
   (okLs l = true ∧ ¬ (okB fr = true ∧ okB tt = true) ∧ e = .returned (.tuple #[.slice none 0 0, .int .i64 240])) ∨
   (okLs l = true ∧ okB fr = true ∧ okB tt = true ∧ ((mvLs fr tt l = none ∧ e = .returned (.tuple #[.slice none 0 0, .int .i64 3])) ∨
      ∃ m v, mvLs fr tt l = some m ∧ e = .returned (.tuple #[v, .int .i64 0]) ∧ OwnL w' w.heap.size v m))) ∧ Below w.heap.size w w'
theorem or3_is (w : World) (x y z : Int) {q : Int} (hq : (if x = 0 then (if y = 0 then z else y) else x) = q) (c : Nat) : Calls Tryd.prog 32 #[.slice (some ⟨w.heap.size, 0, none⟩) 3 c] (w.alloc (.cells #[.int .i64 x, .int .i64 y, .int .i64 z] 30)) fun e w' => e = .returned (.int .i64 q) ∧ (w.alloc (.cells #[.int .i64 x, .int .i64 y, .int .i64 z] 30)) = w' := by
  rw [← hq]
  exact or3_any _ c x y z _ ((cell_of_row _ _ 0 _ _ _ (heap_alloc_new w _)).trans rfl) ((cell_of_row _ _ 1 _ _ _ (heap_alloc_new w _)).trans rfl) ((cell_of_row _ _ 2 _ _ _ (heap_alloc_new w _)).trans rfl)

set_option maxRecDepth 100000 in
set_option maxHeartbeats 8000000 in
theorem leaves_any (l : List Lf) (fr tt : Bs) (v : Value) (w : World) (hv : RdL w v l) (hf : fr.length ≤ 64) (ht : tt.length ≤ 64) : Calls Tryd.prog 21 #[v, .string ⟨fr.toArray⟩, .string ⟨tt.toArray⟩] w (LvR fr tt l w) := by
  have HV := Lib.hid hv
  have HF := Lib.hid hf
  have HT := Lib.hid ht
  have HCL := Lib.hid (chkls_any l v w hv)
  obtain ⟨a, c, rfl, hlc, hcm, hcc⟩ := hv.open
  obtain ⟨n, hn⟩ : ∃ n, n = l.length := ⟨_, rfl⟩
  rw [← hn] at HV hlc HCL ⊢
  have HN := Lib.hid hn
  clear hv hn hcc hf ht
  unfold maxLen at hcm
  cases hok : okLs l with
  | false =>
    have E0 : Hid (chkLs l = 190) := Lib.hid (by unfold chkLs; rw [hok]; rfl)
    have E1 : Hid (chkI fr = chkI fr) := Lib.hid rfl
    have E2 : Hid (chkI tt = chkI tt) := Lib.hid rfl
    have HK := Lib.hid hok
    clear hok
    obtain ⟨z1, hz1⟩ : ∃ z, z = chkI fr := ⟨_, rfl⟩
    obtain ⟨z2, hz2⟩ : ∃ z, z = chkI tt := ⟨_, rfl⟩
    replace E1 : Hid (chkI fr = z1) := Lib.hid hz1.symm
    replace E2 : Hid (chkI tt = z2) := Lib.hid hz2.symm
    clear hz1 hz2
    go_enter Tryd.func21, Tryd.ntmps21
    go_upto_region 2 with (first
      | (go_at_call 27; refine HCL.out.mono ?_; rintro e w1 ⟨rfl, hb⟩; rw [E0.out]; have HB1 := Lib.hid hb; clear hb)
      | (go_at_call 13; refine (chk_any _ (by have := HF.out; have := HT.out; omega) _).mono ?_; rintro e w' ⟨rfl, rfl⟩; first | rw [E1.out] | rw [E2.out])
      | (go_at_call 32; refine (or3_is w1 _ _ _ rfl _).mono ?_; rintro e w' ⟨rfl, rfl⟩))
    have HB2 : Hid (Below w.heap.size w (w1.alloc (.cells #[.int .i64 190, .int .i64 z1, .int .i64 z2] 30))) := Lib.hid (bch HB1.out (below_new _ _))
    go_wp2
    go_ret2
    exact ⟨.inl ⟨HK.out, rfl⟩, HB2.out⟩
  | true =>
    have E0 : Hid (chkLs l = 0) := Lib.hid (by unfold chkLs; rw [hok]; rfl)
    have HK := Lib.hid hok
    cases hfr : okB fr with
    | false =>
      have E1 : Hid (chkI fr = 240) := Lib.hid (chk_f hfr)
      have HNO : Hid (¬ (okB fr = true ∧ okB tt = true)) := Lib.hid (by rw [hfr]; simp)
      obtain ⟨z2, hz2⟩ : ∃ z, z = chkI tt := ⟨_, rfl⟩
      have E2 : Hid (chkI tt = z2) := Lib.hid hz2.symm
      clear hok hfr hz2
      go_enter Tryd.func21, Tryd.ntmps21
      go_upto_region 2 with (first
        | (go_at_call 27; refine HCL.out.mono ?_; rintro e w1 ⟨rfl, hb⟩; rw [E0.out]; have HB1 := Lib.hid hb; clear hb)
        | (go_at_call 13; refine (chk_any _ (by have := HF.out; have := HT.out; omega) _).mono ?_; rintro e w' ⟨rfl, rfl⟩; first | rw [E1.out] | rw [E2.out])
        | (go_at_call 32; refine (or3_is w1 _ _ _ rfl _).mono ?_; rintro e w' ⟨rfl, rfl⟩))
      have HB2 : Hid (Below w.heap.size w (w1.alloc (.cells #[.int .i64 0, .int .i64 240, .int .i64 z2] 30))) := Lib.hid (bch HB1.out (below_new _ _))
      go_wp2
      go_ret2
      exact ⟨.inr (.inl ⟨HK.out, HNO.out, rfl⟩), HB2.out⟩
    | true =>
      have E1 : Hid (chkI fr = 0) := Lib.hid (chk_t hfr)
      have HF1 := Lib.hid hfr
      cases htt : okB tt with
      | false =>
        have E2 : Hid (chkI tt = 240) := Lib.hid (chk_f htt)
        have HNO : Hid (¬ (okB fr = true ∧ okB tt = true)) := Lib.hid (by rw [htt]; simp)
        clear hok hfr htt
        go_enter Tryd.func21, Tryd.ntmps21
        go_upto_region 2 with (first
          | (go_at_call 27; refine HCL.out.mono ?_; rintro e w1 ⟨rfl, hb⟩; rw [E0.out]; have HB1 := Lib.hid hb; clear hb)
          | (go_at_call 13; refine (chk_any _ (by have := HF.out; have := HT.out; omega) _).mono ?_; rintro e w' ⟨rfl, rfl⟩; first | rw [E1.out] | rw [E2.out])
          | (go_at_call 32; refine (or3_is w1 _ _ _ rfl _).mono ?_; rintro e w' ⟨rfl, rfl⟩))
        have HB2 : Hid (Below w.heap.size w (w1.alloc (.cells #[.int .i64 0, .int .i64 0, .int .i64 240] 30))) := Lib.hid (bch HB1.out (below_new _ _))
        go_wp2
        go_ret2
        exact ⟨.inr (.inl ⟨HK.out, HNO.out, rfl⟩), HB2.out⟩
      | true =>
        have E2 : Hid (chkI tt = 0) := Lib.hid (chk_t htt)
        have HT1 := Lib.hid htt
        have hn16 : n ≤ 16 := by have := okLs_short hok; rw [HN.out]; exact this
        have HDL : Hid (∀ x ∈ l, x.d.length ≤ 200) := Lib.hid (fun x hx => okLs_data hok hx)
        clear hok hfr htt
        go_enter Tryd.func21, Tryd.ntmps21
        go_upto_region 2 with (first
          | (go_at_call 27; refine HCL.out.mono ?_; rintro e w1 ⟨rfl, hb⟩; rw [E0.out]; have HB1 := Lib.hid hb; clear hb)
          | (go_at_call 13; refine (chk_any _ (by have := HF.out; have := HT.out; omega) _).mono ?_; rintro e w' ⟨rfl, rfl⟩; first | rw [E1.out] | rw [E2.out])
          | (go_at_call 32; refine (or3_is w1 _ _ _ rfl _).mono ?_; rintro e w' ⟨rfl, rfl⟩))
        have HB2 : Hid (Below w.heap.size w (w1.alloc (.cells #[.int .i64 0, .int .i64 0, .int .i64 0] 30))) := Lib.hid (bch HB1.out (below_new _ _))
        go_upto_region 5 with (go_at_call 20; refine (lclone_any l _ _ (HV.out.on HB2.out) (by rw [← HN.out]; omega)).mono ?_; rintro e w3 ⟨v9, rfl, ho, hb⟩; have HO3 : Hid (OwnL w3 _ v9 l) := Lib.hid ho; have HB3 := Lib.hid (bch HB2.out hb); have HW3 := Lib.hid HB2.out.size; clear ho hb)
        replace HO3 := Lib.hid (HO3.out.low HW3.out)
        obtain ⟨a9, c9, rfl⟩ := HO3.out.slice
        rw [← HN.out] at HO3 ⊢
        go_wp2_with fail
        go_loopw [29] (fun i W => ∃ (k : Nat) (m : List Lf), k ≤ n ∧ i = .int .i64 (k : Int) ∧ Hid (MvK fr tt l m k) ∧ Hid (OwnL W w.heap.size (.slice a9 n c9) m) ∧ Hid (Below w.heap.size w W)) (fun i _ => n - (Lib.intOf i).toNat)
        case atStart => exact ⟨0, l, Nat.zero_le _, rfl, Lib.hid (MvK.start fr tt l), HO3, HB3⟩
        case round =>
          clear HO3 HB3 HB2 HB1
          obtain ⟨k, m, hk, rfl, HM, HO, HB⟩ := hrel
          by_cases hlt : k < n
          · have hkl : k < l.length := by rw [← HN.out]; exact hlt
            obtain ⟨x, hx⟩ : ∃ x, l[k]? = some x := ⟨_, List.getElem?_eq_getElem hkl⟩
            have hmx : m[k]? = some x := (HM.out.hi k (Nat.le_refl _)).trans hx
            obtain ⟨g, cap', e, hgB, hgl⟩ := World.ownsRow.form HO.out (by rw [HM.out.len]; omega)
            rw [HM.out.len, ← HN.out] at e
            cases e
            obtain ⟨q2, qz, _, _⟩ := HO.out.at hmx
            have hxd := HDL.out x (List.mem_of_getElem? hx)
            have k1 : (k : Int) < (n : Int) := by omega
            have k2 : (0 : Int) ≤ (k : Int) := by omega
            have k4 : IntKind.i64.wrap ((k : Int) + 1) = (k : Int) + 1 := IntWalk.i64_in _ (by omega)
            have HX := Lib.hid hx
            have HMX := Lib.hid hmx
            have HXD := Lib.hid hxd
            clear hx hmx hxd hkl
            cases hmv : movL fr tt x.d with
            | none =>
              have HMV := Lib.hid hmv
              have HR : Hid (mvLs fr tt l = none) := Lib.hid (mvLs_no fr tt (List.mem_of_getElem? HX.out) (mvLf_none hmv))
              clear hmv
              go_wp2_with (go_at_call 18; refine (move_none _ _ _ (by have := HXD.out; omega) (by have := HF.out; omega) (by have := HT.out; omega) HF1.out HT1.out HMV.out _).mono ?_; rintro e w5 ⟨rfl, hb⟩; have HB5 := Lib.hid (bch HB.out hb); clear hb)
              go_ret2
              exact ⟨.inr (.inr ⟨HK.out, HF1.out, HT1.out, .inl ⟨HR.out, rfl⟩⟩), HB5.out⟩
            | some z =>
              obtain ⟨o, al⟩ := z
              have HMV := Lib.hid hmv
              by_cases ho2 : o.length ≤ 200
              · have t3 : decide ((o.length : Int) > 200) = false := decide_eq_false (by omega)
                have HMN := Lib.hid (HM.out.next HX.out (mvLf_some hmv ho2))
                have HAT : Hid (∀ W, Below wr.heap.size wr W → OwnL W w.heap.size (.slice (some ⟨g, 0, none⟩) n c9) m) := Lib.hid (fun W hW => HO.out.on hW)
                clear hmv ho2
                go_wp2_with (go_at_call 18; refine (move_some _ _ _ (by have := HXD.out; omega) (by have := HF.out; omega) (by have := HT.out; omega) HF1.out HT1.out HMV.out _).mono ?_; rintro e w5 ⟨a12, c12, rfl, _, hb⟩; have HB5 := Lib.hid (bch HB.out hb); have HO5 := Lib.hid (HAT.out _ hb); clear hb q2 qz; have q2 := (HO5.out.at HMX.out).1; have qz := (HO5.out.at HMX.out).2.1)
                go_roundw
                case rel => exact ⟨k + 1, _, hlt, by go_num, HMN, Lib.hid (HO5.out.store HMX.out o), Lib.hid (below_set HB5.out (HO5.out.at HMX.out).2.2.2 _)⟩
                case measure => simp [Lib.intOf]; omega
              · have t3 : decide ((o.length : Int) > 200) = true := decide_eq_true (by omega)
                have HR : Hid (mvLs fr tt l = none) := Lib.hid (mvLs_no fr tt (List.mem_of_getElem? HX.out) (mvLf_long hmv ho2))
                clear hmv ho2
                go_wp2_with (go_at_call 18; refine (move_some _ _ _ (by have := HXD.out; omega) (by have := HF.out; omega) (by have := HT.out; omega) HF1.out HT1.out HMV.out _).mono ?_; rintro e w5 ⟨a12, c12, rfl, _, hb⟩; have HB5 := Lib.hid (bch HB.out hb); clear hb)
                go_ret2
                exact ⟨.inr (.inr ⟨HK.out, HF1.out, HT1.out, .inl ⟨HR.out, rfl⟩⟩), HB5.out⟩
          · have k1 : ¬ ((k : Int) < (n : Int)) := by omega
            obtain rfl : k = n := by omega
            have HR : Hid (mvLs fr tt l = some m) := Lib.hid (by have := HM.out; rw [HN.out] at this; exact this.done)
            go_wp2
            go_ret2
            exact ⟨.inr (.inr ⟨HK.out, HF1.out, HT1.out, .inr ⟨m, _, HR.out, rfl, HO.out⟩⟩), HB.out⟩
end Go.Proofs.YtophihnjlodmjaaDoor
