/- Proved here: standing of package walk (where the items of a tree stand, as a map) and the function that it hands out. -/
import Derived.Test.YtiakedoebecgpaaDoorWValid2
import Derived.Maps.OwnSet
import Derived.Maps.Views
import Derived.Carry
namespace Go.Proofs.YtiakedoebecgpaaDoor
open Go.RowKit Go.Shelf

/-- How a value of a map is read: as it is. -/
def RV (v : Value) : Option (DataW Value × List MemPlace) := some (.held v, [])
def putD (D : DataW Value) (x : It) : DataW Value := D.put (.string x.path) (.held (.agg x.arr))
def heldO : Option It → DataW Value → DataW Value
  | some y, _ => .held (.agg y.arr)
  | none, z => z
def mapD (l : List It) : DataW Value := l.foldl putD (putD (.map []) .root)
/-- The last item of a path counts. -/
def getM (l : List It) (p : Str) : Option It := l.foldl (fun o x => if x.path = p then some x else o) (if p = [47] then some .root else none)
theorem mapD_snoc (l : List It) (x : It) : mapD (l ++ [x]) = putD (mapD l) x := by simp [mapD]
theorem getM_snoc (l : List It) (x : It) (p : Str) : getM (l ++ [x]) p = if x.path = p then some x else getM l p := by simp [getM]
theorem isMap_put {D : DataW Value} (h : Maps.IsMap D) (x : It) : Maps.IsMap (putD D x) := h.put _ _
theorem isMap_mapD (l : List It) : Maps.IsMap (mapD l) := by
  induction l using snoc_ind with
  | nil => exact isMap_put Maps.isMap_empty _
  | snoc l x ih => rw [mapD_snoc]; exact isMap_put ih x
theorem keyS (p : Str) : WideAt.IsKeyLit (.string p) := by unfold WideAt.IsKeyLit; trivial
theorem put_look {D : DataW Value} (hD : Maps.IsMap D) (x : It) (p : Str) (o : Option It)
    (h : Maps.has D (.string p) = o.isSome ∧ ∀ zd, D.atKey (.string p) zd = heldO o zd) :
    Maps.has (putD D x) (.string p) = (if x.path = p then some x else o).isSome ∧ ∀ zd, (putD D x).atKey (.string p) zd = heldO (if x.path = p then some x else o) zd := by
  unfold putD
  by_cases e : x.path = p
  · subst e
    rw [if_pos rfl]
    exact ⟨Maps.has_put_same hD (keyS _) _, fun zd => Maps.atKey_put_same hD (keyS _) _ _⟩
  · rw [if_neg e]
    have hne : (Lit.string p) ≠ .string x.path := fun k => e (by injection k with k; exact k.symm)
    exact ⟨by rw [Maps.has_put_other hne]; exact h.1, fun zd => by rw [Maps.atKey_put_other hne]; exact h.2 zd⟩
theorem map_look (l : List It) (p : Str) : Maps.has (mapD l) (.string p) = (getM l p).isSome ∧ ∀ zd, (mapD l).atKey (.string p) zd = heldO (getM l p) zd := by
  induction l using snoc_ind with
  | nil =>
    have := put_look Maps.isMap_empty .root p none ⟨rfl, fun zd => rfl⟩
    have e : getM [] p = if It.root.path = p then some .root else none := by
      show (if p = [47] then some It.root else none) = if [47] = p then some .root else none
      by_cases h : p = [47]
      · rw [if_pos h, if_pos h.symm]
      · rw [if_neg h, if_neg (fun k => h k.symm)]
    rw [e]
    exact this
  | snoc l x ih => rw [mapD_snoc, getM_snoc]; exact put_look (isMap_mapD l) x p _ ih
theorem getM_none {l : List It} {p : Str} (h : ∀ x ∈ l, x.path ≠ p) : getM l p = if p = [47] then some .root else none := by
  induction l using snoc_ind with
  | nil => rfl
  | snoc l x ih =>
    rw [getM_snoc, if_neg (h x (by simp))]
    exact ih (fun y hy => h y (by simp [hy]))
theorem getM_hit {l : List It} {x : It} (hx : x ∈ l) (h : ∀ y ∈ l, y.path = x.path → y = x) : getM l x.path = some x := by
  induction l using snoc_ind with
  | nil => cases hx
  | snoc l y ih =>
    rw [getM_snoc]
    by_cases e : y.path = x.path
    · rw [if_pos e, h y (by simp) e]
    · rw [if_neg e]
      refine ih ?_ (fun z hz => h z (by simp [hz]))
      rcases List.mem_append.1 hx with k | k
      · exact k
      · simp at k; subst k; exact absurd rfl e
/-- In a tree that may be it is what stands there. -/
theorem getM_tree {l : List It} (h : TreeOk l) (p : Str) : getM l p = getI l p := by
  unfold getI
  by_cases hr : p = [47]
  · rw [if_pos hr]
    rw [getM_none (fun x hx => by rw [hr]; exact (h.kid x hx).1.2.1), if_pos hr]
  · rw [if_neg hr]
    cases e : l.find? (fun x => x.path == p) with
    | none =>
      rw [getM_none (fun x hx k => ?_), if_neg hr]
      have := List.find?_eq_none.1 e x hx
      simp [k] at this
    | some x =>
      obtain ⟨hx, hp⟩ := find_mem e
      rw [← hp]
      exact getM_hit hx (fun y hy k => h.one hy hx k)

theorem law9 : Maps.Keyed Tryd.prog 9 := Maps.string_keyed Tryd.underlying9
theorem zv35 (w : World) : (zeroValue 35).run Tryd.prog w = .ok (.agg It.nil.arr) w := by kernel_rfl
/-- Where the items stand: the map b in the variable g. -/
structure Finds (w : World) (g b : Nat) (l : List It) : Prop where
  box : Box w g 122 #[.map (some b)]
  map : w.ownsMap Tryd.prog 9 RV b (l.length + 1) (mapD l)
theorem Finds.on {w w' : World} {g b : Nat} {l : List It} (h : Finds w g b l) (hb : Below w.heap.size w w') : Finds w' g b l :=
  ⟨h.box.on hb, h.map.kept (row := none) ⟨hb.os, hb.tape, hb.output, hb.size, fun k hk _ => hb.block k hk⟩ (by simp)⟩
theorem Finds.kept {w w' : World} {g b : Nat} {l : List It} {row : Option Nat} (h : Finds w g b l) (hg : w.grownBy w' row) (h1 : some g ≠ row) (h2 : some b ≠ row) : Finds w' g b l := ⟨h.box.kept hg h1, h.map.kept hg h2⟩
theorem Finds.lt {w : World} {g b : Nat} {l : List It} (h : Finds w g b l) : g < w.heap.size ∧ b < w.heap.size := ⟨h.box.lt, h.map.lt⟩

theorem results_two {P : Program} {fn : Func} {p q : Tmp} {ty : TypeId} (h : fn.results = #[.cell p ty, .tmp q]) (tmps : Array Value) (w : World) (g : Nat) (hp : tmps.getD p undef = .pointer (some ⟨g, 0, none⟩)) (cs : Array Value) (hr : (loadVar ty ⟨g, 0, none⟩).run P w = .ok (.agg cs) w) :
    (results fn tmps).run P w = .ok (.tuple #[.agg cs, tmps.getD q undef]) w := by
  have e : tmps[p]?.getD undef = .pointer (some ⟨g, 0, none⟩) := by rw [← hp]; simp
  simp [results, h, e, asAddr, hr]
/-- Two results: an item out of its variable, and a slot. -/
theorem end_item {fn : Func} {p q : Tmp} (h : fn.results = #[.cell p 35, .tmp q]) (tmps : Array Value) {w : World} {g : Nat} {y : It} (X : Box w g 35 y.arr) (hp : tmps.getD p undef = .pointer (some ⟨g, 0, none⟩)) {v : Value} (hq : tmps.getD q undef = v) :
    (results fn tmps).run Tryd.prog w = .ok (.tuple #[.agg y.arr, v]) w := by
  rw [← hq]
  exact results_two h tmps w g hp y.arr (run_loadVar_row _ g 35 35 y.arr (0, 0) _ X Tryd.underlying35 rfl (info35 _))
theorem look_val {l : List It} {p : Str} {o : Option It} {v : Value} {ps : List MemPlace} {y : It} (hy : y = o.getD .nil) (h : (mapD l).atKey (.string p) (.held (.agg It.nil.arr)) = heldO o (.held (.agg It.nil.arr)))
    (hv : RV v = some ((mapD l).atKey (.string p) (.held (.agg It.nil.arr)), ps)) : v = .agg #[.string ⟨y.path.toArray⟩, .int .i64 y.kind, .string ⟨y.data.toArray⟩] := by
  subst hy
  unfold RV at hv
  injection hv with hv
  injection hv with hv
  rw [h] at hv
  cases o with
  | none => injection hv
  | some y => injection hv

def FindR (o : Option It) (w : World) (e : Ending) (w' : World) : Prop := e = .returned (.tuple #[.agg (o.getD .nil).arr, .bool o.isSome]) ∧ Below w.heap.size w w'

set_option maxRecDepth 100000 in
set_option maxHeartbeats 2000000 in
theorem find_any (g b : Nat) (l : List It) (p : ByteArray) (w : World) (hF : Finds w g b l) (hp : p.size ≤ 140737488355328) : Calls Tryd.prog 82 #[.string p, .pointer (some ⟨g, 0, none⟩)] w (FindR (getM l p.data.toList) w) := by
  have hk : keyOf Tryd.prog 9 (.string p) = some (.string p.data.toList) := WideMaps.keyOf_string_mk Tryd.underlying9 (by unfold maxLen; omega)
  obtain ⟨h1, h2⟩ := map_look l p.data.toList
  obtain ⟨o, ho⟩ : ∃ o, o = getM l p.data.toList := ⟨_, rfl⟩
  rw [← ho] at h1 h2 ⊢
  have H1 := Lib.hid h1
  have H2 := Lib.hid (h2 (.held (.agg It.nil.arr)))
  obtain ⟨w1, hw1⟩ : ∃ q, q = w.alloc (.cells #[.string ⟨#[]⟩, .int .i64 0, .string ⟨#[]⟩] 35) := ⟨_, rfl⟩
  have HX1 : Hid (Box w1 w.heap.size 35 It.nil.arr) := Lib.hid (by rw [hw1]; exact box_new)
  have HM1 : Hid (w1.ownsMap Tryd.prog 9 RV b (l.length + 1) (mapD l)) := Lib.hid (by rw [hw1]; exact hF.map.alloc _)
  have HB1 : Hid (Below w.heap.size w w1) := Lib.hid (by rw [hw1]; exact below_new _ _)
  have c0 : w1.cell? ⟨g, 0, none⟩ = some (.map (some b)) := by rw [hw1]; exact (hF.box.alloc _).cell (k := 0) rfl
  clear h1 h2 ho hF
  go_enter Tryd.func82, Tryd.ntmps82
  go_upto_region 1 with fail
  rw [← hw1]
  obtain ⟨b3, hb3⟩ : ∃ q, q = w.heap.size := ⟨_, rfl⟩
  rw [← hb3] at HX1 ⊢
  clear hw1
  have HB3 := Lib.hid hb3
  clear hb3
  obtain ⟨y, hy⟩ : ∃ y, y = o.getD .nil := ⟨_, rfl⟩
  have HY := Lib.hid hy
  obtain ⟨is, his⟩ : ∃ q, q = o.isSome := ⟨_, rfl⟩
  rw [← his] at H1
  have HI := Lib.hid his
  clear hy his
  go_upto_region 2 with (at_lookup; refine wpList_lookup_own_ok _ rfl _ _ 122 rfl 9 35 law9 Tryd.underlying122 RV (zv35 _) (.held (.agg It.nil.arr)) [] rfl b _ (mapD l) rfl HM1.out _ _ rfl hk ?_; intro v ps hv; rw [H1.out]; obtain rfl := look_val HY.out H2.out hv; clear hv)
  obtain ⟨w2, hw2⟩ : ∃ q, q = w1.alloc (.cells #[.string ⟨y.path.toArray⟩, .int .i64 y.kind, .string ⟨y.data.toArray⟩] 35) := ⟨_, rfl⟩
  have X5 : Box w2 w1.heap.size 35 y.arr := by rw [hw2]; exact box_new
  have HX2 : Hid (Box w2 b3 35 It.nil.arr) := Lib.hid (by rw [hw2]; exact HX1.out.alloc _)
  have HB2 : Hid (Below w.heap.size w w2) := Lib.hid (by rw [hw2]; exact bch HB1.out (below_new _ _))
  obtain ⟨d0, d1, d2⟩ := X5.it
  obtain ⟨b5, hb5⟩ : ∃ q, q = w1.heap.size := ⟨_, rfl⟩
  rw [← hb5] at d0 d1 d2 ⊢
  rw [← hw2]
  clear hw2 hb5 X5 HX1 HM1 HB1 c0
  go_wp2_with (refine wpList_store_row rfl 35 (.tmp 3) (.tmp 13) rfl b3 y.arr rfl rfl 35 _ HX2.out (info35 _) rfl (iarr_one _) ?_)
  exact bodyPost_ret (end_item rfl _ (HX2.out.row _) rfl rfl) rfl ⟨by rw [← HY.out, ← HI.out]; rfl, below_row HB2.out (by rw [HB3.out]; exact Nat.le_refl _) _⟩

theorem run_makeMap_hint (k : Int) (w : World) : (Instr.makeMap 122 (some (.int .i64 k))).run Tryd.prog w = .ok (.map (some w.heap.size)) (w.alloc (.map #[] 0)) := by
  simp [Instr.makeMap, run_underlying Tryd.underlying122, asInt, asIntOf, Result.andThen]

theorem cell_grown {w w' : World} {g o : Nat} {u : Value} {row : Option Nat} (h : w.cell? ⟨g, o, none⟩ = some u) (hg : w.grownBy w' row) (hne : some g ≠ row) : w'.cell? ⟨g, o, none⟩ = some u := by
  have hlt : g < w.heap.size := by
    rcases Nat.lt_or_ge g w.heap.size with k | k
    · exact k
    · unfold World.cell? at h
      rw [Array.getElem?_eq_none k] at h
      cases h
  rw [← h]
  unfold World.cell?
  rw [hg.block g hlt hne]

def StandR (l : List It) (w : World) (e : Ending) (w' : World) : Prop := ∃ g b, e = .returned (.func (.func 82) #[] #[.pointer (some ⟨g, 0, none⟩)]) ∧ Finds w' g b l ∧ Below w.heap.size w w' ∧ w.heap.size ≤ g ∧ w.heap.size ≤ b

set_option maxRecDepth 100000 in
set_option maxHeartbeats 4000000 in
theorem standing_any (l : List It) (v : Value) (w : World) (hv : RdI w v l) (hl : l.length ≤ 1000000) (hsz : ∀ x ∈ l, x.path.length ≤ 140737488355328) (hT : Tabs w) : Calls Tryd.prog 53 #[.agg #[v]] w (StandR l w) := by
  have hmm := run_makeMap_hint ((l.length : Int) + 1)
  obtain ⟨a, c, rfl, hlc, hcm, hcell⟩ := hv.open
  have HC := Lib.hid hcell
  have HZ := Lib.hid hsz
  have HT := Lib.hid hT
  obtain ⟨n, hn⟩ : ∃ n, n = l.length := ⟨_, rfl⟩
  rw [← hn] at hlc hl HC hmm ⊢
  have HN := Lib.hid hn
  unfold maxLen at hcm
  obtain ⟨w1, hw1⟩ : ∃ q, q = w.alloc (.cells #[.slice a n c] 24) := ⟨_, rfl⟩
  have X1 : Box w1 w.heap.size 24 #[.slice a n c] := by rw [hw1]; exact box_new
  have HB1 : Hid (Below w.heap.size w w1) := Lib.hid (by rw [hw1]; exact below_new _ _)
  have c0 := X1.cell (k := 0) rfl
  have hlt1 : w.heap.size < w1.heap.size := X1.lt
  have hbt0 : w1.heap.size ≠ w.heap.size := by omega
  clear hn hcell hv hsz hT X1
  go_enter Tryd.func53, Tryd.ntmps53
  go_upto_region 1 with fail
  rw [← hw1]
  clear hw1
  have k0 : IntKind.i64.wrap ((n : Int) + 1) = (n : Int) + 1 := IntWalk.i64_in _ (by omega)
  go_upto_region 2 with fail
  obtain ⟨b, hb⟩ : ∃ q, q = w1.heap.size := ⟨_, rfl⟩
  rw [← hb] at hbt0
  obtain ⟨w2, hw2⟩ : ∃ q, q = (w1.alloc (.map #[] 0)).alloc (.cells #[.map (some w1.heap.size)] 122) := ⟨_, rfl⟩
  have X2 : Hid (Box w2 (w1.heap.size + 1) 122 #[.map (some w1.heap.size)]) := Lib.hid (by rw [hw2]; exact heap_alloc2_new w1 _ _)
  have HM2 : Hid (w2.ownsMap Tryd.prog 9 RV w1.heap.size 0 (.map [])) := Lib.hid (by rw [hw2]; exact (World.ownsMap_made w1 Tryd.prog 9 RV).alloc _)
  have hb2 : Below w1.heap.size w1 w2 := by rw [hw2]; exact (below_new w1 _).alloc (by simp) _
  have HB2 : Hid (Below w.heap.size w w2) := Lib.hid (bch HB1.out hb2)
  have hwb : w.heap.size ≤ w1.heap.size := HB1.out.size
  rw [← hw2]
  rw [← hb] at X2 HM2 hwb ⊢
  obtain ⟨g, hg⟩ : ∃ q, q = b + 1 := ⟨_, rfl⟩
  rw [← hg] at X2 ⊢
  have hgb : g ≠ b := by omega
  have hwg : w.heap.size ≤ g := by omega
  have T2 := (HT.out.on HB2.out)
  obtain ⟨-, -, -, s0, s1, s2, -, -⟩ := T2
  have e0 : w2.cell? ⟨w.heap.size, 0, none⟩ = some (.slice a n c) := (hb2.cell (p := ⟨w.heap.size, 0, none⟩) hlt1).trans c0
  have x0 := X2.out.cell (k := 0) rfl
  have hk47 : keyOf Tryd.prog 9 (.string ⟨#[47]⟩) = some (.string [47]) := WideMaps.keyOf_string_mk (s := ⟨#[47]⟩) Tryd.underlying9 (by unfold maxLen; decide)
  clear hw2 hb hg hb2 hmm k0 c0 hlt1
  go_upto_region 3 with (at_mapUpdate; refine wpList_mapUpdate_own _ rfl _ _ _ 122 rfl 9 35 law9 Tryd.underlying122 RV b 0 (.map []) rfl HM2.out (by unfold maxLen; decide) _ _ (.string [47]) rfl rfl hk47 (.held (.agg It.root.arr)) [] rfl ?_; intro w3 hown3 hgrow3)
  have HM3 : Hid (w3.ownsMap Tryd.prog 9 RV b 1 (mapD (l.take 0))) := Lib.hid hown3
  have X3 : Hid (Box w3 g 122 #[.map (some b)]) := Lib.hid (X2.out.kept hgrow3 (by simpa using hgb))
  have HB3 : Hid (Below w.heap.size w w3) := Lib.hid (HB2.out.grown hgrow3 HB2.out.size (by intro q hq; cases hq; exact hwb))
  have hbt : b ≠ w.heap.size := hbt0
  have f0 : w3.cell? ⟨w.heap.size, 0, none⟩ = some (.slice a n c) := (cell_grown e0 hgrow3 (by intro q; cases q; exact hbt rfl))
  clear hown3 hgrow3 e0 x0 s0 s1 s2 HB2 X2 HM2
  go_wp2_with fail
  go_loopw [5, 18, 19, 20, 21, 22, 23, 24, 25, 26] (fun _ i _ _ _ _ _ _ _ _ W => ∃ k : Nat, k ≤ n ∧ i = .int .i64 k ∧ Hid (Box W g 122 #[.map (some b)]) ∧ Hid (W.ownsMap Tryd.prog 9 RV b (k + 1) (mapD (l.take k))) ∧ Hid (Below w.heap.size w W)) (fun _ i _ _ _ _ _ _ _ _ _ => n - (Lib.intOf i).toNat)
  case atStart => exact ⟨0, Nat.zero_le _, rfl, X3, HM3, HB3⟩
  case round =>
    clear X3 HM3 HB3 f0
    obtain ⟨k, hk, rfl, X4, HM4, HB4⟩ := hrel
    obtain ⟨wq, hwq⟩ : ∃ q, q = wr := ⟨_, rfl⟩
    rw [← hwq] at X4 HM4 HB4 ⊢
    clear hwq
    by_cases hlt : k < n
    · obtain ⟨x, hx⟩ : ∃ x, l[k]? = some x := ⟨_, List.getElem?_eq_getElem (by have := HN.out; omega)⟩
      obtain ⟨gg, o, rfl, hgg, hc⟩ := HC.out (by omega)
      obtain ⟨q0, q1, q2⟩ := (hc k x hx).on hgg HB4.out
      have HX := Lib.hid hx
      have k1 : (k : Int) < (n : Int) := by omega
      have k2 : (0 : Int) ≤ (k : Int) := by omega
      have k4 : IntKind.i64.wrap ((k : Int) + 1) = (k : Int) + 1 := IntWalk.i64_in _ (by omega)
      have hxk : keyOf Tryd.prog 9 (.string ⟨x.path.toArray⟩) = some (.string x.path) := WideMaps.keyOf_string_mk (s := ⟨x.path.toArray⟩) Tryd.underlying9 (by have := HZ.out x (List.mem_of_getElem? hx); unfold maxLen; show x.path.length ≤ _; omega)
      obtain ⟨w5, hw5⟩ : ∃ q, q = wq.alloc (.cells #[.string ⟨x.path.toArray⟩, .int .i64 x.kind, .string ⟨x.data.toArray⟩] 35) := ⟨_, rfl⟩
      have X5 : Box w5 wq.heap.size 35 x.arr := by rw [hw5]; exact box_new
      have Y5 : Hid (Box w5 g 122 #[.map (some b)]) := Lib.hid (by rw [hw5]; exact X4.out.alloc _)
      have HM5 : Hid (w5.ownsMap Tryd.prog 9 RV b (k + 1) (mapD (l.take k))) := Lib.hid (by rw [hw5]; exact HM4.out.alloc _)
      have HB5 : Hid (Below w.heap.size w w5) := Lib.hid (by rw [hw5]; exact bch HB4.out (below_new _ _))
      obtain ⟨d0, d1, d2⟩ := X5.it
      have y0 := Y5.out.cell (k := 0) rfl
      clear hx hc X5
      go_upto_region 6 with fail
      obtain ⟨b5, hb5⟩ : ∃ q, q = wq.heap.size := ⟨_, rfl⟩
      rw [← hb5] at d0 d1 d2 ⊢
      rw [← hw5]
      clear hw5 hb5 q0 q1 q2 X4 HM4 HB4
      go_upto_region 7 with (at_mapUpdate; refine wpList_mapUpdate_own _ rfl _ _ _ 122 rfl 9 35 law9 Tryd.underlying122 RV b (k + 1) (mapD (l.take k)) rfl HM5.out (by unfold maxLen; omega) _ _ (.string x.path) rfl rfl hxk (.held (.agg x.arr)) [] rfl ?_; intro w6 hown6 hgrow6)
      have HM6 : Hid (w6.ownsMap Tryd.prog 9 RV b (k + 1 + 1) (mapD (l.take (k + 1)))) := Lib.hid (by
        rw [List.take_add_one, HX.out, Option.toList_some, mapD_snoc]; exact hown6)
      have X6 : Hid (Box w6 g 122 #[.map (some b)]) := Lib.hid (Y5.out.kept hgrow6 (by simpa using hgb))
      have HB6 : Hid (Below w.heap.size w w6) := Lib.hid (HB5.out.grown hgrow6 HB5.out.size (by intro q hq; cases hq; exact hwb))
      clear hown6 hgrow6 d0 d1 d2 y0 HM5 HB5 Y5
      go_wp2_with fail
      go_roundw
      case rel => exact ⟨k + 1, hlt, by go_num, X6, HM6, HB6⟩
      case measure => simp [Lib.intOf]; omega
    · have k1 : ¬ ((k : Int) < (n : Int)) := by omega
      have hkn : k = n := by omega
      subst hkn
      have HM6 : Hid (wq.ownsMap Tryd.prog 9 RV b (l.length + 1) (mapD l)) := Lib.hid (by
        have := HM4.out
        rw [List.take_of_length_le (by have := HN.out; omega), HN.out] at this
        exact this)
      go_wp2_with fail
      go_ret
      exact ⟨g, b, rfl, ⟨X4.out, HM6.out⟩, HB4.out, hwg, hwb⟩
end Go.Proofs.YtiakedoebecgpaaDoor
