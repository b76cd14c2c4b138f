/- Proved here: ahead of package walk: the parts of a text ahead of those that are still to come. -/
import Derived.Test.YtiakedoebecgpaaDoorWSplit
import Derived.Laws.AppendOwnNone
import Derived.Deep.RegionHeld
import Derived.Sort.OwnSorted
import Derived.RangeFuncBox
namespace Go.Proofs.YtiakedoebecgpaaDoor
open Go.RowKit Go.Shelf

/-- A row of texts that can be read, in another block than q. -/
def RdT (w : World) (q : Nat) (v : Value) (l : List Str) : Prop :=
  ∃ a c, v = .slice a l.length c ∧ l.length ≤ c ∧ c ≤ maxLen ∧ (a = none → c = 0) ∧ ∀ ad, a = some ad → ∃ g o, ad = ⟨g, o, none⟩ ∧ g < w.heap.size ∧ g ≠ q ∧ ∀ (j : Nat) (x : Str), l[j]? = some x → w.cell? ⟨g, o + j, none⟩ = some (encS x)
theorem RdT.nil (w : World) (q : Nat) : RdT w q (.slice none 0 0) [] := ⟨none, 0, rfl, Nat.le_refl _, Nat.zero_le _, fun _ => rfl, fun _ h => by cases h⟩
theorem RdT.grown {w w' : World} {q : Nat} {v : Value} {l : List Str} (h : RdT w q v l) (hg : w.grownBy w' (some q)) : RdT w' q v l := by
  obtain ⟨a, c, h1, h2, h3, h4, h5⟩ := h
  refine ⟨a, c, h1, h2, h3, h4, fun ad e => ?_⟩
  obtain ⟨g, o, e2, h6, h7, h8⟩ := h5 ad e
  exact ⟨g, o, e2, Nat.lt_of_lt_of_le h6 hg.size, h7, fun j x hx => hg.cell (a := ⟨g, o + j, none⟩) (h8 j x hx) (by intro k; injection k with k; exact h7 k)⟩
theorem below_grown {w w' : World} (h : Below w.heap.size w w') (row : Option Nat) : w.grownBy w' row := ⟨h.os, h.tape, h.output, h.size, fun k hk _ => h.block k hk⟩
theorem RdT.on {w w' : World} {q : Nat} {v : Value} {l : List Str} (h : RdT w q v l) (hb : Below w.heap.size w w') : RdT w' q v l := h.grown (below_grown hb _)
theorem RdT.one {w : World} {q : Nat} {v : Value} {l : List Str} (h : RdT w q v l) : v.oneCell' = true := by
  obtain ⟨a, c, rfl, _⟩ := h
  rfl
theorem grown_on {w w2 w3 : World} {q h : Nat} (h1 : w.grownBy w2 (some q)) (h2 : w2.grownBy w3 (some h)) (hh : w.heap.size ≤ h) : w.grownBy w3 (some q) :=
  h1.andThen h2 (fun j e => by cases e; exact .inl hh)
theorem grown_set {w w3 : World} {q : Nat} (h : w.grownBy w3 (some q)) (k : Nat) (v : Value) : w.grownBy (w3.setCell ⟨q, k, none⟩ v) (some q) :=
  ⟨by rw [← h.os]; rfl, by rw [← h.tape]; rfl, by rw [← h.output]; rfl, by simpa [World.setCell] using h.size, fun i hi hne => by
    rw [heap_setCell_other w3 _ i v (fun e => hne (by rw [e]))]
    exact h.block i hi hne⟩
theorem grown_drew {w w' : World} {row : Option Nat} (h : w.grownBy w' row) : w.grownBy w'.drew row := ⟨h.os, h.tape, h.output, h.size, h.block⟩
theorem encS_one (l : List Str) : ∀ u ∈ l.map encS, u.oneCell' = true := by
  intro u hu
  obtain ⟨x, _, rfl⟩ := List.mem_map.1 hu
  rfl
theorem info9z : (Tryd.prog.info? 9).map (fun i => (i.zero, i.size, i.bytes)) = some (some (.string ⟨#[]⟩), 1, 16) := by kernel_rfl

theorem wp_append_rest {op : Oper} {a : Act} {w : World} {K : Act → World → Prop} {Q : Exit → Act → World → Prop} {ops : Array Oper} (hw : Region.wanted op (yielded ops a.tmps) = true) (s x : Operand)
    (ho : op.op = .call { callee := .builtin .append, args := #[s, x], argTypes := #[46, 46] }) (base m mr : Nat) (l1 l2 : List Str) (hm : m = l1.length) (hmr : mr = l2.length) (v : Value) (hs : a.eval s = v) (hown : w.ownsRow base 9 1 v m (l1.map encS)) (q : Nat) (rv : Value) (hx : a.eval x = rv) (hr : RdT w q rv l2)
    (hl : m + mr ≤ 10000000) (hb : base ≤ w.heap.size)
    (h : ∀ v' w', w'.ownsRow base 9 1 v' (l1 ++ l2).length ((l1 ++ l2).map encS) → w.grownBy w' v.ownBlock → (v'.ownBlock = v.ownBlock ∨ v'.ownBlock = some w.heap.size) → K (a.put op.dst v') w') : if Region.wanted op (yielded ops a.tmps) = true then op.wp Tryd.prog a w K Q else K (a.put op.dst undef) w := by
  rw [if_pos hw]
  subst hm hmr
  obtain ⟨i0, hi, hz0, hz1, hz2⟩ := info_parts info9z
  obtain ⟨ad, c, rfl, h2, h3, h4, h5⟩ := hr
  cases ad with
  | none =>
    have hc : c = 0 := h4 rfl
    subst hc
    have hl2 : l2 = [] := List.eq_nil_of_length_eq_zero (by omega)
    subst hl2
    have hrun := run_append_owned_none (P := Tryd.prog) (w := w) base 46 op.type 9 i0 1 Tryd.underlying46 hi v l1.length (l1.map encS) hown
    unfold Oper.wp execOp
    simp only [ho, resolve, invoke, builtin, Sem.run_bind, Sem.run_pure, Result.andThen_ok, List.map_toArray, List.map_cons, List.map_nil, hs, hx, List.length_nil, hrun]
    exact h v w (by rw [List.append_nil]; exact hown) (World.grownBy.refl _ _) (.inl rfl)
  | some ad =>
    obtain ⟨g, o, rfl, hg, hgq, hcell⟩ := h5 ad rfl
    obtain ⟨v', w', hrun, h6, h7, _, h8⟩ := run_append_own_at (P := Tryd.prog) w base 46 op.type 9 i0 (.string ⟨#[]⟩) 1 16 Tryd.underlying46 hi hz0 hz1 hz2 rfl (by decide) v l1.length (l1.map encS) hown ⟨g, o, none⟩ l2.length c (l2.map encS) (by simp) (fun j u hu => by
      rw [List.getElem?_map] at hu
      obtain ⟨y, hy, rfl⟩ := Option.map_eq_some_iff.1 hu
      rw [add_to]
      exact hcell j y hy) (encS_one l2) (by unfold maxLen; omega) (by omega) hb
    unfold Oper.wp execOp
    simp only [ho, resolve, invoke, builtin, Sem.run_bind, Sem.run_pure, Result.andThen_ok, List.map_toArray, List.map_cons, List.map_nil, hs, hx, hrun]
    exact h v' w' (by rw [List.length_append, List.map_append]; exact h6) h7 h8
theorem own_slice {w : World} {B s n : Nat} {e : TypeId} {v : Value} {xs : List Value} (h : w.ownsRow B e s v n xs) : ∃ a m c, v = .slice a m c := by
  rcases h.2 with ⟨rfl, _⟩ | ⟨g, cap, cur, rfl, _⟩
  · exact ⟨_, _, _, rfl⟩
  · exact ⟨_, _, _, rfl⟩
theorem rd_own {w3 : World} {base q : Nat} {v3 : Value} {L : List Str} (h : w3.ownsRow base 9 1 v3 L.length (L.map encS)) (hq : ∀ k, v3.ownBlock = some k → k ≠ q) (k : Nat) (u : Value) : RdT (w3.setCell ⟨q, k, none⟩ u) q v3 L := by
  have h' := h
  rcases h.2 with ⟨rfl, h0⟩ | ⟨g, cap, cur, rfl, hg, hh, hn, hcap, hcs, htake⟩
  · rw [List.eq_nil_of_length_eq_zero h0]
    exact RdT.nil _ _
  · refine ⟨_, cap, rfl, hn, hcap, (fun e => by cases e), fun ad e => ?_⟩
    injection e with e
    subst e
    have hgq : g ≠ q := hq g rfl
    refine ⟨g, 0, rfl, by simpa [World.setCell] using (h'.lt g rfl).2, hgq, fun j x hx => ?_⟩
    have := h'.cells (g := g) rfl j (encS x) (by rw [List.getElem?_map, hx]; rfl)
    rw [add_to] at this
    unfold World.cell? at this ⊢
    rw [heap_setCell_other w3 ⟨q, k, none⟩ g u hgq]
    exact this

/-- A way in its box: what stands where it is, the parts that are still to come, over how many links it has gone. -/
def WayW (w : World) (q : Nat) (fv : Value) (x : It) (L : List Str) (n : Nat) : Prop := ∃ rv, Box w q 88 (wayA fv x rv n) ∧ RdT w q rv L
theorem WayW.grown {w w' : World} {q : Nat} {fv : Value} {x : It} {L : List Str} {n : Nat} (h : WayW w q fv x L n) (hg : w.grownBy w' none) : WayW w' q fv x L n := by
  obtain ⟨rv, h1, h2⟩ := h
  exact ⟨rv, h1.kept hg (by simp), h2.grown (hg.but _)⟩
theorem WayW.on {w w' : World} {q : Nat} {fv : Value} {x : It} {L : List Str} {n : Nat} (h : WayW w q fv x L n) (hb : Below w.heap.size w w') : WayW w' q fv x L n := h.grown (below_grown hb _)
theorem WayW.lt {w : World} {q : Nat} {fv : Value} {x : It} {L : List Str} {n : Nat} (h : WayW w q fv x L n) : q < w.heap.size := by
  obtain ⟨rv, h1, _⟩ := h
  exact h1.lt
theorem way_set3 {w : World} {q : Nat} {fv : Value} {x : It} {rv : Value} {n : Nat} (X : Box w q 88 (wayA fv x rv n)) (y : It) :
    Box (((w.setCell ⟨q, 1, none⟩ (.string ⟨y.path.toArray⟩)).setCell ⟨q, 2, none⟩ (.int .i64 y.kind)).setCell ⟨q, 3, none⟩ (.string ⟨y.data.toArray⟩)) q 88 (wayA fv y rv n) :=
  ((X.set (k := 1) (.string ⟨y.path.toArray⟩)).set (k := 2) (.int .i64 y.kind)).set (k := 3) (.string ⟨y.data.toArray⟩)
theorem grown_set3 {w w3 : World} {q : Nat} (h : w.grownBy w3 (some q)) (a b c : Value) : w.grownBy (((w3.setCell ⟨q, 1, none⟩ a).setCell ⟨q, 2, none⟩ b).setCell ⟨q, 3, none⟩ c) (some q) := grown_set (grown_set (grown_set h 1 a) 2 b) 3 c
theorem Tabs.grown {w w' : World} (h : Tabs w) {q : Nat} (hq : 6 ≤ q) (hg : w.grownBy w' (some q)) : Tabs w' :=
  have k : ∀ g o u, g < 6 → w.cell? ⟨g, o, none⟩ = some u → w'.cell? ⟨g, o, none⟩ = some u := fun g _ _ hg6 hu => hg.cell (a := ⟨g, _, none⟩) hu (by intro e; injection e with e; simp at e; omega)
  ⟨k _ _ _ (by omega) h.r0, k _ _ _ (by omega) h.r1, k _ _ _ (by omega) h.r2, k _ _ _ (by omega) h.s0, k _ _ _ (by omega) h.s1, k _ _ _ (by omega) h.s2, h.max.imp fun _ e => k _ _ _ (by omega) e, Nat.le_trans h.one hg.size⟩
theorem owns_new (w : World) (L : List Str) (hL : L.length ≤ 10000000) : (w.alloc (.cells (L.map encS).toArray 9)).ownsRow w.heap.size 9 1 (.slice (some ⟨w.heap.size, 0, none⟩) L.length L.length) L.length (L.map encS) := by
  refine ⟨by simp, .inr ⟨w.heap.size, L.length, (L.map encS).toArray, rfl, Nat.le_refl _, heap_alloc_new w _, Nat.le_refl _, by unfold maxLen; omega, by simp, by rw [Nat.mul_one]; exact List.take_of_length_le (by simp)⟩⟩
def AheadR (q : Nat) (fv : Value) (y : It) (L : List Str) (n : Nat) (w : World) (e : Ending) (w' : World) : Prop := e = .returned (.tuple #[]) ∧ WayW w' q fv y L n ∧ w.grownBy w' (some q)

set_option maxRecDepth 100000 in
set_option maxHeartbeats 8000000 in
theorem ahead_gen (q : Nat) (fv : Value) (x : It) (restL : List Str) (n : Nat) (s : ByteArray) (w0 w : World) (h0 : w0.grownBy w (some q)) (hq0 : q < w0.heap.size) (hW : WayW w q fv x restL n) (hT : Tabs w) (hs : s.size ≤ 2000) (hl : restL.length ≤ 1000000) (hq : 6 ≤ q) :
    Calls Tryd.prog 84 #[.pointer (some ⟨q, 0, none⟩), .string s] w (AheadR q fv (if s.data.toList.head? = some 47 then .root else x) (cutP s.data.toList ++ restL) n w0) := by
  obtain ⟨rv, X, hR⟩ := hW
  obtain ⟨y, hy⟩ : ∃ y, y = if s.data.toList.head? = some 47 then It.root else x := ⟨_, rfl⟩
  rw [← hy]
  obtain ⟨b, hb⟩ : ∃ b, decide (s.data.toList.head? = some 47) = b := ⟨_, rfl⟩
  have HP := Lib.hid (hasp_is s b hb)
  have hyb : y = if b = true then It.root else x := by
    rw [hy, ← hb]
    by_cases h : s.data.toList.head? = some 47
    · rw [if_pos h, if_pos (decide_eq_true h)]
    · rw [if_neg h, if_neg (by rw [decide_eq_false h]; decide)]
  have HLC : (cutP s.data.toList).length ≤ 2001 := by
    have := cut_len s.data.toList
    have e : s.data.toList.length = s.size := rfl
    omega
  obtain ⟨m, hm⟩ : ∃ m, m = (cutP s.data.toList).length := ⟨_, rfl⟩
  obtain ⟨mr, hmr⟩ : ∃ m, m = restL.length := ⟨_, rfl⟩
  rw [← hm] at HLC
  rw [← hmr] at hl
  have HLM := Lib.hid hm
  have HLR := Lib.hid hmr
  have HYB := Lib.hid hyb
  have HX := Lib.hid X
  have HR := Lib.hid hR
  have HT := Lib.hid hT
  have H0 := Lib.hid h0
  obtain ⟨-, -, -, s0, s1, s2, -, -⟩ := hT
  clear hy hb hyb X hR hm hmr h0
  cases b
  case' true =>
    obtain rfl : y = .root := HYB.out
    have p1 := HX.out.cell (k := 1) rfl
    have p2 := HX.out.cell (k := 2) rfl
    have p3 := HX.out.cell (k := 3) rfl
    have f1 := frozen_of_row w q 1 _ _ HX.out
    have f2 := frozen_of_row w q 2 _ _ HX.out
    have f3 := frozen_of_row w q 3 _ _ HX.out
    obtain ⟨w1, hw1⟩ : ∃ z, z = ((w.setCell ⟨q, 1, none⟩ (.string ⟨#[47]⟩)).setCell ⟨q, 2, none⟩ (.int .i64 1)).setCell ⟨q, 3, none⟩ (.string ⟨#[]⟩) := ⟨_, rfl⟩
    have X1 : Hid (Box w1 q 88 (wayA fv .root rv n)) := Lib.hid (by rw [hw1]; exact way_set3 HX.out .root)
    have HG1 : Hid (w0.grownBy w1 (some q)) := Lib.hid (by rw [hw1]; exact grown_set3 H0.out _ _ _)
    have HT1 : Hid (Tabs w1) := Lib.hid (by rw [hw1]; exact HT.out.grown hq (grown_set3 (World.grownBy.refl _ _) _ _ _))
    have HR1 : Hid (RdT w1 q rv restL) := Lib.hid (by rw [hw1]; exact HR.out.grown (grown_set3 (World.grownBy.refl _ _) _ _ _))
    obtain ⟨y, hy⟩ : ∃ y, y = It.root := ⟨_, rfl⟩
    rw [← hy] at X1 ⊢
    clear hy
    go_enter Tryd.func84, Tryd.ntmps84
    go_wp2_with fail
    refine (HP.out _).mono ?_
    rintro e w' ⟨rfl, rfl⟩
    go_upto_region 2 with fail
    rw [← hw1]
    clear hw1 p1 p2 p3 f1 f2 f3 s0 s1 s2
  case' false =>
    obtain rfl : y = x := HYB.out
    obtain ⟨w1, rfl⟩ : ∃ z, z = w := ⟨_, rfl⟩
    have X1 : Hid (Box w1 q 88 (wayA fv y rv n)) := Lib.hid HX.out
    have HG1 : Hid (w0.grownBy w1 (some q)) := Lib.hid H0.out
    have HT1 : Hid (Tabs w1) := Lib.hid HT.out
    have HR1 : Hid (RdT w1 q rv restL) := Lib.hid HR.out
    go_enter Tryd.func84, Tryd.ntmps84
    go_wp2_with fail
    refine (HP.out _).mono ?_
    rintro e w' ⟨rfl, rfl⟩
    go_upto_region 2 with fail
    clear s0 s1 s2
  all_goals
    clear HX HR HT H0 HYB HP
    go_wp2_with fail
    refine (ssplit_any s w1 HT1.out hs).mono ?_
    rintro e w2 ⟨rfl, hw2⟩
    rw [← HLM.out]
    obtain ⟨h, hh⟩ : ∃ z, z = w1.heap.size := ⟨_, rfl⟩
    obtain ⟨v0, hv0⟩ : ∃ z, z = World.drew w2 := ⟨_, rfl⟩
    have OW2 : Hid (v0.ownsRow h 9 1 (.slice (some ⟨h, 0, none⟩) m m) m ((cutP s.data.toList).map encS)) := Lib.hid (by
      have := owns_new w1 (cutP s.data.toList) (by rw [← HLM.out]; omega)
      rw [← HLM.out] at this
      rw [hv0, hw2, hh]
      exact this.drew)
    have X2 : Hid (Box v0 q 88 (wayA fv y rv n)) := Lib.hid (by rw [hv0, hw2]; exact X1.out.alloc _)
    have HR2 : Hid (RdT v0 q rv restL) := Lib.hid (by rw [hv0, hw2]; exact HR1.out.grown (grown_drew (World.grownBy_alloc _ _ _)))
    have HG2 : Hid (w0.grownBy v0 (some q)) := Lib.hid (by rw [hv0, hw2]; exact grown_drew (HG1.out.trans (World.grownBy_alloc _ _ _)))
    have HHH : Hid (w0.heap.size ≤ h) := Lib.hid (by rw [hh]; exact HG1.out.size)
    have HQH : Hid (q ≠ h) := Lib.hid (by have := HHH.out; omega)
    have HHV : Hid (h ≤ v0.heap.size) := Lib.hid (by rw [hh, hv0, hw2]; simp)
    rw [← hh]
    clear hw2 hh X1 HG1 HT1 HR1
    go_upto_region 3 with fail
    refine wp_region_held_drew (S := fun _ => True) (by kernel_rfl) trivial (fun hHeld => ?_)
    rw [← hv0]
    clear hv0
    refine wpAnyH_take (i := 0) (oi := { dst := some 13, op := Op.move (Operand.tmp 0), type := 140, pos := "way.go:73", after := #[], guard := none }) (v := ?_) rfl (by kernel_rfl) (by kernel_rfl) (by kernel_rfl) (fun _ _ _ h => h) (Or.inl ⟨by rfl, ?_⟩) hHeld ?_
    rotate_left
    · (intro w hSw; go_simp; try with_reducible rfl)
    (try simp only [Act.put, List.setIfInBounds_toArray, List.set_cons_zero, List.set_cons_succ])
    refine wpAnyH_take (i := 1) (oi := { dst := some 14, op := Op.move (Operand.tmp 4), type := 46, pos := "way.go:73", after := #[], guard := none }) (v := ?_) rfl (by kernel_rfl) (by kernel_rfl) (by kernel_rfl) (fun _ _ _ h => h) (Or.inl ⟨by rfl, ?_⟩) hHeld ?_
    rotate_left
    · (intro w hSw; go_simp; try with_reducible rfl)
    (try simp only [Act.put, List.setIfInBounds_toArray, List.set_cons_zero, List.set_cons_succ])
    refine wpAnyH_take (i := 2) (oi := { dst := some 15, op := Op.move (Operand.tmp 4), type := 46, pos := "way.go:73", after := #[], guard := none }) (v := ?_) rfl (by kernel_rfl) (by kernel_rfl) (by kernel_rfl) (fun _ _ _ h => h) (Or.inl ⟨by rfl, ?_⟩) hHeld ?_
    rotate_left
    · (intro w hSw; go_simp; try with_reducible rfl)
    (try simp only [Act.put, List.setIfInBounds_toArray, List.set_cons_zero, List.set_cons_succ])
    refine wpAnyH_take (i := 3) (oi := { dst := some 16, op := Op.call { callee := Callee.builtin Builtin.len, args := #[Operand.tmp 15], argTypes := #[46] }, type := 3, pos := "way.go:73", after := #[{ on := 2, ground := Ground.data }], guard := none }) (v := ?_) rfl (by kernel_rfl) (by kernel_rfl) (by kernel_rfl) (fun _ _ _ h => h) (Or.inl ⟨by rfl, ?_⟩) hHeld ?_
    rotate_left
    · (intro w hSw; go_simp; try with_reducible rfl)
    (try simp only [Act.put, List.setIfInBounds_toArray, List.set_cons_zero, List.set_cons_succ])
    refine wpAnyH_take (i := 4) (oi := { dst := some 17, op := Op.move (Operand.tmp 4), type := 46, pos := "way.go:73", after := #[], guard := none }) (v := ?_) rfl (by kernel_rfl) (by kernel_rfl) (by kernel_rfl) (fun _ _ _ h => h) (Or.inl ⟨by rfl, ?_⟩) hHeld ?_
    rotate_left
    · (intro w hSw; go_simp; try with_reducible rfl)
    (try simp only [Act.put, List.setIfInBounds_toArray, List.set_cons_zero, List.set_cons_succ])
    refine wpAnyH_take (i := 5) (oi := { dst := some 18, op := Op.call { callee := Callee.builtin Builtin.len, args := #[Operand.tmp 17], argTypes := #[46] }, type := 3, pos := "way.go:73", after := #[{ on := 4, ground := Ground.data }], guard := none }) (v := ?_) rfl (by kernel_rfl) (by kernel_rfl) (by kernel_rfl) (fun _ _ _ h => h) (Or.inl ⟨by rfl, ?_⟩) hHeld ?_
    rotate_left
    · (intro w hSw; go_simp; try with_reducible rfl)
    (try simp only [Act.put, List.setIfInBounds_toArray, List.set_cons_zero, List.set_cons_succ])
    refine wpAnyH_take (i := 6) (oi := { dst := some 19, op := Op.slice 46 (Operand.tmp 14) none (some (Operand.tmp 16)) (some (Operand.tmp 18)), type := 46, pos := "way.go:73", after := #[{ on := 1, ground := Ground.data }, { on := 3, ground := Ground.data }, { on := 5, ground := Ground.data }], guard := none }) (v := ?_) rfl (by kernel_rfl) (by kernel_rfl) (by kernel_rfl) (fun _ _ _ h => h) (Or.inl ⟨by rfl, ?_⟩) hHeld ?_
    rotate_left
    · (intro w hSw; go_simp; try with_reducible rfl)
    (try simp only [Act.put, List.setIfInBounds_toArray, List.set_cons_zero, List.set_cons_succ])
    refine wpAnyH_take (i := 7) (oi := { dst := some 20, op := Op.move (Operand.tmp 0), type := 140, pos := "way.go:73", after := #[], guard := none }) (v := ?_) rfl (by kernel_rfl) (by kernel_rfl) (by kernel_rfl) (fun _ _ _ h => h) (Or.inl ⟨by rfl, ?_⟩) hHeld ?_
    rotate_left
    · (intro w hSw; go_simp; try with_reducible rfl)
    (try simp only [Act.put, List.setIfInBounds_toArray, List.set_cons_zero, List.set_cons_succ])
    refine wpAnyH_take (i := 8) (oi := { dst := some 21, op := Op.nilCheck (Operand.tmp 20), type := 0, pos := "way.go:73", after := #[{ on := 7, ground := Ground.data }], guard := none }) (v := ?_) rfl (by kernel_rfl) (by kernel_rfl) (by kernel_rfl) (fun _ _ _ h => h) (Or.inl ⟨by rfl, ?_⟩) hHeld ?_
    rotate_left
    · (intro w hSw; go_simp; try with_reducible rfl)
    (try simp only [Act.put, List.setIfInBounds_toArray, List.set_cons_zero, List.set_cons_succ])
    refine wpAnyH_take (i := 9) (oi := { dst := some 22, op := Op.fieldAddr 88 (Operand.tmp 21) 2, type := 0, pos := "way.go:73", after := #[{ on := 8, ground := Ground.data }], guard := none }) (v := ?_) rfl (by kernel_rfl) (by kernel_rfl) (by kernel_rfl) (fun _ _ _ h => h) (Or.inl ⟨by rfl, ?_⟩) hHeld ?_
    rotate_left
    · (intro w hSw; go_simp; try with_reducible rfl)
    (try simp only [Act.put, List.setIfInBounds_toArray, List.set_cons_zero, List.set_cons_succ])
    refine wpAnyH_ready (rs := [10]) (by kernel_rfl) (by simp) (AllReadyH.cons (o := { dst := some 23, op := Op.load 46 (Operand.tmp 22), type := 46, pos := "way.go:73", after := #[{ on := 9, ground := Ground.data }], guard := none }) rfl (fun K hK => ?_) AllReadyH.nil)
    · have p0 : v0.cell? ⟨q, 4, none⟩ = some rv := X2.out.cell (k := 4) rfl
      go_simp
      refine hK.out _ _ hHeld (fun hHeld => ?_)
      clear p0
      (try simp only [Act.put, List.setIfInBounds_toArray, List.set_cons_zero, List.set_cons_succ])
      refine wpAnyH_ready (rs := [11]) (by kernel_rfl) (by simp) (AllReadyH.cons (o := { dst := some 24, op := Op.call { callee := Callee.builtin Builtin.append, args := #[Operand.tmp 19, Operand.tmp 23], argTypes := #[46, 46] }, type := 46, pos := "way.go:73", after := #[{ on := 6, ground := Ground.data }, { on := 10, ground := Ground.data }], guard := none }) rfl (fun K hK => ?_) AllReadyH.nil)
      · refine wp_append_rest (by rfl) (.tmp 19) (.tmp 23) rfl h m mr (cutP s.data.toList) restL HLM.out HLR.out _ rfl OW2.out q _ rfl HR2.out (by omega) HHV.out ?_
        intro v3 w3 how3 hgr3 hone3
        obtain ⟨a3, n3, c3, rfl⟩ := own_slice how3
        have X3 : Hid (Box w3 q 88 (wayA fv y rv n)) := Lib.hid (X2.out.kept hgr3 (by simp only [Value.ownBlock]; intro k; injection k with k; exact HQH.out k))
        have HG3 : Hid (w0.grownBy w3 (some q)) := Lib.hid (grown_on HG2.out hgr3 HHH.out)
        have HNE : Hid (∀ k, (Value.slice a3 n3 c3).ownBlock = some k → k ≠ q) := Lib.hid (fun k hk e => by
          subst e
          rcases hone3 with z | z
          · rw [z] at hk
            simp only [Value.ownBlock] at hk
            injection hk with hk
            exact HQH.out hk.symm
          · rw [z] at hk
            injection hk with hk
            have := HHV.out
            have := HHH.out
            omega)
        refine hK.out _ _ trivial (fun hHeld => ?_)
        clear hone3 hgr3
        (try simp only [Act.put, List.setIfInBounds_toArray, List.set_cons_zero, List.set_cons_succ])
        refine wpAnyH_take (i := 12) (oi := { dst := some 25, op := Op.nilCheck (Operand.tmp 13), type := 0, pos := "way.go:73", after := #[{ on := 0, ground := Ground.data }, { on := 0, ground := Ground.phase }, { on := 1, ground := Ground.phase }, { on := 2, ground := Ground.phase }, { on := 3, ground := Ground.phase }, { on := 4, ground := Ground.phase }, { on := 5, ground := Ground.phase }, { on := 6, ground := Ground.phase }, { on := 7, ground := Ground.phase }, { on := 8, ground := Ground.phase }, { on := 9, ground := Ground.phase }, { on := 10, ground := Ground.phase }, { on := 11, ground := Ground.phase }], guard := none }) (v := ?_) rfl (by kernel_rfl) (by kernel_rfl) (by kernel_rfl) (fun _ _ _ h => h) (Or.inl ⟨by rfl, ?_⟩) hHeld ?_
        rotate_left
        · (intro w hSw; go_simp; try with_reducible rfl)
        (try simp only [Act.put, List.setIfInBounds_toArray, List.set_cons_zero, List.set_cons_succ])
        refine wpAnyH_take (i := 13) (oi := { dst := some 26, op := Op.fieldAddr 88 (Operand.tmp 25) 2, type := 0, pos := "way.go:73", after := #[{ on := 12, ground := Ground.data }, { on := 0, ground := Ground.phase }, { on := 1, ground := Ground.phase }, { on := 2, ground := Ground.phase }, { on := 3, ground := Ground.phase }, { on := 4, ground := Ground.phase }, { on := 5, ground := Ground.phase }, { on := 6, ground := Ground.phase }, { on := 7, ground := Ground.phase }, { on := 8, ground := Ground.phase }, { on := 9, ground := Ground.phase }, { on := 10, ground := Ground.phase }, { on := 11, ground := Ground.phase }], guard := none }) (v := ?_) rfl (by kernel_rfl) (by kernel_rfl) (by kernel_rfl) (fun _ _ _ h => h) (Or.inl ⟨by rfl, ?_⟩) hHeld ?_
        rotate_left
        · (intro w hSw; go_simp; try with_reducible rfl)
        (try simp only [Act.put, List.setIfInBounds_toArray, List.set_cons_zero, List.set_cons_succ])
        refine wpAnyH_ready (rs := [14]) (by kernel_rfl) (by simp) (AllReadyH.cons (o := { dst := none, op := Op.store 46 (Operand.tmp 26) (Operand.tmp 24), type := 0, pos := "way.go:73", after := #[{ on := 13, ground := Ground.data }, { on := 11, ground := Ground.data }, { on := 11, ground := Ground.chain }, { on := 0, ground := Ground.phase }, { on := 1, ground := Ground.phase }, { on := 2, ground := Ground.phase }, { on := 3, ground := Ground.phase }, { on := 4, ground := Ground.phase }, { on := 5, ground := Ground.phase }, { on := 6, ground := Ground.phase }, { on := 7, ground := Ground.phase }, { on := 8, ground := Ground.phase }, { on := 9, ground := Ground.phase }, { on := 10, ground := Ground.phase }, { on := 11, ground := Ground.phase }], guard := none }) rfl (fun K hK => ?_) AllReadyH.nil)
        · have p0 : w3.cell? ⟨q, 4, none⟩ = some rv := X3.out.cell (k := 4) rfl
          have f0 := frozen_of_row w3 q 4 _ _ X3.out
          go_simp
          have X4 : Hid (Box (w3.setCell ⟨q, 4, none⟩ (.slice a3 n3 c3)) q 88 (wayA fv y (.slice a3 n3 c3) n)) := Lib.hid (X3.out.set (k := 4) (.slice a3 n3 c3))
          have HG4 : Hid (w0.grownBy (w3.setCell ⟨q, 4, none⟩ (.slice a3 n3 c3)) (some q)) := Lib.hid (grown_set HG3.out 4 (.slice a3 n3 c3))
          have HR4 : Hid (RdT (w3.setCell ⟨q, 4, none⟩ (.slice a3 n3 c3)) q (.slice a3 n3 c3) (cutP s.data.toList ++ restL)) := Lib.hid (rd_own how3 HNE.out 4 (.slice a3 n3 c3))
          refine hK.out _ _ trivial (fun hHeld => ?_)
          clear p0 f0
          (try simp only [Act.put, List.setIfInBounds_toArray, List.set_cons_zero, List.set_cons_succ])
          refine wpAnyH_done (by kernel_rfl) ?_ _
          go_wp2_with fail
          go_end0
          exact ⟨rfl, ⟨_, X4.out, HR4.out⟩, HG4.out⟩
end Go.Proofs.YtiakedoebecgpaaDoor
