/- Proved here: All of package tape, for every text of at most 39998 bytes: its parts and its end, or where it is no row, and why. -/
import Derived.Test.YtmamolhclohniaaDoorTakes
namespace Go.Proofs.YtmamolhclohniaaDoor
open Go.RowKit Go.Shelf
attribute [local go_sem] Oper.semAt_some

/-- The boxes of the three results and of the row that grows. -/
def Four (w : World) (a c : Int) (W : World) : Prop := Boxed W w.heap.size 22 (.slice none 0 0) ∧ Boxed W (w.heap.size + 1) 3 (.int .i64 a) ∧ Boxed W (w.heap.size + 1 + 1) 31 (.int .i64 c)
def aI (w : World) (pre : List Item) (W : World) : Prop :=
  (∀ x ∈ pre, x.2.2 = 0) ∧ Four w 0 0 W ∧ (∃ v, Boxed W (w.heap.size + 1 + 1 + 1) 22 v ∧ W.ownsRow w.heap.size 29 3 v pre.length (flatP (pre.map (·.2.1)))) ∧ Below w.heap.size w W
def aX (w : World) (c : Code) (pre : List Item) (W : World) : Prop :=
  ∃ (ini : List Item) (k : Nat) (p : Part) (e : Int), c = .ret ∧ pre = ini ++ [(k, p, e)] ∧ e ≠ 0 ∧ Four w k e W ∧ Below w.heap.size w W
def TBox (W : World) (k : Nat) (x : Item) : Prop := W.heap[k]? = some (.cells #[.bool x.2.1.isText, .int .u64 x.2.1.num, .string ⟨x.2.1.text.toArray⟩, .int .i64 x.2.2] 62 (0, 0))

theorem boxed_turn {X Y : World} {row : Option Nat} {k : Nat} {t : TypeId} {v : Value} (h : Boxed X k t v) (hg : X.grownBy Y row) (hr : ∀ r, row = some r → ∃ o : Obj, X.heap[r]? = some o ∧ o.isCells = false) : Boxed Y k t v :=
  h.kept hg (fun e' => by
    obtain ⟨o, ho, hc⟩ := hr k e'.symm
    rw [show X.heap[k]? = _ from h] at ho; cases ho; cases hc)
theorem Four.turn {X Y w : World} {a c : Int} {row : Option Nat} (h : Four w a c X) (hg : X.grownBy Y row) (hr : ∀ r, row = some r → ∃ o : Obj, X.heap[r]? = some o ∧ o.isCells = false) : Four w a c Y :=
  ⟨boxed_turn h.1 hg hr, boxed_turn h.2.1 hg hr, boxed_turn h.2.2 hg hr⟩
theorem row_turn {X Y : World} {base n : Nat} {v : Value} {xs : List Value} {row : Option Nat} (h : X.ownsRow base 29 3 v n xs) (hg : X.grownBy Y row) (hr : ∀ r, row = some r → ∃ o : Obj, X.heap[r]? = some o ∧ o.isCells = false) : Y.ownsRow base 29 3 v n xs := by
  refine h.kept hg ?_
  rcases h.2 with ⟨rfl, _⟩ | ⟨g, cap, cur, rfl, _, hgb, _⟩
  · exact .inl rfl
  · refine .inr fun e' => ?_
    obtain ⟨o, ho, hc⟩ := hr g (by simpa [Value.ownBlock] using e'.symm)
    rw [hgb] at ho; cases ho; cases hc

theorem aI_own (w : World) (B : Nat) (hB : w.heap.size ≤ B) : OwnFrom B (aI w) := by
  rintro pre X Y row ⟨h0, h4, ⟨v, hv, hrow⟩, hb⟩ hg hr
  have hr' : ∀ r, row = some r → ∃ o : Obj, X.heap[r]? = some o ∧ o.isCells = false := fun r e => (hr r e).2
  exact ⟨h0, h4.turn hg hr', ⟨v, boxed_turn hv hg hr', row_turn hrow hg hr'⟩, hb.grown hg hb.size (fun k e => Nat.le_trans hB (hr k e).1)⟩
theorem aX_own (w : World) (B : Nat) (hB : w.heap.size ≤ B) (c : Code) : OwnFrom B (aX w c) := by
  rintro pre X Y row ⟨ini, k, p, e, h1, h2, h3, h4, hb⟩ hg hr
  have hr' : ∀ r, row = some r → ∃ o : Obj, X.heap[r]? = some o ∧ o.isCells = false := fun r e => (hr r e).2
  exact ⟨ini, k, p, e, h1, h2, h3, h4.turn hg hr', hb.grown hg hb.size (fun k e => Nat.le_trans hB (hr k e).1)⟩
theorem Four.put {X w : World} {a c : Int} (h : Four w a c X) (u : Value) (k e : Int) :
    (Boxed (((X.setCell ⟨w.heap.size, 0, none⟩ u).setCell ⟨w.heap.size + 1, 0, none⟩ (.int .i64 k)).setCell ⟨w.heap.size + 1 + 1, 0, none⟩ (.int .i64 e)) w.heap.size 22 u ∧ Boxed (((X.setCell ⟨w.heap.size, 0, none⟩ u).setCell ⟨w.heap.size + 1, 0, none⟩ (.int .i64 k)).setCell ⟨w.heap.size + 1 + 1, 0, none⟩ (.int .i64 e)) (w.heap.size + 1) 3 (.int .i64 k) ∧ Boxed (((X.setCell ⟨w.heap.size, 0, none⟩ u).setCell ⟨w.heap.size + 1, 0, none⟩ (.int .i64 k)).setCell ⟨w.heap.size + 1 + 1, 0, none⟩ (.int .i64 e)) (w.heap.size + 1 + 1) 31 (.int .i64 e)) ∧
      (Four w k e ((((X.setCell ⟨w.heap.size, 0, none⟩ (.slice none 0 0)).setCell ⟨w.heap.size + 1, 0, none⟩ (.int .i64 k)).setCell ⟨w.heap.size + 1 + 1, 0, none⟩ (.int .i64 e)).drew)) :=
  ⟨⟨((h.1.set _).other (by omega) _).other (by omega) _, ((h.2.1.other (by omega) _).set _).other (by omega) _, ((h.2.2.other (by omega) _).other (by omega) _).set _⟩,
   ((h.1.set _).other (by omega) _).other (by omega) _, ((h.2.1.other (by omega) _).set _).other (by omega) _, ((h.2.2.other (by omega) _).other (by omega) _).set _⟩
theorem below_put {X w : World} (h : Below w.heap.size w X) (a b c : Value) : Below w.heap.size w (((X.setCell ⟨w.heap.size, 0, none⟩ a).setCell ⟨w.heap.size + 1, 0, none⟩ b).setCell ⟨w.heap.size + 1 + 1, 0, none⟩ c) :=
  ((h.setCell (p := ⟨w.heap.size, 0, none⟩) (Nat.le_refl _) _).setCell (p := ⟨w.heap.size + 1, 0, none⟩) (by simp) _).setCell (p := ⟨w.heap.size + 1 + 1, 0, none⟩) (by simp; omega) _
theorem news3 (X : World) (p : Part) : ∀ (j : Nat) (u : Value), (encP p)[j]? = some u → (X.alloc (.cells #[.bool p.isText, .int .u64 p.num, .string ⟨p.text.toArray⟩] 29)).cell? ((⟨X.heap.size, 0, none⟩ : Addr).add j) = some u := by
  intro j u hu
  rw [add_at, Nat.zero_add, World.cell?_alloc_new]
  have : j < 3 := (List.getElem?_eq_some_iff.1 hu).1
  rcases (by omega : j = 0 ∨ j = 1 ∨ j = 2) with rfl | rfl | rfl
  · simpa [encP] using hu
  · simpa [encP] using hu
  · simpa [encP] using hu
theorem encP_one (p : Part) : ∀ u ∈ encP p, u.oneCell' = true := by
  intro u hu
  simp [encP] at hu
  rcases hu with rfl | rfl | rfl <;> rfl
/-- Behind 'l = append(l, t.part)': what else the loop needs stands as it stood. -/
theorem boxed_app {X w1 : World} {base k b n : Nat} {t : TypeId} {u v v' : Value} {xs : List Value} {tmp : Obj} (h : Boxed X k t u) (ht : t ≠ 29) (hrow : X.ownsRow base 29 3 v n xs) (hgrow : (X.alloc tmp).grownBy w1 v.ownBlock) (hk : k ≠ b) : Boxed (w1.setCell ⟨b, 0, none⟩ v') k t u :=
  ((h.alloc tmp).kept hgrow (h.not_row ht hrow)).other hk v'
theorem tbox_turn {X Y : World} {row : Option Nat} {k : Nat} {x : Item} (h : TBox X k x) (hg : X.grownBy Y row) (hr : ∀ r, row = some r → ∃ o : Obj, X.heap[r]? = some o ∧ o.isCells = false) : TBox Y k x := by
  have hlt : k < X.heap.size := (Array.getElem?_eq_some_iff.1 h).1
  refine (hg.block k hlt (fun e' => ?_)).trans h
  obtain ⟨o, ho, hc⟩ := hr k e'.symm
  rw [show X.heap[k]? = _ from h] at ho; cases ho; cases hc

theorem res21 (W : World) (a b c : Nat) (u : Value) (k e : Int) (h2 : Boxed W a 22 u) (h3 : Boxed W b 3 (.int .i64 k)) (h4 : Boxed W c 31 (.int .i64 e)) (tmps : Array Value) (t2 : tmps.getD 2 undef = .pointer (some ⟨a, 0, none⟩)) (t3 : tmps.getD 3 undef = .pointer (some ⟨b, 0, none⟩)) (t4 : tmps.getD 4 undef = .pointer (some ⟨c, 0, none⟩)) : (results Tryd.f21 tmps).run Tryd.prog W = .ok (.tuple #[u, .int .i64 k, .int .i64 e]) W := by
  have c2 := h2.cell
  have c3 := h3.cell
  have c4 := h4.cell
  have ee : Tryd.f21.results = #[.cell 2 22, .cell 3 3, .cell 4 31] := rfl
  rw [Array.getD_eq_getD_getElem?] at t2 t3 t4
  unfold results
  rw [ee]
  simp [go_sem, t2, t3, t4, c2, c3, c4]
theorem boxed_put {W : World} {k D : Nat} {t : TypeId} {v : Value} {o : Obj} (h : Boxed W k t v) (hK : W.heap[D]? = some o) (ho : o.isCells = false) (o' : Obj) : Boxed (W.putObj D o') k t v :=
  h.kept (grownBy_putObj' W D o') (fun e => by
    cases e
    rw [show W.heap[k]? = _ from h] at hK
    cases hK
    cases ho)

def allV (s : ByteArray) (w : World) (e : Ending) (w' : World) : Prop :=
  (∃ v, (allL s.data.toList).2.2 = 0 ∧ e = .returned (.tuple #[v, .int .i64 s.size, .int .i64 0]) ∧ w'.ownsRow w.heap.size 29 3 v (allL s.data.toList).1.length (flatP (allL s.data.toList).1) ∧ Below w.heap.size w w') ∨
  ((allL s.data.toList).2.2 ≠ 0 ∧ e = .returned (.tuple #[.slice none 0 0, .int .i64 (s.size - (allL s.data.toList).2.1.length : Nat), .int .i64 (allL s.data.toList).2.2]) ∧ Below w.heap.size w w')

set_option maxRecDepth 100000 in
set_option maxHeartbeats 4000000 in
theorem all_any (s : ByteArray) (hs : s.size ≤ 39998) (w : World) : Calls Tryd.prog 21 #[.string s] w (allV s w) := by
  refine (callsIn_wide (n := 5)).1 ?_
  refine callsIn_of_wp_marks Tryd.func21 rfl trivial ?_ rfl
  simp only [Tryd.ntmps21, List.size_toArray, List.length_cons, List.length_nil, Nat.reduceAdd, Nat.reduceSub, Array.replicate_succ, Array.replicate_zero, List.push_toArray, List.append_toArray, List.nil_append, List.cons_append]
  gi_wp2_with (refine ⟨trivial, ?_⟩; gi_at_call 27; refine (callsIn_wide.2 (takes_any _ _)).mono ?_; rintro e w' ⟨rfl, rfl⟩)
  obtain ⟨W0, hW0⟩ : ∃ W0, (((((w.alloc (.cells #[.slice none 0 0] 22)).alloc (.cells #[.int .i64 0] 3)).alloc (.cells #[.int .i64 0] 31)).alloc (.cells #[.slice none 0 0] 22)).alloc (.cells #[.string s] 9)) = W0 := ⟨_, rfl⟩
  have b2 := ((((Boxed.new w 22 (.slice none 0 0)).alloc (.cells #[.int .i64 0] 3)).alloc (.cells #[.int .i64 0] 31)).alloc (.cells #[.slice none 0 0] 22)).alloc (.cells #[.string s] 9)
  have b3 := (((Boxed.new (w.alloc (.cells #[.slice none 0 0] 22)) 3 (.int .i64 0)).alloc (.cells #[.int .i64 0] 31)).alloc (.cells #[.slice none 0 0] 22)).alloc (.cells #[.string s] 9)
  have b4 := ((Boxed.new ((w.alloc (.cells #[.slice none 0 0] 22)).alloc (.cells #[.int .i64 0] 3)) 31 (.int .i64 0)).alloc (.cells #[.slice none 0 0] 22)).alloc (.cells #[.string s] 9)
  have b5 := (Boxed.new (((w.alloc (.cells #[.slice none 0 0] 22)).alloc (.cells #[.int .i64 0] 3)).alloc (.cells #[.int .i64 0] 31)) 22 (.slice none 0 0)).alloc (.cells #[.string s] 9)
  have b6 := Boxed.new ((((w.alloc (.cells #[.slice none 0 0] 22)).alloc (.cells #[.int .i64 0] 3)).alloc (.cells #[.int .i64 0] 31)).alloc (.cells #[.slice none 0 0] 22)) 9 (.string s)
  have hB0 : Below w.heap.size w (((((w.alloc (.cells #[.slice none 0 0] 22)).alloc (.cells #[.int .i64 0] 3)).alloc (.cells #[.int .i64 0] 31)).alloc (.cells #[.slice none 0 0] 22)).alloc (.cells #[.string s] 9)) :=
    (((((Below.refl _ w).alloc (Nat.le_refl _) _).alloc (by simp) _).alloc (by simp; omega) _).alloc (by simp; omega) _).alloc (by simp; omega) _
  have hsz : (((((w.alloc (.cells #[.slice none 0 0] 22)).alloc (.cells #[.int .i64 0] 3)).alloc (.cells #[.int .i64 0] 31)).alloc (.cells #[.slice none 0 0] 22)).alloc (.cells #[.string s] 9)).heap.size = w.heap.size + 1 + 1 + 1 + 1 + 1 := by simp
  simp only [World.size_alloc] at b3 b4 b5 b6
  rw [hW0] at b2 b3 b4 b5 b6 hB0 hsz ⊢
  have HW0 := Lib.hid hW0
  clear hW0
  have hN : (itL s.data.toList).length ≤ 20000 := by
    have h1 := itF_len s.data.toList.length s.data.toList.length s.data.toList
    have h2 : s.data.toList.length = s.size := rfl
    unfold itL
    omega
  refine wpIn_rangeFunc_ownH rfl (by omega) (gf := 33) (lb := #[.pointer (some ⟨w.heap.size + 1 + 1 + 1 + 1, 0, none⟩)]) rfl trivial (enters_of Tryd.func33 (by kernel_rfl) rfl)
    (takes1_stops _ (by omega) (w.heap.size + 1 + 1 + 1 + 1) s (by omega) W0 b6) (fun h k x => k (h x))
    (fun X l o o' hl ho hc _ hx => hx.kept (grownBy_putObj' X l o') (fun e => by cases e; omega)) (Below.refl _ _) (fun _ => rfl)
    (aI w) (aX w) (aI_own w _ (by omega)) (aX_own w _ (by omega)) ⟨by simp, ⟨b2, b3, b4⟩, ⟨_, b5, World.ownsRow_nil _ _ _ _⟩, hB0⟩
    (fun x a' X => ∃ Bx, w.heap.size + 1 + 1 + 1 < Bx ∧ TBox X Bx x ∧ a' = { tmps := #[.string s, undef, .pointer (some ⟨w.heap.size, 0, none⟩), .pointer (some ⟨w.heap.size + 1, 0, none⟩), .pointer (some ⟨w.heap.size + 1 + 1, 0, none⟩), .pointer (some ⟨w.heap.size + 1 + 1 + 1, 0, none⟩), .int .i64 x.1, .pointer (some ⟨Bx, 0, none⟩), .string s, .func (.func 33) #[] #[.pointer (some ⟨w.heap.size + 1 + 1 + 1 + 1, 0, none⟩)], .int .i64 x.1, .agg #[.bool x.2.1.isText, .int .u64 x.2.1.num, .string ⟨x.2.1.text.toArray⟩, .int .i64 x.2.2], undef, undef, undef, undef, undef, undef, undef, undef, undef, undef, undef, undef, undef, undef, undef, undef, undef, undef], defers := [] })
    ?own ?assign ?body ?done ?stop
  case own =>
    rintro x a' _ X Y row ⟨Bx, h1, h2, h3⟩ hg hr
    exact ⟨Bx, h1, tbox_turn h2 hg (fun r e => (hr r e).2), h3⟩
  case assign =>
    rintro l pre ⟨k, p, e⟩ X K ⟨h0, h4, ⟨v, hv, hrow⟩, hB⟩ hK
    have e1 : encI (k, p, e) = #[.int .i64 k, .agg #[.bool p.isText, .int .u64 p.num, .string ⟨p.text.toArray⟩, .int .i64 e]] := rfl
    rw [e1]
    gi_wp2
    refine hK _ _ ((KeepsOthers.alloc _ _).from _) (fun h => h.alloc _) ⟨h0, ⟨h4.1.alloc _, h4.2.1.alloc _, h4.2.2.alloc _⟩, ⟨v, hv.alloc _, hrow.alloc _⟩, hB.alloc hB.size _⟩ ⟨X.heap.size, hv.lt, heap_alloc_new X _, rfl⟩
  case body =>
    rintro l pre ⟨k, p, e⟩ a' X hl hr ⟨h0, h4, ⟨v, hv, hrow⟩, hB⟩ ⟨Bx, hBx, hT, rfl⟩ hlen
    have t0 : X.cell? ⟨Bx, 0, none⟩ = some (.bool p.isText) := by rw [Lib.cell_of_heap hT]; rfl
    have t1 : X.cell? ⟨Bx, 1, none⟩ = some (.int .u64 p.num) := by rw [Lib.cell_of_heap hT]; rfl
    have t2 : X.cell? ⟨Bx, 2, none⟩ = some (.string ⟨p.text.toArray⟩) := by rw [Lib.cell_of_heap hT]; rfl
    have t3 : X.cell? ⟨Bx, 3, none⟩ = some (.int .i64 e) := by rw [Lib.cell_of_heap hT]; rfl
    by_cases he : e = 0
    · subst he
      obtain ⟨i0, hi, hz0, hz1, hz2⟩ := info_parts info29
      obtain ⟨ao, cp, rfl⟩ := own_len3 hrow
      have hc5 := hv.cell
      have hlt : pre.length < 20000 := by omega
      have q3 : ((pre.length : Int) == 20000) = false := by rw [beq_eq_false_iff_ne]; omega
      have HN := Lib.hid (news3 X p)
      have hpb : w.heap.size ≤ X.heap.size := hB.size
      clear hT hN hsz
      gi_wp2_with (gi_at_builtin; refine wpListIn_append_own _ rfl _ _ 22 rfl w.heap.size 29 i0 (.agg #[.bool false, .int .u64 0, .string ⟨#[]⟩]) 3 32 Tryd.underlying22 hi hz0 hz1 hz2 rfl (by decide) _ _ _ rfl (hrow.alloc _) ⟨X.heap.size, 0, none⟩ 1 1 (encP p) rfl rfl HN.out (encP_one p) (by unfold maxLen; omega) (by omega) (by simp; omega) ?_; intro v' w1 hown' hgrow _; obtain ⟨g', cap', rfl⟩ := ownsRow_succ hown'; have hap := Lib.hid (hv.appended (by decide) hrow hpb (by omega) hown' hgrow); have hc1 := hap.out.1.cell; have hf1 := hap.out.1.frozen)
      obtain ⟨_, hv2, hr2, hk2, hb2⟩ := hap.out
      refine ⟨hk2.from _, fun h => boxed_app h (by decide) hrow hgrow (by omega), fun x hx => ?_, ⟨boxed_app h4.1 (by decide) hrow hgrow (by omega), boxed_app h4.2.1 (by decide) hrow hgrow (by omega), boxed_app h4.2.2 (by decide) hrow hgrow (by omega)⟩, ⟨_, hv2, ?_⟩, hB.trans hb2⟩
      · rcases List.mem_append.1 hx with hx | hx
        · exact h0 x hx
        · obtain rfl := List.mem_singleton.1 hx; rfl
      · rw [List.length_append, List.map_append, flatP_append]
        exact hr2
    · have q1 : (e == 0) = false := by rw [beq_eq_false_iff_ne]; exact he
      have q2 : (e != 0) = true := by rw [bne, q1]; rfl
      have f2 := h4.1.frozen; have f3 := h4.2.1.frozen; have f4 := h4.2.2.frozen
      have c2 := h4.1.cell; have c3 := h4.2.1.cell; have c4 := h4.2.2.cell
      have HE := Lib.hid he
      clear he hT t0 t1 t2
      gi_wp2
      gi_region
      all_goals
        gi_wp2
        exact ⟨((((KeepsOthers.setCell _ _ _).trans (KeepsOthers.setCell _ _ _)).trans (KeepsOthers.setCell _ _ _)).trans (KeepsOthers.drew _)).from _, pre, k, p, e, rfl, rfl, HE.out, (h4.put (.slice none 0 0) _ _).2, (below_put hB _ _ _).drew⟩
  case done =>
    rintro D xs X hD rfl ⟨h0, h4, ⟨v, hv, hrow⟩, hB⟩ hK
    have f2 := h4.1.frozen; have f3 := h4.2.1.frozen; have f4 := h4.2.2.frozen
    have c2 := h4.1.cell; have c3 := h4.2.1.cell; have c4 := h4.2.2.cell
    have hc5 := hv.cell
    obtain ⟨ao, cp, rfl⟩ := own_len3 hrow
    have H0 := Lib.hid h0
    clear h0
    have hp := (h4.put (.slice ao (itL s.data.toList).length cp) s.size 0).1
    have hK' := (((KeepsOthers.setCell X ⟨w.heap.size, 0, none⟩ (.slice ao (itL s.data.toList).length cp)).trans (KeepsOthers.setCell _ ⟨w.heap.size + 1, 0, none⟩ (.int .i64 s.size))).trans (KeepsOthers.setCell _ ⟨w.heap.size + 1 + 1, 0, none⟩ (.int .i64 0))).same D _ hK rfl
    have hr2 := ((hrow.kept (grownBy_setCell' X w.heap.size (.slice ao (itL s.data.toList).length cp)) (.inr (h4.1.not_row (by decide) hrow).symm)).kept (grownBy_setCell' _ (w.heap.size + 1) (.int .i64 s.size)) (.inr (((h4.2.1.other (by omega) _)).not_row (by decide) (hrow.kept (grownBy_setCell' X w.heap.size (.slice ao (itL s.data.toList).length cp)) (.inr (h4.1.not_row (by decide) hrow).symm))).symm))
    have hr3 := hr2.kept (grownBy_setCell' _ (w.heap.size + 1 + 1) (.int .i64 0)) (.inr ((((h4.2.2.other (by omega) _).other (by omega) _)).not_row (by decide) hr2).symm)
    have hbp := below_put hB (.slice ao (itL s.data.toList).length cp) (.int .i64 s.size) (.int .i64 0)
    have HR := Lib.hid (And.intro hp (And.intro hK' (And.intro hr3 hbp)))
    clear hp hK' hr2 hr3 hbp hrow hK
    gi_wp2
    obtain ⟨hp, hK', hr3, hbp⟩ := HR.out
    refine ⟨by simp, .inl ⟨_, _, rfl, run_takeDeferred hK', ?_⟩⟩
    refine ⟨_, res21 _ _ _ _ _ _ _ (boxed_put hp.1 hK' rfl _) (boxed_put hp.2.1 hK' rfl _) (boxed_put hp.2.2 hK' rfl _) _ rfl rfl rfl, .inl ?_⟩
    have hF : allL s.data.toList = ((itL s.data.toList).map (·.2.1), [], 0) := itF_ok _ _ _ (Nat.le_refl _) H0.out
    refine ⟨_, by rw [hF], rfl, ?_, hbp.trans (belowK_b (w := w) (Nat.le_refl _) _ D _ _ (by omega) hK' rfl rfl)⟩
    rw [hF]
    simp only [List.length_map]
    exact ownsRow_putObj hr3 _ hK' rfl
  case stop =>
    rintro D c pre X hD hpre ⟨ini, k, p, e, rfl, rfl, he, h4, hB⟩ hK
    have HP := Lib.hid hpre
    have HE := Lib.hid he
    clear hpre he
    gi_wp2
    refine ⟨by simp, .inl ⟨_, _, rfl, run_takeDeferred hK, ?_⟩⟩
    refine ⟨_, res21 _ _ _ _ _ _ _ (boxed_put h4.1 hK rfl _) (boxed_put h4.2.1 hK rfl _) (boxed_put h4.2.2 hK rfl _) _ rfl rfl rfl, .inr ?_⟩
    obtain ⟨i1, i2⟩ := itF_no _ _ _ _ _ _ _ HE.out HP.out
    have i1' : (allL s.data.toList).2.2 = e := i1
    have i2' : k = s.size - (allL s.data.toList).2.1.length := i2
    refine ⟨by rw [i1']; exact HE.out, by rw [i1', ← i2'], hB.trans (belowK_b (w := w) (Nat.le_refl _) X D _ _ (by omega) hK rfl rfl)⟩
end Go.Proofs.YtmamolhclohniaaDoor
