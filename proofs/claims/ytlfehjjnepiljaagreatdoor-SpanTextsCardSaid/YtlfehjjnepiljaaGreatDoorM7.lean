/- Proved here: wakes of puncheonlaw05 returns true, wherever the tables stand. | The contracts of the library's functions that the program calls, laid at this program's numbers: each is one application of the guide's own theorem. | What the last steps of all laws of this seat share: what the rows' list gives (the frames, the table of the powers of ten), a world for the witnesses, and how spans and versions that came in are opened. | Proved here: few of puncheonlaw05: a span's first six rows, of each its first six bounds, in memory of the call's own. | Proved here: whether two bounds, two rows of them, and two spans are the same: Equal, EqualFunc, and Same of package span. -/
import Derived.Shelf.Strings.Shaped
import Derived.Shelf.Strings.Search3
import Derived.Shelf.LaysM
import Derived.ProofKit
import Derived.OpenShut
import Derived.ShutString
import Derived.SizedLaws
import Derived.Lib.SmallJoins
import Derived.Lib.LaidTab
import Derived.Deep.DeepHandedRow
import Derived.LaidMore
import Derived.Lib.LaidU8
import Derived.Deep.Slices
import Derived.Maps.AppendAt
import Derived.Lib.SliceRun
import Derived.Test.YtlfehjjnepiljaaGreatDoorM6
import Derived.Test.YtlfehjjnepiljaaGreatDoorProg
import Derived.Test.YtlfehjjnepiljaaGreatDoorCards
import Derived.Test.YtlfehjjnepiljaaGreatDoorTie
import Derived.Test.YtlfehjjnepiljaaGreatDoorM2
namespace Go.Proofs.YtlfehjjnepiljaaGreatDoor
open Go.RowKit Go.Shelf

def ofV (a b : Int) : Ver := ⟨a, b, 0, 0, 2, ⟨#[]⟩, 0⟩
theorem built43 (a b : Int) : Tryz.prog.built 43 [(0, .int .i64 a), (1, .int .i64 b)] = some (ints4 a b 0 0) := by kernel_rfl
theorem builds43 {ops : Array Oper} {rest : List Oper} {o : Oper} {ac : Act} {w : World} {Q : Exit → Act → World → Prop} (hg : o.guard = none) (x y : Operand) (ho : o.op = .build 43 #[(0, x), (1, y)]) (a b : Int) (hx : ac.eval x = .int .i64 a) (hy : ac.eval y = .int .i64 b)
    (h : wpList Tryz.prog ops Q rest (ac.put o.dst (.agg (ints4 a b 0 0))) w) : wpList Tryz.prog ops Q (o :: rest) ac w := by
  have e : Tryz.prog.built 43 ((#[(0, x), (1, y)] : Array (Nat × Operand)).map fun (i, x) => (i, ac.eval x)).toList = some (ints4 a b 0 0) := by
    refine Eq.trans (congrArg (Tryz.prog.built 43) ?_) (built43 a b)
    simp [hx, hy]
  exact wpList_build hg 43 _ ho (by rw [e]; rfl) (by rw [e]; exact h)
set_option maxRecDepth 100000 in
set_option maxHeartbeats 1000000 in
theorem of_any (a b : Int) (w : World) : Calls Tryz.prog 32 #[.int .i64 a, .int .i64 b] w fun e w' => e = .returned (.agg (ofV a b).arr) ∧ Below w.heap.size w w' := by
  have X0 : Hid (Box (w.alloc (.cells Ver.zero.arr 45)) w.heap.size 45 Ver.zero.arr) := Lib.hid box_new
  go_enter Tryz.func32, Tryz.ntmps32
  go_wp2_with (first
    | (with_reducible refine wpList_zero rfl 45 rfl Ver.zero.arr zero26 ?_)
    | (refine builds43 rfl (.tmp 5) (.tmp 6) rfl a b rfl rfl ?_)
    | (refine builds_ver26 rfl (.tmp 7) (.const (.int .i64 2)) rfl a b 0 0 2 rfl rfl ?_)
    | (refine wpList_store_row rfl 45 (.tmp 4) (.tmp 8) rfl w.heap.size (ofV a b).arr rfl rfl 45 _ X0.out (info26 _) rfl (arr_one _) ?_))
  exact bodyPost_ret (results_cell_row rfl _ _ w.heap.size 45 (ofV a b).arr (0, 0) _ rfl (X0.out.row _) Tryz.underlying45 rfl (info26 _)) rfl ⟨rfl, below_row (below_new _ _) (Nat.le_refl _) _⟩
def t1 : ByteArray := ⟨#[62, 61, 49, 46, 50, 44, 60, 50, 46, 48, 124, 124, 61, 51, 46, 49]⟩
def t2 : ByteArray := ⟨#[62, 61, 49, 46, 50, 44]⟩
/-- The span of that text. -/
def m0 : List (List Bd) := [[⟨3, ofV 1 2⟩, ⟨6, ofV 2 0⟩], [⟨1, ofV 3 1⟩]]
theorem m0_ok : spanOk m0 = true := by decide +kernel
theorem m0_text : spanT m0 = t1.data.toList := by decide +kernel
theorem t2_none : ∀ m, spanOk m = true → spanT m ≠ t2.data.toList := by
  intro m hm ht
  have h := span_split hm
  rw [ht] at h
  have e : splitD t2.data.toList = [t2.data.toList] := by decide +kernel
  rw [e] at h
  obtain ⟨r, hr⟩ : ∃ r, m = [r] := by
    match m, h with
    | [r], _ => exact ⟨r, rfl⟩
    | _ :: _ :: _, h => simp at h
  subst hr
  have h2 : rowT r = t2.data.toList := by
    have := h
    simp at this
    exact this.symm
  have hro := (span_ok hm).2 r (by simp)
  have hp := row_pieces (s := t2) (by decide) hro h2
  rw [pieces_list, show splitL 44 t2.data.toList = [[62, 61, 49, 46, 50], []] by decide +kernel] at hp
  have h0 : ([] : Str) ∈ r.map Bd.text := by rw [hp]; simp
  obtain ⟨b, hb, he⟩ := List.mem_map.1 h0
  exact (bd_text_ne ((row_ok hro).2 b hb)).1 he
/-- The tables, where the program reads them. -/
structure Tabs (w : World) : Prop where
  fr : FrW w
  tab : TabW w
  max : MaxW w
  one : 1 < w.heap.size
theorem Tabs.on {w w' : World} (h : Tabs w) (hb : Below w.heap.size w w') : Tabs w' := ⟨h.fr.below hb, h.tab.below hb, h.max.below h.one hb, Nat.lt_of_lt_of_le h.one hb.size⟩
structure WakesS (g : Nat) (x : Value) (w W : World) : Prop where
  box : Box W g 27 #[x]
  rd : RdR W x m0
  low : Below w.heap.size w W
theorem WakesS.drew {g : Nat} {x : Value} {w W : World} (h : WakesS g x w W) : WakesS g x w W.drew := ⟨h.box, h.rd, h.low.drew⟩
theorem WakesS.on {g : Nat} {x : Value} {w W W' : World} (h : WakesS g x w W) (hb : Below W.heap.size W W') : WakesS g x w W' := ⟨h.box.on hb, h.rd.on hb, bch h.low hb⟩
theorem m0_has (x : Value) (v : Ver) (o : Bool) (h : hasS m0 v = o) (W : World) (hx : RdR W x m0) : Calls Tryz.prog 20 #[.agg #[x], .agg v.arr] W fun e w' => e = .returned (.bool o) ∧ Below W.heap.size W w' := by
  rw [← h]; exact sHas_any m0 v x W hx

set_option maxRecDepth 100000 in
set_option maxHeartbeats 8000000 in
theorem swakes_any (w : World) (hT : Tabs w) : Calls Tryz.prog 9 #[] w fun e w' => e = .returned (.bool true) ∧ Below w.heap.size w w' := by
  have HT := Lib.hid hT
  have HR1 := Lib.hid (sread_any t1 (by decide) w hT.fr hT.max hT.one)
  clear hT
  go_enter Tryz.func9, Tryz.ntmps9
  go_wp2_with fail
  refine HR1.out.mono ?_
  rintro e w1 ⟨x, l, z, rfl, hz, hb⟩
  have hok : z = 0 ∧ OwnR w1 w.heap.size x m0 := by
    rcases hz with ⟨h1, h2, h3, h4⟩ | ⟨_, _, h3⟩
    · rw [span_inj h2 m0_ok (h3.trans m0_text.symm)] at h4
      exact ⟨h1, h4⟩
    · exact absurd m0_text (h3 m0 m0_ok)
  obtain ⟨rfl, hown⟩ := hok
  have B1 := Lib.hid hb
  have R1 : Hid (RdR w1 x m0) := Lib.hid hown.rd
  have T1 := Lib.hid (HT.out.on hb)
  obtain ⟨a, c, rfl⟩ := hown.form
  clear hz hown hb HT HR1
  obtain ⟨n0, hn0⟩ : ∃ n, n = m0.length := ⟨_, rfl⟩
  rw [← hn0] at R1 ⊢
  obtain ⟨w2, hw2⟩ : ∃ q, q = w1.alloc (.cells #[.slice a n0 c] 27) := ⟨_, rfl⟩
  have A2 : Hid (Box w2 w1.heap.size 27 #[.slice a n0 c]) := Lib.hid (by rw [hw2]; exact box_new)
  have b2 : Below w1.heap.size w1 w2 := by rw [hw2]; exact below_new _ _
  have T2 := Lib.hid (T1.out.on b2)
  have R2 := Lib.hid (R1.out.on b2)
  have B2 := Lib.hid (bch B1.out b2)
  clear hn0
  go_upto_region 2 with fail
  rw [← hw2]
  obtain ⟨g1, hg1⟩ : ∃ q, q = w1.heap.size := ⟨_, rfl⟩
  rw [← hg1] at A2 ⊢
  clear hw2 B1 T1 R1 b2 hg1
  have HTX := Lib.hid (stext_any m0 _ w2 R2.out T2.out.fr T2.out.tab)
  have HTE : Hid (textS m0 = (t1, 0)) := Lib.hid (by
    unfold textS
    rw [if_pos m0_ok, m0_text]
    rfl)
  rw [HTE.out] at HTX
  go_wp2_with (refine wpList_load_row rfl 27 (.tmp 1) rfl g1 rfl 27 #[.slice a n0 c] (0, 0) _ A2.out Tryz.underlying27 rfl (info27 _) ?_)
  refine HTX.out.mono ?_
  rintro e w3 ⟨rfl, hb⟩
  have A3 := Lib.hid (A2.out.on hb)
  have T3 := Lib.hid (T2.out.on hb)
  have R3 := Lib.hid (R2.out.on hb)
  have B3 := Lib.hid (bch B2.out hb)
  clear A2 T2 R2 B2 HTX HTE hb
  have HR2 := Lib.hid (sread_any t2 (by decide) w3 T3.out.fr T3.out.max T3.out.one)
  go_wp2_with fail
  refine HR2.out.mono ?_
  rintro e w4 ⟨x2, l2, z, rfl, hz, hb⟩
  have hok : z = 150 ∧ x2 = .slice none 0 0 := by
    rcases hz with ⟨_, h2, h3, _⟩ | ⟨h1, h2, _⟩
    · exact absurd h3 (t2_none l2 h2)
    · exact ⟨h1, h2⟩
  obtain ⟨rfl, rfl⟩ := hok
  have A4 := Lib.hid (A3.out.on hb)
  have R4 := Lib.hid (R3.out.on hb)
  have B4 := Lib.hid (bch B3.out hb)
  clear A3 T3 R3 B3 HR2 hz hb
  obtain ⟨w5, hw5⟩ : ∃ q, q = w4.alloc (.cells #[.slice none 0 0] 27) := ⟨_, rfl⟩
  have b5 : Below w4.heap.size w4 w5 := by rw [hw5]; exact below_new _ _
  have k0 : Hid (WakesS g1 (.slice a n0 c) w5 w5) := Lib.hid ⟨A4.out.on b5, R4.out.on b5, Below.refl _ _⟩
  have B5 := Lib.hid (bch B4.out b5)
  go_upto_region 4 with fail
  rw [← hw5]
  clear hw5 B4 R4 b5 A4
  have H1 := Lib.hid (fun W h => m0_has (.slice a n0 c) (ofV 1 10) true (by decide +kernel) W h)
  have H2 := Lib.hid (fun W h => m0_has (.slice a n0 c) (ofV 2 0) false (by decide +kernel) W h)
  have H3 := Lib.hid (fun W h => m0_has (.slice a n0 c) (ofV 3 1) true (by decide +kernel) W h)
  have e1 : ((0 : Int) == 0) = true := rfl
  have e2 : ((150 : Int) == 150) = true := rfl
  have e3 : (t1.toList == [62, 61, 49, 46, 50, 44, 60, 50, 46, 48, 124, 124, 61, 51, 46, 49]) = true := by rw [beq_iff_eq, Lib.toList_data]; rfl
  refine wp_region_held_drew (S := fun w' => WakesS g1 (.slice a n0 c) w5 w') (by kernel_rfl) k0.out.drew (fun hHeld => ?_)
  refine wpAnyH_take (i := 0) (oi := { dst := some 20, op := Op.move (Operand.tmp 2), type := 30, pos := "law.go:21", after := #[], guard := none }) (v := ?_) rfl (by kernel_rfl) (by kernel_rfl) (by kernel_rfl) (fun _ _ _ h => h) (Or.inl ⟨by rfl, ?_⟩) hHeld ?_
  rotate_left
  · (intro w hSw; go_simp; try with_reducible rfl)
  (try simp only [Act.put, List.setIfInBounds_toArray, List.set_cons_zero, List.set_cons_succ])
  refine wpAnyH_take (i := 1) (oi := { dst := some 21, op := Op.binOp BinOp.eql 30 (Operand.tmp 20) (Operand.const (Value.int IntKind.i64 0)) 30, type := 4, pos := "law.go:21", after := #[{ on := 0, ground := Ground.data }], guard := none }) (v := ?_) rfl (by kernel_rfl) (by kernel_rfl) (by kernel_rfl) (fun _ _ _ h => h) (Or.inl ⟨by rfl, ?_⟩) hHeld ?_
  rotate_left
  · (intro w hSw; go_simp; try with_reducible rfl)
  (try simp only [Act.put, List.setIfInBounds_toArray, List.set_cons_zero, List.set_cons_succ])
  refine wpAnyH_take (i := 2) (oi := { dst := some 22, op := Op.move (Operand.tmp 21), type := 4, pos := "law.go:21", after := #[{ on := 1, ground := Ground.data }], guard := none }) (v := ?_) rfl (by kernel_rfl) (by kernel_rfl) (by kernel_rfl) (fun _ _ _ h => h) (Or.inl ⟨by rfl, ?_⟩) hHeld ?_
  rotate_left
  · (intro w hSw; go_simp; try with_reducible rfl)
  (try simp only [Act.put, List.setIfInBounds_toArray, List.set_cons_zero, List.set_cons_succ])
  refine wpAnyH_take (i := 3) (oi := { dst := some 23, op := Op.move (Operand.tmp 4), type := 30, pos := "law.go:21", after := #[{ on := 2, ground := Ground.guard }], guard := some (2, true) }) (v := ?_) rfl (by kernel_rfl) (by kernel_rfl) (by kernel_rfl) (fun _ _ _ h => h) (Or.inl ⟨by rfl, ?_⟩) hHeld ?_
  rotate_left
  · (intro w hSw; go_simp; try with_reducible rfl)
  (try simp only [Act.put, List.setIfInBounds_toArray, List.set_cons_zero, List.set_cons_succ])
  refine wpAnyH_take (i := 4) (oi := { dst := some 24, op := Op.binOp BinOp.eql 30 (Operand.tmp 23) (Operand.const (Value.int IntKind.i64 0)) 30, type := 4, pos := "law.go:21", after := #[{ on := 3, ground := Ground.data }, { on := 2, ground := Ground.guard }], guard := some (2, true) }) (v := ?_) rfl (by kernel_rfl) (by kernel_rfl) (by kernel_rfl) (fun _ _ _ h => h) (Or.inl ⟨by rfl, ?_⟩) hHeld ?_
  rotate_left
  · (intro w hSw; go_simp; try with_reducible rfl)
  (try simp only [Act.put, List.setIfInBounds_toArray, List.set_cons_zero, List.set_cons_succ])
  refine wpAnyH_take (i := 5) (oi := { dst := some 25, op := Op.pick (Operand.tmp 22) (Operand.tmp 24) (Operand.const (Value.bool false)), type := 4, pos := "law.go:21", after := #[{ on := 2, ground := Ground.data }, { on := 4, ground := Ground.data }], guard := none }) (v := ?_) rfl (by kernel_rfl) (by kernel_rfl) (by kernel_rfl) (fun _ _ _ h => h) (Or.inl ⟨by rfl, ?_⟩) hHeld ?_
  rotate_left
  · (intro w hSw; go_simp; try with_reducible rfl)
  (try simp only [Act.put, List.setIfInBounds_toArray, List.set_cons_zero, List.set_cons_succ])
  refine wpAnyH_take (i := 6) (oi := { dst := some 26, op := Op.move (Operand.tmp 25), type := 4, pos := "law.go:21", after := #[{ on := 5, ground := Ground.data }, { on := 2, ground := Ground.chain }], guard := none }) (v := ?_) rfl (by kernel_rfl) (by kernel_rfl) (by kernel_rfl) (fun _ _ _ h => h) (Or.inl ⟨by rfl, ?_⟩) hHeld ?_
  rotate_left
  · (intro w hSw; go_simp; try with_reducible rfl)
  (try simp only [Act.put, List.setIfInBounds_toArray, List.set_cons_zero, List.set_cons_succ])
  refine wpAnyH_take (i := 7) (oi := { dst := some 27, op := Op.move (Operand.tmp 6), type := 30, pos := "law.go:21", after := #[{ on := 6, ground := Ground.guard }], guard := some (6, true) }) (v := ?_) rfl (by kernel_rfl) (by kernel_rfl) (by kernel_rfl) (fun _ _ _ h => h) (Or.inl ⟨by rfl, ?_⟩) hHeld ?_
  rotate_left
  · (intro w hSw; go_simp; try with_reducible rfl)
  (try simp only [Act.put, List.setIfInBounds_toArray, List.set_cons_zero, List.set_cons_succ])
  refine wpAnyH_take (i := 8) (oi := { dst := some 28, op := Op.binOp BinOp.eql 30 (Operand.tmp 27) (Operand.const (Value.int IntKind.i64 150)) 30, type := 4, pos := "law.go:21", after := #[{ on := 7, ground := Ground.data }, { on := 6, ground := Ground.guard }], guard := some (6, true) }) (v := ?_) rfl (by kernel_rfl) (by kernel_rfl) (by kernel_rfl) (fun _ _ _ h => h) (Or.inl ⟨by rfl, ?_⟩) hHeld ?_
  rotate_left
  · (intro w hSw; go_simp; try with_reducible rfl)
  (try simp only [Act.put, List.setIfInBounds_toArray, List.set_cons_zero, List.set_cons_succ])
  refine wpAnyH_take (i := 9) (oi := { dst := some 29, op := Op.pick (Operand.tmp 26) (Operand.tmp 28) (Operand.const (Value.bool false)), type := 4, pos := "law.go:21", after := #[{ on := 6, ground := Ground.data }, { on := 8, ground := Ground.data }], guard := none }) (v := ?_) rfl (by kernel_rfl) (by kernel_rfl) (by kernel_rfl) (fun _ _ _ h => h) (Or.inl ⟨by rfl, ?_⟩) hHeld ?_
  rotate_left
  · (intro w hSw; go_simp; try with_reducible rfl)
  (try simp only [Act.put, List.setIfInBounds_toArray, List.set_cons_zero, List.set_cons_succ])
  refine wpAnyH_take (i := 10) (oi := { dst := some 30, op := Op.move (Operand.tmp 29), type := 4, pos := "law.go:21", after := #[{ on := 9, ground := Ground.data }, { on := 6, ground := Ground.chain }], guard := none }) (v := ?_) rfl (by kernel_rfl) (by kernel_rfl) (by kernel_rfl) (fun _ _ _ h => h) (Or.inl ⟨by rfl, ?_⟩) hHeld ?_
  rotate_left
  · (intro w hSw; go_simp; try with_reducible rfl)
  (try simp only [Act.put, List.setIfInBounds_toArray, List.set_cons_zero, List.set_cons_succ])
  refine wpAnyH_take (i := 11) (oi := { dst := some 31, op := Op.move (Operand.tmp 3), type := 9, pos := "law.go:21", after := #[{ on := 10, ground := Ground.guard }], guard := some (10, true) }) (v := ?_) rfl (by kernel_rfl) (by kernel_rfl) (by kernel_rfl) (fun _ _ _ h => h) (Or.inl ⟨by rfl, ?_⟩) hHeld ?_
  rotate_left
  · (intro w hSw; go_simp; try with_reducible rfl)
  (try simp only [Act.put, List.setIfInBounds_toArray, List.set_cons_zero, List.set_cons_succ])
  refine wpAnyH_take (i := 12) (oi := { dst := some 32, op := Op.binOp BinOp.eql 9 (Operand.tmp 31) (Operand.const (Value.string { data := #[62, 61, 49, 46, 50, 44, 60, 50, 46, 48, 124, 124, 61, 51, 46, 49] })) 9, type := 4, pos := "law.go:21", after := #[{ on := 11, ground := Ground.data }, { on := 10, ground := Ground.guard }], guard := some (10, true) }) (v := ?_) rfl (by kernel_rfl) (by kernel_rfl) (by kernel_rfl) (fun _ _ _ h => h) (Or.inl ⟨by rfl, ?_⟩) hHeld ?_
  rotate_left
  · (intro w hSw; go_simp; try with_reducible rfl)
  (try simp only [Act.put, List.setIfInBounds_toArray, List.set_cons_zero, List.set_cons_succ])
  refine wpAnyH_take (i := 13) (oi := { dst := some 33, op := Op.pick (Operand.tmp 30) (Operand.tmp 32) (Operand.const (Value.bool false)), type := 4, pos := "law.go:21", after := #[{ on := 10, ground := Ground.data }, { on := 12, ground := Ground.data }], guard := none }) (v := ?_) rfl (by kernel_rfl) (by kernel_rfl) (by kernel_rfl) (fun _ _ _ h => h) (Or.inl ⟨by rfl, ?_⟩) hHeld ?_
  rotate_left
  · (intro w hSw; go_simp; try with_reducible rfl)
  (try simp only [Act.put, List.setIfInBounds_toArray, List.set_cons_zero, List.set_cons_succ])
  refine wpAnyH_take (i := 14) (oi := { dst := some 34, op := Op.move (Operand.tmp 33), type := 4, pos := "law.go:21", after := #[{ on := 13, ground := Ground.data }, { on := 10, ground := Ground.chain }], guard := none }) (v := ?_) rfl (by kernel_rfl) (by kernel_rfl) (by kernel_rfl) (fun _ _ _ h => h) (Or.inl ⟨by rfl, ?_⟩) hHeld ?_
  rotate_left
  · (intro w hSw; go_simp; try with_reducible rfl)
  (try simp only [Act.put, List.setIfInBounds_toArray, List.set_cons_zero, List.set_cons_succ])
  refine wpAnyH_take (i := 15) (oi := { dst := some 35, op := Op.load 27 (Operand.tmp 1), type := 27, pos := "law.go:21", after := #[{ on := 14, ground := Ground.guard }], guard := some (14, true) }) (v := ?_) rfl (by kernel_rfl) (by kernel_rfl) (by kernel_rfl) (fun _ _ _ h => h) (Or.inl ⟨by rfl, ?_⟩) hHeld ?_
  rotate_left
  · (intro w hSw; have p0 := hSw.box.cell (k := 0) rfl; go_simp; try with_reducible rfl)
  (try simp only [Act.put, List.setIfInBounds_toArray, List.set_cons_zero, List.set_cons_succ])
  refine wpAnyH_ready (rs := [16]) (by kernel_rfl) (by simp) (AllReadyH.cons (o := { dst := some 36, op := Op.call { callee := Callee.value (Operand.func 32), args := #[Operand.const (Value.int IntKind.i64 1), Operand.const (Value.int IntKind.i64 10)], argTypes := #[3, 3] }, type := 45, pos := "law.go:21", after := #[{ on := 14, ground := Ground.chain }, { on := 14, ground := Ground.guard }], guard := some (14, true) }) rfl (fun K hK => ?_) AllReadyH.nil)
  · go_simp
    refine (of_any 1 10 _).mono ?_
    rintro e wa ⟨rfl, hba⟩
    refine hK.out _ _ (hHeld.on hba) (fun hHeld => ?_)
    (try simp only [Act.put, List.setIfInBounds_toArray, List.set_cons_zero, List.set_cons_succ])
    refine wpAnyH_ready (rs := [17]) (by kernel_rfl) (by simp) (AllReadyH.cons (o := { dst := some 37, op := Op.call { callee := Callee.value (Operand.func 20), args := #[Operand.tmp 35, Operand.tmp 36], argTypes := #[27, 45] }, type := 4, pos := "law.go:21", after := #[{ on := 15, ground := Ground.data }, { on := 16, ground := Ground.data }, { on := 16, ground := Ground.chain }, { on := 14, ground := Ground.guard }], guard := some (14, true) }) rfl (fun K hK => ?_) AllReadyH.nil)
    · go_simp
      refine (H1.out _ hHeld.rd).mono ?_
      rintro e wa ⟨rfl, hba⟩
      refine hK.out _ _ (hHeld.on hba) (fun hHeld => ?_)
      (try simp only [Act.put, List.setIfInBounds_toArray, List.set_cons_zero, List.set_cons_succ])
      refine wpAnyH_take (i := 18) (oi := { dst := some 38, op := Op.pick (Operand.tmp 34) (Operand.tmp 37) (Operand.const (Value.bool false)), type := 4, pos := "law.go:21", after := #[{ on := 14, ground := Ground.data }, { on := 17, ground := Ground.data }], guard := none }) (v := ?_) rfl (by kernel_rfl) (by kernel_rfl) (by kernel_rfl) (fun _ _ _ h => h) (Or.inl ⟨by rfl, ?_⟩) hHeld ?_
      rotate_left
      · (intro w hSw; go_simp; try with_reducible rfl)
      (try simp only [Act.put, List.setIfInBounds_toArray, List.set_cons_zero, List.set_cons_succ])
      refine wpAnyH_take (i := 19) (oi := { dst := some 39, op := Op.move (Operand.tmp 38), type := 4, pos := "law.go:21", after := #[{ on := 18, ground := Ground.data }, { on := 17, ground := Ground.chain }], guard := none }) (v := ?_) rfl (by kernel_rfl) (by kernel_rfl) (by kernel_rfl) (fun _ _ _ h => h) (Or.inl ⟨by rfl, ?_⟩) hHeld ?_
      rotate_left
      · (intro w hSw; go_simp; try with_reducible rfl)
      (try simp only [Act.put, List.setIfInBounds_toArray, List.set_cons_zero, List.set_cons_succ])
      refine wpAnyH_take (i := 20) (oi := { dst := some 40, op := Op.load 27 (Operand.tmp 1), type := 27, pos := "law.go:21", after := #[{ on := 19, ground := Ground.guard }], guard := some (19, true) }) (v := ?_) rfl (by kernel_rfl) (by kernel_rfl) (by kernel_rfl) (fun _ _ _ h => h) (Or.inl ⟨by rfl, ?_⟩) hHeld ?_
      rotate_left
      · (intro w hSw; have p0 := hSw.box.cell (k := 0) rfl; go_simp; try with_reducible rfl)
      (try simp only [Act.put, List.setIfInBounds_toArray, List.set_cons_zero, List.set_cons_succ])
      refine wpAnyH_ready (rs := [21]) (by kernel_rfl) (by simp) (AllReadyH.cons (o := { dst := some 41, op := Op.call { callee := Callee.value (Operand.func 32), args := #[Operand.const (Value.int IntKind.i64 2), Operand.const (Value.int IntKind.i64 0)], argTypes := #[3, 3] }, type := 45, pos := "law.go:21", after := #[{ on := 19, ground := Ground.chain }, { on := 19, ground := Ground.guard }], guard := some (19, true) }) rfl (fun K hK => ?_) AllReadyH.nil)
      · go_simp
        refine (of_any 2 0 _).mono ?_
        rintro e wa ⟨rfl, hba⟩
        refine hK.out _ _ (hHeld.on hba) (fun hHeld => ?_)
        (try simp only [Act.put, List.setIfInBounds_toArray, List.set_cons_zero, List.set_cons_succ])
        refine wpAnyH_ready (rs := [22]) (by kernel_rfl) (by simp) (AllReadyH.cons (o := { dst := some 42, op := Op.call { callee := Callee.value (Operand.func 20), args := #[Operand.tmp 40, Operand.tmp 41], argTypes := #[27, 45] }, type := 4, pos := "law.go:21", after := #[{ on := 20, ground := Ground.data }, { on := 21, ground := Ground.data }, { on := 21, ground := Ground.chain }, { on := 19, ground := Ground.guard }], guard := some (19, true) }) rfl (fun K hK => ?_) AllReadyH.nil)
        · go_simp
          refine (H2.out _ hHeld.rd).mono ?_
          rintro e wa ⟨rfl, hba⟩
          refine hK.out _ _ (hHeld.on hba) (fun hHeld => ?_)
          (try simp only [Act.put, List.setIfInBounds_toArray, List.set_cons_zero, List.set_cons_succ])
          refine wpAnyH_take (i := 23) (oi := { dst := some 43, op := Op.unOp UnOp.not 4 (Operand.tmp 42), type := 4, pos := "law.go:21", after := #[{ on := 22, ground := Ground.data }, { on := 19, ground := Ground.guard }], guard := some (19, true) }) (v := ?_) rfl (by kernel_rfl) (by kernel_rfl) (by kernel_rfl) (fun _ _ _ h => h) (Or.inl ⟨by rfl, ?_⟩) hHeld ?_
          rotate_left
          · (intro w hSw; go_simp; try with_reducible rfl)
          (try simp only [Act.put, List.setIfInBounds_toArray, List.set_cons_zero, List.set_cons_succ])
          refine wpAnyH_take (i := 24) (oi := { dst := some 44, op := Op.pick (Operand.tmp 39) (Operand.tmp 43) (Operand.const (Value.bool false)), type := 4, pos := "law.go:21", after := #[{ on := 19, ground := Ground.data }, { on := 23, ground := Ground.data }], guard := none }) (v := ?_) rfl (by kernel_rfl) (by kernel_rfl) (by kernel_rfl) (fun _ _ _ h => h) (Or.inl ⟨by rfl, ?_⟩) hHeld ?_
          rotate_left
          · (intro w hSw; go_simp; try with_reducible rfl)
          (try simp only [Act.put, List.setIfInBounds_toArray, List.set_cons_zero, List.set_cons_succ])
          refine wpAnyH_take (i := 25) (oi := { dst := some 45, op := Op.move (Operand.tmp 44), type := 4, pos := "law.go:21", after := #[{ on := 24, ground := Ground.data }, { on := 22, ground := Ground.chain }], guard := none }) (v := ?_) rfl (by kernel_rfl) (by kernel_rfl) (by kernel_rfl) (fun _ _ _ h => h) (Or.inl ⟨by rfl, ?_⟩) hHeld ?_
          rotate_left
          · (intro w hSw; go_simp; try with_reducible rfl)
          (try simp only [Act.put, List.setIfInBounds_toArray, List.set_cons_zero, List.set_cons_succ])
          refine wpAnyH_take (i := 26) (oi := { dst := some 46, op := Op.load 27 (Operand.tmp 1), type := 27, pos := "law.go:21", after := #[{ on := 25, ground := Ground.guard }], guard := some (25, true) }) (v := ?_) rfl (by kernel_rfl) (by kernel_rfl) (by kernel_rfl) (fun _ _ _ h => h) (Or.inl ⟨by rfl, ?_⟩) hHeld ?_
          rotate_left
          · (intro w hSw; have p0 := hSw.box.cell (k := 0) rfl; go_simp; try with_reducible rfl)
          (try simp only [Act.put, List.setIfInBounds_toArray, List.set_cons_zero, List.set_cons_succ])
          refine wpAnyH_ready (rs := [27]) (by kernel_rfl) (by simp) (AllReadyH.cons (o := { dst := some 47, op := Op.call { callee := Callee.value (Operand.func 32), args := #[Operand.const (Value.int IntKind.i64 3), Operand.const (Value.int IntKind.i64 1)], argTypes := #[3, 3] }, type := 45, pos := "law.go:21", after := #[{ on := 25, ground := Ground.chain }, { on := 25, ground := Ground.guard }], guard := some (25, true) }) rfl (fun K hK => ?_) AllReadyH.nil)
          · go_simp
            refine (of_any 3 1 _).mono ?_
            rintro e wa ⟨rfl, hba⟩
            refine hK.out _ _ (hHeld.on hba) (fun hHeld => ?_)
            (try simp only [Act.put, List.setIfInBounds_toArray, List.set_cons_zero, List.set_cons_succ])
            refine wpAnyH_ready (rs := [28]) (by kernel_rfl) (by simp) (AllReadyH.cons (o := { dst := some 48, op := Op.call { callee := Callee.value (Operand.func 20), args := #[Operand.tmp 46, Operand.tmp 47], argTypes := #[27, 45] }, type := 4, pos := "law.go:21", after := #[{ on := 26, ground := Ground.data }, { on := 27, ground := Ground.data }, { on := 27, ground := Ground.chain }, { on := 25, ground := Ground.guard }], guard := some (25, true) }) rfl (fun K hK => ?_) AllReadyH.nil)
            · go_simp
              refine (H3.out _ hHeld.rd).mono ?_
              rintro e wa ⟨rfl, hba⟩
              refine hK.out _ _ (hHeld.on hba) (fun hHeld => ?_)
              (try simp only [Act.put, List.setIfInBounds_toArray, List.set_cons_zero, List.set_cons_succ])
              refine wpAnyH_take (i := 29) (oi := { dst := some 49, op := Op.pick (Operand.tmp 45) (Operand.tmp 48) (Operand.const (Value.bool false)), type := 4, pos := "law.go:21", after := #[{ on := 25, ground := Ground.data }, { on := 28, ground := Ground.data }], guard := none }) (v := ?_) rfl (by kernel_rfl) (by kernel_rfl) (by kernel_rfl) (fun _ _ _ h => h) (Or.inl ⟨by rfl, ?_⟩) hHeld ?_
              rotate_left
              · (intro w hSw; go_simp; try with_reducible rfl)
              (try simp only [Act.put, List.setIfInBounds_toArray, List.set_cons_zero, List.set_cons_succ])
              refine wpAnyH_take (i := 30) (oi := { dst := some 0, op := Op.assign (Operand.tmp 49), type := 4, pos := "law.go:21", after := #[{ on := 29, ground := Ground.data }, { on := 28, ground := Ground.chain }, { on := 0, ground := Ground.phase }, { on := 1, ground := Ground.phase }, { on := 2, ground := Ground.phase }, { on := 3, ground := Ground.phase }, { on := 4, ground := Ground.phase }, { on := 5, ground := Ground.phase }, { on := 6, ground := Ground.phase }, { on := 7, ground := Ground.phase }, { on := 8, ground := Ground.phase }, { on := 9, ground := Ground.phase }, { on := 10, ground := Ground.phase }, { on := 11, ground := Ground.phase }, { on := 12, ground := Ground.phase }, { on := 13, ground := Ground.phase }, { on := 14, ground := Ground.phase }, { on := 15, ground := Ground.phase }, { on := 16, ground := Ground.phase }, { on := 17, ground := Ground.phase }, { on := 18, ground := Ground.phase }, { on := 19, ground := Ground.phase }, { on := 20, ground := Ground.phase }, { on := 21, ground := Ground.phase }, { on := 22, ground := Ground.phase }, { on := 23, ground := Ground.phase }, { on := 24, ground := Ground.phase }, { on := 25, ground := Ground.phase }, { on := 26, ground := Ground.phase }, { on := 27, ground := Ground.phase }, { on := 28, ground := Ground.phase }, { on := 29, ground := Ground.phase }], guard := none }) (v := ?_) rfl (by kernel_rfl) (by kernel_rfl) (by kernel_rfl) (fun _ _ _ h => h) (Or.inl ⟨by rfl, ?_⟩) hHeld ?_
              rotate_left
              · (intro w hSw; go_simp; try with_reducible rfl)
              (try simp only [Act.put, List.setIfInBounds_toArray, List.set_cons_zero])
              refine wpAnyH_done (by kernel_rfl) ?_ _
              have HD := Lib.hid hHeld
              clear hHeld
              go_wp2_with fail
              go_ret
              exact ⟨rfl, bch B5.out HD.out.low⟩
end Go.Proofs.YtlfehjjnepiljaaGreatDoor

namespace Go.Proofs
open Go.Shelf
def Tryz.laysM143_ren : Go.Shelf.Ren := ⟨fun | 143 => 100 | 219 => 124 | 217 => 136 | 225 => 137 | 224 => 138 | 267 => 139 | 266 => 146 | 314 => 147 | n => n, fun | 9 => 9 | 3 => 3 | 4 => 4 | 5 => 5 | 46 => 128 | 146 => 175 | 51 => 149 | n => n, fun | 1 => 1 | n => n⟩
theorem Tryz.laysM143 : Go.Proofs.LaysM.n143 Tryz.prog Tryz.laysM143_ren := {
  mixed := by kernel_rfl
  f143 := Tryz.func100.trans (congrArg some (by kernel_rfl))
  f217 := Tryz.func136.trans (congrArg some (by kernel_rfl))
  f219 := Tryz.func124.trans (congrArg some (by kernel_rfl))
  f224 := Tryz.func138.trans (congrArg some (by kernel_rfl))
  f225 := Tryz.func137.trans (congrArg some (by kernel_rfl))
  f266 := Tryz.func146.trans (congrArg some (by kernel_rfl))
  f267 := Tryz.func139.trans (congrArg some (by kernel_rfl))
  f314 := Tryz.func147.trans (congrArg some (by kernel_rfl))
  t3 := Tryz.underlying3
  a3 := Tryz.isAgg3
  z3 := Tryz.sizeOf3
  v3 := Tryz.zeroValue3
  t4 := Tryz.underlying4
  a4 := Tryz.isAgg4
  z4 := Tryz.sizeOf4
  v4 := Tryz.zeroValue4
  t5 := Tryz.underlying5
  a5 := Tryz.isAgg5
  z5 := Tryz.sizeOf5
  v5 := Tryz.zeroValue5
  t9 := Tryz.underlying9
  a9 := Tryz.isAgg9
  z9 := Tryz.sizeOf9
  v9 := Tryz.zeroValue9
  t46 := Tryz.underlying128
  a46 := Tryz.isAgg128
  z46 := Tryz.sizeOf128
  v46 := Tryz.zeroValue128
  t51 := Tryz.underlying149
  a51 := Tryz.isAgg149
  z51 := Tryz.sizeOf149
  v51 := Tryz.zeroValue149
  t146 := Tryz.underlying175
  a146 := Tryz.isAgg175
  z146 := Tryz.sizeOf175
  v146 := Tryz.zeroValue175
  g1 := by kernel_rfl
  i3 := by kernel_rfl
  i4 := by kernel_rfl
  i5 := by kernel_rfl
  i9 := by kernel_rfl
  i46 := by kernel_rfl
  i51 := by kernel_rfl
  i146 := by kernel_rfl
  m1 := by kernel_rfl
  s1_3 := fun w h => Go.Proofs.cell_of_shapedOpen_int (zero := #[.int .i64 0]) (t := 3) h (of_decide_eq_true (by kernel_rfl)) (by kernel_rfl) rfl (by kernel_rfl) (by kernel_rfl) Tryz.underlying3 }
open Go.RowKit Go.Lib in
theorem Tryz.strings_Index_shaped (s sub : ByteArray) (w : World) (h : w.ShapedOpen Tryz.prog) (hs : s.size < 4294967281) :
    Calls Tryz.prog 100 #[.string s, .string sub] w fun e w' => e = .returned (.int .i64 (Lib.index s.data.toList sub.data.toList)) ∧ w' = w := Any.strings_Index_shaped Tryz.laysM143 s sub w h hs
end Go.Proofs

namespace Go.Proofs.YtlfehjjnepiljaaGreatDoor
open Go.ChangeShapes Go.WideShapes Go.ChangeAt Go.RowKit Go.Joins
open Go.ChangeMaps (open_string shut_string)

theorem own0 : ownKnob Tryz.prog.godebug = none := by kernel_rfl
theorem laidOut : laidOutB Tryz.prog = true := by kernel_rfl
theorem cells45 : Tryz.prog.cellsOf 45 = 7 := by kernel_rfl
theorem cells43 : Tryz.prog.cellsOf 43 = 4 := by kernel_rfl
theorem cells57 : Tryz.prog.cellsOf 57 = 8 := by kernel_rfl
theorem cells55 : Tryz.prog.cellsOf 55 = 1 := by kernel_rfl
theorem cells25 : Tryz.prog.cellsOf 25 = 1 := by kernel_rfl
theorem cells27 : Tryz.prog.cellsOf 27 = 1 := by kernel_rfl
theorem cells3 : Tryz.prog.cellsOf 3 = 1 := by kernel_rfl
theorem cells9 : Tryz.prog.cellsOf 9 = 1 := by kernel_rfl
theorem cells109 : Tryz.prog.cellsOf 109 = 2 := by kernel_rfl

theorem tabD : (Rows.laid_internal_strconv_uint64pow10 : DataW Unit) = Lib.tabData .u64 Lib.pow10Tab := by kernel_rfl
theorem gTab : Tryz.prog.globalNamed "internal/strconv.uint64pow10" = some 4 := by kernel_rfl
theorem gFr : Tryz.prog.globalNamed "puncheon/span.frames" = some 0 := by kernel_rfl
theorem gTabType : (Tryz.prog.globals[4]?).map (·.type) = some 190 := by kernel_rfl
theorem gFrType : (Tryz.prog.globals[0]?).map (·.type) = some 110 := by kernel_rfl
theorem cellsTab : Tryz.prog.cellsOf 190 = 20 := by kernel_rfl
theorem cellsU64 : Tryz.prog.cellsOf 151 = 1 := by kernel_rfl
theorem var_lt {P : Program} {W : World} {n : String} {g : Nat} {cs : Array Value} (hg : P.globalNamed n = some g) (h : W.var? P n = some cs) : g < W.heap.size := by
  unfold World.var? at h
  rw [hg, Option.bind_some] at h
  cases e : W.heap[g]? with
  | none => rw [e] at h; cases h
  | some o => exact (Array.getElem?_eq_some_iff.1 e).1
theorem frame_at {H : Type} {enc : TypeId × Value → H} {W : World} {base fuel : Nat} {hd : Bool} {cs : List Value} {s z : Str} {p : List MemPlace}
    (h : DataW.trod enc Tryz.prog W base (fun _ => true) hd fuel 109 cs = some (.agg [.lit (.string s), .lit (.string z)], p)) : cs[0]? = some (.string (ofB s)) ∧ cs[1]? = some (.string (ofB z)) := by
  obtain ⟨y0, y1, n, hx, hl, t0, t1⟩ := trod_struct2 Tryz.underlying109 h
  rw [cells9] at t0 t1
  obtain ⟨s0, e0, hy0, _⟩ := DataW.trod_string Tryz.underlying9 t0
  obtain ⟨s1, e1, hy1, _⟩ := DataW.trod_string Tryz.underlying9 t1
  rw [hy0, hy1] at hx
  simp at hx
  obtain ⟨⟨hs, hz⟩, _⟩ := hx
  have f0 : cs[0]? = some (.string s0) := by
    have := congrArg (·[0]?) e0
    simpa [List.getElem?_take, List.getElem?_drop] using this
  have f1 : cs[1]? = some (.string s1) := by
    have := congrArg (·[0]?) e1
    simpa [List.getElem?_take, List.getElem?_drop] using this
  exact ⟨by rw [f0, hs]; rfl, by rw [f1, hz]; rfl⟩
theorem frames_read {H : Type} {enc : TypeId × Value → H} {W : World} {base fuel : Nat} {hd : Bool} {cs : List Value} {p : List MemPlace}
    (h : DataW.trod enc Tryz.prog W base (fun _ => true) hd fuel 110 cs = some (Rows.laid_puncheon_span_frames, p)) : ∀ k : Nat, k < 8 → cs[k * 2]? = some (.string (ofB (aheadL k))) ∧ cs[k * 2 + 1]? = some (.string (ofB (behindL k))) := by
  obtain ⟨xs, m, _, hx, hl, hn, hi⟩ := DataW.trod_array Tryz.underlying110 h
  rw [cells109] at hi
  have hxs : xs.map (·.1) = [.agg [.lit (.string []), .lit (.string [])], .agg [.lit (.string [61]), .lit (.string [])], .agg [.lit (.string [33, 61]), .lit (.string [])], .agg [.lit (.string [62, 61]), .lit (.string [])], .agg [.lit (.string [62]), .lit (.string [])], .agg [.lit (.string [60, 61]), .lit (.string [])], .agg [.lit (.string [60]), .lit (.string [])], .agg [.lit (.string []), .lit (.string [46, 42])]] := by
    have := congrArg Prod.fst hx
    simp only [Rows.laid_puncheon_span_frames] at this
    injection this with this
    exact this.symm
  intro k hk
  have key : (xs.map (·.1))[k]? = some (.agg [.lit (.string (aheadL k)), .lit (.string (behindL k))]) := by
    rw [hxs]
    rcases (by omega : k = 0 ∨ k = 1 ∨ k = 2 ∨ k = 3 ∨ k = 4 ∨ k = 5 ∨ k = 6 ∨ k = 7) with rfl | rfl | rfl | rfl | rfl | rfl | rfl | rfl <;> rfl
  rw [List.getElem?_map] at key
  obtain ⟨y, hy, he⟩ := Option.map_eq_some_iff.1 key
  have h1 := hi k hk
  rw [hy] at h1
  obtain ⟨y1, y2⟩ := y
  simp only at he
  subst he
  obtain ⟨r0, r1⟩ := frame_at h1
  refine ⟨?_, ?_⟩
  · simpa [List.getElem?_take, List.getElem?_drop] using r0
  · simpa [List.getElem?_take, List.getElem?_drop] using r1
/-- WHAT THE ROWS' LIST GIVES, and the shape of the first world. -/
theorem tabs {W : World} (h : laidMetH Tryz.prog Rows.spanBackRow.laid W) (hsh : W.ShapedOpen Tryz.prog) : Tabs W := by
  obtain ⟨ps, ⟨g0, t0, cs0, f0, p0, q0, _, _, _, _, ⟨g1, t1, cs1, f1, p1, q1, _, _, _, _, ⟨g2, t2, cs2, f2, p2, q2, hg2, ht2, hv2, hd2, ⟨g3, t3, cs3, f3, p3, q3, _, _, _, _, ⟨g4, t4, cs4, f4, p4, q4, hg4, ht4, hv4, hd4, _, _⟩, _⟩, _⟩, _⟩, _⟩, _⟩ := h
  obtain rfl := Option.some.inj (gTab.symm.trans hg2)
  obtain rfl := Option.some.inj (gTabType.symm.trans ht2)
  obtain rfl := Option.some.inj (gFr.symm.trans hg4)
  obtain rfl := Option.some.inj (gFrType.symm.trans ht4)
  have l4 := var_lt gTab hv2
  refine ⟨⟨by omega, fun k hk => ?_⟩, ?_, Tryz.laysM143.s1_3 W hsh, by omega⟩
  · have e : ∀ i, W.cell? ⟨0, i, none⟩ = cs4[i]? := fun i => World.var?_cell gFr hv4 i
    obtain ⟨r0, r1⟩ := frames_read hd4 k hk
    rw [e, e]
    exact ⟨by rw [← Array.getElem?_toList]; exact r0, by rw [← Array.getElem?_toList]; exact r1⟩
  · unfold TabW Lib.TabIs
    rw [tabD] at hd2
    rw [hv2, ← Lib.cells_of_tab Tryz.underlying190 Tryz.underlying151 cellsU64 cellsTab hd2]

theorem reach_size (s : ByteArray) (h : s.data.toList.length ≤ reachBytes) : s.size ≤ 140737488355328 := by
  have h2 := reachBytes_lt
  have e1 : s.data.toList.length = s.size := rfl
  have e3 : (2 : Nat) ^ 47 = 140737488355328 := by decide
  omega
theorem list4 {α : Type} {l : List α} (h : l.length = 4) : ∃ a b c d, l = [a, b, c, d] := by
  match l, h with
  | [a, b, c, d], _ => exact ⟨a, b, c, d, rfl⟩
theorem list7 {α : Type} {l : List α} (h : l.length = 7) : ∃ a b c d e f g, l = [a, b, c, d, e, f, g] := by
  match l, h with
  | [a, b, c, d, e, f, g], _ => exact ⟨a, b, c, d, e, f, g, rfl⟩
theorem ints_of {H : Type} {enc : TypeId × Value → H} {W : World} {base fuel : Nat} {hd : Bool} {cs : List Value} {x : DataW H × List MemPlace} (h : DataW.trod enc Tryz.prog W base (fun _ => true) hd fuel 43 cs = some x) :
    ∃ a b c d : Int, cs = [.int .i64 a, .int .i64 b, .int .i64 c, .int .i64 d] := by
  obtain ⟨xs, m, _, _, hl, hx, hi⟩ := DataW.trod_array Tryz.underlying43 h
  rw [cells43] at hl
  have one : ∀ i, i < 4 → ∃ n : Int, (cs.drop i).take 1 = [.int .i64 n] := fun i h4 => by
    have h1 := hi i h4
    rw [cells3, List.getElem?_eq_getElem (by omega), Nat.mul_one] at h1
    obtain ⟨n, e, _, _⟩ := DataW.trod_int Tryz.underlying3 h1
    exact ⟨n, e⟩
  obtain ⟨a, ha⟩ := one 0 (by omega)
  obtain ⟨b, hb⟩ := one 1 (by omega)
  obtain ⟨c, hc⟩ := one 2 (by omega)
  obtain ⟨d, hd⟩ := one 3 (by omega)
  obtain ⟨q0, q1, q2, q3, rfl⟩ := list4 hl
  simp at ha hb hc hd
  exact ⟨a, b, c, d, by rw [ha, hb, hc, hd]⟩
set_option maxRecDepth 100000 in
theorem ver_of {H : Type} {enc : TypeId × Value → H} {W : World} {base fuel : Nat} {hd : Bool} {cs : List Value} {x : DataW H × List MemPlace} (h : DataW.trod enc Tryz.prog W base (fun _ => true) hd fuel 45 cs = some x) :
    ∃ v : Ver, cs = v.cells := by
  obtain ⟨y0, y1, y2, y3, n, _, hl, t0, t1, t2, t3⟩ := trod_struct4 Tryz.underlying45 h
  rw [cells45] at hl
  rw [cells43] at t0
  rw [cells3] at t1 t3
  rw [cells9] at t2
  obtain ⟨a, b, c, d, e0⟩ := ints_of t0
  obtain ⟨m, e1, _, _⟩ := DataW.trod_int Tryz.underlying3 t1
  obtain ⟨s, e2, _, _⟩ := DataW.trod_string Tryz.underlying9 t2
  obtain ⟨k, e3, _, _⟩ := DataW.trod_int Tryz.underlying3 t3
  obtain ⟨q0, q1, q2, q3, q4, q5, q6, rfl⟩ := list7 hl
  simp at e0 e1 e2 e3
  obtain ⟨r0, r1, r2, r3⟩ := e0
  exact ⟨⟨a, b, c, d, m, s, k⟩, by rw [r0, r1, r2, r3, e1, e2, e3]; rfl⟩
set_option maxRecDepth 100000 in
theorem bd_of {H : Type} {enc : TypeId × Value → H} {W : World} {base fuel : Nat} {hd : Bool} {cs : List Value} {x : DataW H × List MemPlace} (h : DataW.trod enc Tryz.prog W base (fun _ => true) hd fuel 57 cs = some x) :
    ∃ b : Bd, cs = b.cells := by
  obtain ⟨y0, y1, n, _, hl, t0, t1⟩ := trod_struct2 Tryz.underlying57 h
  rw [cells57] at hl
  rw [cells3] at t0
  rw [cells45] at t1
  obtain ⟨k, e0, _, _⟩ := DataW.trod_int Tryz.underlying3 t0
  obtain ⟨v, e1⟩ := ver_of t1
  refine ⟨⟨k, v⟩, ?_⟩
  have h0 : cs.take 1 = [.int .i64 k] := by simpa using e0
  have h1 : cs.drop 1 = v.cells := by
    have : (cs.drop 1).take 7 = v.cells := by simpa using e1
    rw [List.take_of_length_le (by rw [List.length_drop]; omega)] at this
    exact this
  rw [← List.take_append_drop 1 cs, h0, h1]
  rfl
theorem addr_add (g o j : Nat) : (⟨g, o, none⟩ : Addr).add j = ⟨g, o + j, none⟩ := add_to g o j
set_option maxRecDepth 100000 in
/-- An argument that is a slice of bounds. -/
theorem argB_of {H : Type} {enc : TypeId × Value → H} {W : World} {base fuel : Nat} {hd : Bool} {v : Value} {d : DataW H} {p : List MemPlace}
    (hf : DataW.trod enc Tryz.prog W base (fun _ => true) hd fuel 55 [v] = some (d, p)) (hlt : ∀ x ∈ p, x.block < W.heap.size) : ∃ l, RdB W v l := by
  rcases Go.Deep.open_slice Tryz.underlying55 hf with ⟨hcs, _⟩ | ⟨a, len, cap, m, n, D, Pl, hcs, _, hl, hm, hmm, hx, hi⟩
  · simp at hcs
    subst hcs
    exact ⟨[], RdF.nil W⟩
  · simp at hcs
    subst hcs
    simp only [if_true] at hmm
    subst hmm
    simp only [Prod.mk.injEq] at hx
    obtain ⟨_, rfl⟩ := hx
    have key : ∀ i : Nat, ∃ b : Bd, i < m → ∀ (j : Nat), j < 8 → W.cell? ((a.add (i * 8)).add j) = b.cells[j]? := by
      intro i
      by_cases him : i < m
      · obtain ⟨cs', hc, ht⟩ := hi i him
        rw [cells57] at hc
        obtain ⟨_, hcl, hat⟩ := World.cells?_some hc
        obtain ⟨b, rfl⟩ := bd_of ht
        exact ⟨b, fun _ j hj => hat j (by omega)⟩
      · exact ⟨Bd.zero, fun h => absurd h him⟩
    obtain ⟨F, hF⟩ := Classical.axiomOfChoice key
    refine ⟨(List.range len).map F, some a, m, by simp, by simpa using hl, hm, fun h0 => ?_⟩
    have h0' : 0 < len := by simpa using h0
    obtain ⟨g, o, spot⟩ := a
    have hspot : spot = none := by
      have e := hF 0 (by omega) 0 (by omega)
      have := World.cell?_spot (v := .int .i64 (F 0).kind) (e.trans rfl)
      simpa [Addr.add] using this
    subst hspot
    refine ⟨g, o, rfl, hlt (.cell g o) (List.mem_append_left _ (MemPlace.mem_row.2 ⟨0, by rw [cells57]; omega, by simp⟩)), fun j u hu => ?_⟩
    obtain ⟨q, r, hr, rfl⟩ : ∃ q r, r < 8 ∧ j = q * 8 + r := ⟨j / 8, j % 8, by omega, by omega⟩
    rw [flat8 _ q r hr, List.getElem?_map] at hu
    obtain ⟨b, hb, hbu⟩ := Option.bind_eq_some_iff.1 hu
    obtain ⟨i, hi1, rfl⟩ := Option.map_eq_some_iff.1 hb
    have hql : q < len := by simpa using (List.getElem?_eq_some_iff.1 hi1).1
    have e : i = q := by
      have := (List.getElem?_eq_some_iff.1 hi1).2
      simpa using this.symm
    subst e
    have hk := hF i (by omega) r hr
    rw [addr_add, addr_add, Nat.add_assoc] at hk
    rw [hk]
    exact hbu
set_option maxRecDepth 100000 in
/-- An argument that is a slice of such slices. -/
theorem argR_of {H : Type} {enc : TypeId × Value → H} {W : World} {base fuel : Nat} {hd : Bool} {v : Value} {d : DataW H} {p : List MemPlace}
    (hf : DataW.trod enc Tryz.prog W base (fun _ => true) hd fuel 25 [v] = some (d, p)) (hlt : ∀ x ∈ p, x.block < W.heap.size) : ∃ ls, RdR W v ls := by
  rcases Go.Deep.open_slice1 Tryz.underlying25 cells55 hf with ⟨hcs, _⟩ | ⟨a, len, cap, m, n, V, D, Pl, hcs, _, hl, hm, hmm, hx, hc⟩
  · simp at hcs
    subst hcs
    exact ⟨[], RdR.nil W⟩
  · simp at hcs
    subst hcs
    simp only [if_true] at hmm
    subst hmm
    simp only [Prod.mk.injEq] at hx
    obtain ⟨_, rfl⟩ := hx
    have key : ∀ i : Nat, ∃ l : List Bd, i < m → RdB W (V i) l := by
      intro i
      by_cases him : i < m
      · obtain ⟨l, h⟩ := argB_of (hc i him).2 (fun x hx => hlt x (List.mem_append_right _ (List.mem_flatMap.2 ⟨i, List.mem_range.2 him, hx⟩)))
        exact ⟨l, fun _ => h⟩
      · exact ⟨[], fun h => absurd h him⟩
    obtain ⟨F, hF⟩ := Classical.axiomOfChoice key
    refine ⟨(List.range len).map F, (List.range len).map V, ⟨some a, m, by simp, by simpa using hl, hm, fun h0 => ?_⟩, by simp, fun i v l hv hl2 => ?_⟩
    · have h0' : 0 < len := by simpa using h0
      obtain ⟨g, o, spot⟩ := a
      have hspot : spot = none := by
        have := World.cell?_spot (hc 0 (by omega)).1
        simpa [Addr.add] using this
      subst hspot
      refine ⟨g, o, rfl, hlt (.cell g o) (List.mem_append_left _ (MemPlace.mem_row.2 ⟨0, by omega, by simp⟩)), fun j u hu => ?_⟩
      rw [List.getElem?_map] at hu
      obtain ⟨i, hi1, rfl⟩ := Option.map_eq_some_iff.1 hu
      have hql : j < len := by simpa using (List.getElem?_eq_some_iff.1 hi1).1
      have e : i = j := by
        have := (List.getElem?_eq_some_iff.1 hi1).2
        simpa using this.symm
      subst e
      have := (hc i (by omega)).1
      rwa [addr_add] at this
    · rw [List.getElem?_map] at hv hl2
      obtain ⟨j, hj, rfl⟩ := Option.map_eq_some_iff.1 hv
      obtain ⟨j2, hj2, rfl⟩ := Option.map_eq_some_iff.1 hl2
      rw [hj] at hj2
      cases hj2
      have hql : i < len := by simpa using (List.getElem?_eq_some_iff.1 hj).1
      have e : j = i := by
        have := (List.getElem?_eq_some_iff.1 hj).2
        simpa using this.symm
      subst e
      exact hF j (by omega)
set_option maxRecDepth 100000 in
/-- An argument that is a span. -/
theorem argS_of {H : Type} {enc : TypeId × Value → H} {W : World} {base fuel : Nat} {hd : Bool} {cs : Array Value} {d : DataW H} {p : List MemPlace}
    (hf : DataW.trod enc Tryz.prog W base (fun _ => true) hd fuel 27 cs.toList = some (d, p)) (hlt : ∀ x ∈ p, x.block < W.heap.size) : ∃ x ls, cs = #[x] ∧ RdR W x ls := by
  obtain ⟨y0, n, hx, hl, t0⟩ := trod_struct1 Tryz.underlying27 hf
  rw [cells27] at hl
  rw [cells25] at t0
  obtain ⟨x, hcx⟩ : ∃ x, cs.toList = [x] := by
    match h : cs.toList, hl with
    | [x], _ => exact ⟨x, rfl⟩
  rw [hcx] at t0
  simp at t0
  simp only [Prod.mk.injEq] at hx
  obtain ⟨_, rfl⟩ := hx
  obtain ⟨ls, h⟩ := argR_of (d := y0.1) (p := y0.2) t0 hlt
  exact ⟨x, ls, Array.ext' hcx, h⟩
set_option maxRecDepth 100000 in
theorem okWide_span {r : Reach} {W : World} {b0 : Nat} {v : Value} (h : Value.okWide Tryz.prog W r b0 27 v) : ∃ cs : Array Value, v = .agg cs := by
  simp only [Value.okWide, Tryz.underlying27] at h
  obtain ⟨cs, h1, _⟩ := h
  exact ⟨cs, h1⟩

/-- The cells of a plain table's datum. -/
def litV : DataW Unit → Value
  | .lit (.int k z) => .int k z
  | .lit (.string s) => .string (ofB s)
  | _ => .nilFunc
def rowV : DataW Unit → List Value
  | .agg l => l.map litV
  | d => [litV d]
def tabV : DataW Unit → List Value
  | .agg l => l.flatMap rowV
  | _ => []
/-- A WORLD FOR THE WITNESSES: the settled one, the tables laid into their variables. -/
noncomputable def laidWorld (os : Os) : World :=
  let w0 := World.holding Tryz.prog os ⟨#[], #[], []⟩
  let put (h : Array Obj) (g : Nat) (cs : List Value) : Array Obj := h.modify g fun
    | .cells _ t frozen => .cells cs.toArray t frozen
    | o => o
  { w0 with heap := put (put (put (put (put (put w0.heap 4 (tabV Rows.laid_internal_strconv_uint64pow10)) 2 (Lib.firstTab.map fun z => Value.int .u8 z)) 3 (tabV Rows.laid_unicode_utf8_acceptRanges)) 5 (tabV Rows.laid_math_bits_deBruijn32tab)) 6 (tabV Rows.laid_math_bits_deBruijn64tab)) 0 (tabV Rows.laid_puncheon_span_frames) }
theorem laid_met (os : Os) (args : Array Value) : laidMet Tryz.prog Rows.spanBackRow.laid ((laidWorld os).forCall (fun _ _ => 0) ⟨#[], args, []⟩).memory :=
  laidMet_of_run' 8 (by kernel_rfl) (by kernel_rfl)
noncomputable abbrev zeroSpan : Value := .agg #[.slice none 0 0]
abbrev zeroSpanD {H : Type} : DataW H := .agg [.nil]
end Go.Proofs.YtlfehjjnepiljaaGreatDoor

namespace Go.Proofs.YtlfehjjnepiljaaGreatDoor
open Go.RowKit Go.Shelf

set_option maxRecDepth 100000 in
set_option maxHeartbeats 2000000 in
theorem cloneB_any (l : List Bd) (x : Value) (w : World) (hx : RdB w x l) (hl : l.length ≤ 1000000) :
    Calls Tryz.prog 33 #[x] w fun e w' => ∃ x', e = .returned x' ∧ w'.ownsRow w.heap.size 57 8 x' l.length (flatB l) ∧ Below w.heap.size w w' := by
  obtain ⟨a, cap, rfl, hlc, hcm, hcell⟩ := id hx
  obtain ⟨i0, hi, hz0, hz1, hz2⟩ := info_parts info57z
  have q33 : ∀ (w : World) (a : Option Addr) (n c n' c' : Nat), (binOp .eql 55 (.slice a n c) (.slice none n' c')).run Tryz.prog w = .ok (.bool a.isNone) w := fun w a n c n' c' => Lib.run_eql_slice_nil w _ _ a n c n' c' Tryz.underlying55
  cases a with
  | none =>
    have h0 : l.length = 0 := by
      rcases Nat.eq_zero_or_pos l.length with h | h
      · exact h
      · obtain ⟨g, o, e, _⟩ := hcell h; cases e
    have : l = [] := List.eq_nil_of_length_eq_zero h0
    subst this
    clear hcell hx
    go_enter Tryz.func33, Tryz.ntmps33
    go_wp2
    go_ret
    exact ⟨_, rfl, World.ownsRow_nil _ _ _ _, Below.refl _ _⟩
  | some ad =>
    have hnews : ∀ (j : Nat) (u : Value), (flatB l)[j]? = some u → (w.alloc (.cells #[] 57)).cell? (ad.add j) = some u := fun j u hu => by
      have h0 : 0 < l.length := by
        have := (List.getElem?_eq_some_iff.1 hu).1
        rw [flatB_len] at this
        omega
      obtain ⟨g, o, e, hg, hc⟩ := hcell h0
      cases e
      rw [add_to]
      exact Lib.cell?_alloc_some _ (hc j u hu)
    obtain ⟨n, hn⟩ : ∃ n, n = l.length := ⟨_, rfl⟩
    have hfl := flatB_len l
    rw [← hn] at hfl hl hlc
    rw [← hn]
    have HFL := Lib.hid hfl
    have HNW := Lib.hid hnews
    clear hcell hx hn hfl hnews
    go_enter Tryz.func33, Tryz.ntmps33
    go_wp2_with (at_builtin; refine wpList_append_own _ rfl _ _ 55 rfl w.heap.size 57 i0 (.agg Bd.zero.arr) 8 72 Tryz.underlying55 hi hz0 hz1 hz2 rfl (by decide) _ _ _ rfl (World.ownsRow_made w #[] 0 (Nat.le_refl _) (Nat.zero_le _) rfl) ad n cap (flatB l) rfl HFL.out HNW.out (flatB_one l) (by unfold maxLen; omega) (by omega) (by simp) ?_)
    intro v' w1 hown hgrow _
    go_wp2
    go_ret
    refine ⟨v', rfl, by simpa using hown, ?_⟩
    exact ((Below.refl _ w).alloc (Nat.le_refl _) _).grown hgrow (by simp) (by intro k hk; simp [Value.ownBlock] at hk; omega)

theorem rdB_take {w : World} {a : Option Addr} {n c : Nat} {l : List Bd} (hn : n = l.length) (h : RdB w (.slice a n c) l) (q : Nat) (hq : q ≤ n) : RdB w (.slice a q c) (l.take q) := by
  obtain ⟨a', c', e, h1, h2, h3⟩ := h
  cases e
  have el : (l.take q).length = q := by rw [List.length_take]; omega
  unfold RdB
  rw [el]
  refine ⟨a, c, rfl, by omega, h2, fun h0 => ?_⟩
  obtain ⟨g, o, e, hg, hc⟩ := h3 (by omega)
  refine ⟨g, o, e, hg, fun j u hj => hc j u ?_⟩
  rw [flatB_take] at hj
  rw [List.getElem?_take] at hj
  split at hj
  · exact hj
  · cases hj
def fewR (ls : List (List Bd)) : List (List Bd) := (ls.take 6).map (·.take 6)
theorem fewR_len (ls : List (List Bd)) : (fewR ls).length ≤ 6 := by unfold fewR; simp; omega
theorem few_snoc {ls : List (List Bd)} {k : Nat} {l : List Bd} (hl : ls[k]? = some l) (h6 : k < 6) : fewR (ls.take (k + 1)) = fewR (ls.take k) ++ [l.take 6] := by
  unfold fewR
  rw [List.take_take, List.take_take, Nat.min_eq_right (by omega), Nat.min_eq_right (by omega), List.take_add_one, hl, List.map_append]
  rfl
theorem few_past {ls : List (List Bd)} {k : Nat} (h6 : 6 ≤ k) : fewR (ls.take (k + 1)) = fewR (ls.take k) := by
  unfold fewR
  rw [List.take_take, List.take_take, Nat.min_eq_left (by omega), Nat.min_eq_left (by omega)]
/-- append of one row to rows of the call's own, at a step of a region that draws. -/
theorem wp_append_row {op : Oper} {a : Act} {w : World} {K : Act → World → Prop} {Q : Exit → Act → World → Prop} {ops : Array Oper} (hw : Region.wanted op (yielded ops a.tmps) = true) (s x : Operand)
    (ho : op.op = .call { callee := .builtin .append, args := #[s, x], argTypes := #[25, 25] }) (base : Nat) (v : Value) (ls : List (List Bd)) (l : List Bd) (hs : a.eval s = v) (hown : OwnR w base v ls) (g : Nat) (y : Value) (hx : a.eval x = .slice (some ⟨g, 0, none⟩) 1 1)
    (hy : w.cell? ⟨g, 0, none⟩ = some y) (hyo : w.ownsRow base 57 8 y l.length (flatB l)) (hl : ls.length ≤ 1000) (hb : base ≤ w.heap.size)
    (h : ∀ v' w', OwnR w' base v' (ls ++ [l]) → w.grownBy w' v.ownBlock → K (a.put op.dst v') w') : if Region.wanted op (yielded ops a.tmps) = true then op.wp Tryz.prog a w K Q else K (a.put op.dst undef) w := by
  rw [if_pos hw]
  obtain ⟨i0, hi, hz0, hz1, hz2⟩ := info_parts info55z
  obtain ⟨us, hu1, hu2, hu4, hu3⟩ := id hown
  have y1 : y.oneCell' = true := by
    obtain ⟨a', c', rfl⟩ := ownF_form hyo
    rfl
  obtain ⟨v', w', hr, h2, h3, _⟩ := run_append_own_at (P := Tryz.prog) w base 25 op.type 55 i0 (.slice none 0 0) 1 24 Tryz.underlying25 hi hz0 hz1 hz2 rfl (by decide) v us.length us hu1 ⟨g, 0, none⟩ 1 1 [y] rfl (fun j u hu => by
    have hj : j = 0 := by
      have := (List.getElem?_eq_some_iff.1 hu).1
      simpa using this
    subst hj
    cases hu
    exact hy) (by simpa using y1) (by unfold maxLen; omega) (by omega) hb
  unfold Oper.wp execOp
  simp only [ho, resolve, invoke, builtin, Sem.run_bind, Sem.run_pure, Result.andThen_ok, List.map_toArray, List.map_cons, List.map_nil, hs, hx, hr]
  refine h v' w' (hown.push hyo h3 us (fun us2 k1 k2 _ => ?_) (by rw [← hu2]; exact h2)) h3
  rw [k2, ← hu2] at k1
  exact own_same hu1 k1

def FewV (ls : List (List Bd)) (w : World) (e : Ending) (w' : World) : Prop := ∃ x, e = .returned (.agg #[x]) ∧ OwnR w' w.heap.size x (fewR ls) ∧ Below w.heap.size w w'

set_option maxRecDepth 100000 in
set_option maxHeartbeats 8000000 in
theorem few_any (ls : List (List Bd)) (x : Value) (w : World) (hx : RdR w x ls) : Calls Tryz.prog 10 #[.agg #[x]] w (FewV ls w) := by
  have HX := Lib.hid hx
  obtain ⟨a, c, rfl, hlc, hcm, hcell⟩ := hx.open
  have HC := Lib.hid hcell
  obtain ⟨n, hn⟩ : ∃ n, n = ls.length := ⟨_, rfl⟩
  rw [← hn] at hlc HC HX ⊢
  have HN := Lib.hid hn
  unfold maxLen at hcm
  have X1 : Box (((w.alloc (.cells #[.slice a n c] 27)).alloc (.cells #[.slice none 0 0] 27)).alloc (.cells #[.slice none 0 0] 27)) w.heap.size 27 #[.slice a n c] := (box_new.alloc _).alloc _
  have X2 : Box (((w.alloc (.cells #[.slice a n c] 27)).alloc (.cells #[.slice none 0 0] 27)).alloc (.cells #[.slice none 0 0] 27)) (w.heap.size + 1) 27 #[.slice none 0 0] := Box.alloc (heap_alloc2_new w _ _) _
  have X3 : Box (((w.alloc (.cells #[.slice a n c] 27)).alloc (.cells #[.slice none 0 0] 27)).alloc (.cells #[.slice none 0 0] 27)) (w.heap.size + 2) 27 #[.slice none 0 0] := by
    have := box_new (w := (w.alloc (.cells #[.slice a n c] 27)).alloc (.cells #[.slice none 0 0] 27)) (t := 27) (cs := #[.slice none 0 0])
    simp only [World.size_alloc] at this
    exact this
  have hB0 : Below w.heap.size w (((w.alloc (.cells #[.slice a n c] 27)).alloc (.cells #[.slice none 0 0] 27)).alloc (.cells #[.slice none 0 0] 27)) := (((Below.refl _ w).alloc (Nat.le_refl _) _).alloc (by simp) _).alloc (by simp; omega) _
  obtain ⟨w1, hw1⟩ : ∃ q, q = ((w.alloc (.cells #[.slice a n c] 27)).alloc (.cells #[.slice none 0 0] 27)).alloc (.cells #[.slice none 0 0] 27) := ⟨_, rfl⟩
  have hs1 : w1.heap.size = w.heap.size + 3 := by rw [hw1]; simp
  rw [← hw1] at X1 X2 X3 hB0
  have c0 : w1.cell? ⟨w.heap.size, 0, none⟩ = some (.slice a n c) := X1.cell rfl
  have HX2 := Lib.hid X2
  have HX3 := Lib.hid X3
  have HB0 := Lib.hid hB0
  have HS1 : Hid (w.heap.size + 3 ≤ w1.heap.size) := Lib.hid (by omega)
  clear hn hcell hx X1 X2 X3 hB0 hs1
  go_enter Tryz.func10, Tryz.ntmps10
  go_upto_region 2 with fail
  rw [← hw1]
  clear hw1
  go_wp2_with fail
  go_loopw [4, 5, 9, 10, 11, 12, 13, 14, 15, 16, 17, 18, 19, 20, 21, 22, 23, 24, 25, 26, 27] (fun _ _ i _ _ _ _ _ _ _ _ _ _ _ _ _ _ _ _ _ _ W => ∃ (k : Nat) (y : Value), k ≤ n ∧ i = .int .i64 k ∧ Hid (OwnR W (w.heap.size + 3) y (fewR (ls.take k))) ∧ Hid (Box W (w.heap.size + 2) 27 #[y]) ∧ Hid (Box W (w.heap.size + 1) 27 #[.slice none 0 0]) ∧ Hid (Below w.heap.size w W)) (fun _ _ i _ _ _ _ _ _ _ _ _ _ _ _ _ _ _ _ _ _ _ => n - (Lib.intOf i).toNat)
  case atStart => exact ⟨0, .slice none 0 0, Nat.zero_le _, rfl, Lib.hid (OwnR.nil _ _), HX3, HX2, HB0⟩
  case round =>
    clear c0 HX2 HX3 HB0 HS1
    obtain ⟨k, y, hk, rfl, RO, XB, RV, HB⟩ := hrel
    obtain ⟨wq, hwq⟩ : ∃ q, q = wr := ⟨_, rfl⟩
    rw [← hwq] at HB RO XB RV ⊢
    clear hwq
    have HS0 : Hid (w.heap.size + 3 ≤ wq.heap.size) := Lib.hid (by have := XB.out.lt; omega)
    by_cases hlt : k < n
    · obtain ⟨l, hl⟩ : ∃ v, ls[k]? = some v := ⟨_, List.getElem?_eq_getElem (by have := HN.out; omega)⟩
      obtain ⟨g, o, rfl, hg, hc⟩ := HC.out (by omega)
      obtain ⟨v, hv, hr⟩ := hc k l hl
      have r0 := (HB.out.cell (p := ⟨g, _, none⟩) hg).trans hv
      obtain ⟨a2, c2, rfl, hlc2, hcm2, _⟩ := hr.open
      obtain ⟨m, hm⟩ : ∃ m, m = l.length := ⟨_, rfl⟩
      rw [← hm] at hlc2 r0 hr
      unfold maxLen at hcm2
      have HM := Lib.hid hm
      have HL := Lib.hid hl
      have HRB := Lib.hid hr
      have k1 : (k : Int) < (n : Int) := by omega
      have k2 : (0 : Int) ≤ (k : Int) := by omega
      have k4 : IntKind.i64.wrap ((k : Int) + 1) = (k : Int) + 1 := IntWalk.i64_in _ (by omega)
      clear hm hl hr hc hv
      by_cases h6 : k < 6
      · have t6 : decide ((k : Int) < 6) = true := decide_eq_true (by omega)
        obtain ⟨ay, cy, rfl⟩ := RO.out.form
        obtain ⟨m9, hm9⟩ : ∃ t, t = (fewR (ls.take k)).length := ⟨_, rfl⟩
        rw [← hm9] at RO XB
        obtain ⟨q, hq⟩ : ∃ q, q = min m 6 := ⟨_, rfl⟩
        have m1 : (0 : Int) ≤ (q : Int) := by omega
        have m2 : (q : Int) ≤ (m : Int) := by omega
        have m3 : min (m : Int) 6 = (q : Int) := by omega
        have m4 : (q : Int) ≤ (c2 : Int) := by omega
        have hqm : q ≤ m := by omega
        have hq6 : q ≤ 6 := by omega
        have HQ : Hid (l.take 6 = l.take q) := Lib.hid (by
          rw [hq]
          by_cases h : m ≤ 6
          · rw [Nat.min_eq_left h, List.take_of_length_le (by have := HM.out; omega), List.take_of_length_le (by have := HM.out; omega)]
          · rw [Nat.min_eq_right (by omega)])
        obtain ⟨lq, hlq⟩ : ∃ t, t = l.take q := ⟨_, rfl⟩
        rw [← hlq] at HQ
        have HLQ := Lib.hid hlq
        clear hq hm9 hlq
        go_wp2_with fail
        go_upto_region 6 with fail
        obtain ⟨WD, hWD⟩ : ∃ q, q = World.drew wq := ⟨_, rfl⟩
        have RO : Hid (OwnR WD (w.heap.size + 3) (.slice ay m9 cy) (fewR (ls.take k))) := Lib.hid (by rw [hWD]; exact RO.out)
        have XB : Hid (Box WD (w.heap.size + 2) 27 #[.slice ay m9 cy]) := Lib.hid (by rw [hWD]; exact XB.out)
        have RV : Hid (Box WD (w.heap.size + 1) 27 #[.slice none 0 0]) := Lib.hid (by rw [hWD]; exact RV.out)
        have HBD : Hid (Below w.heap.size w WD) := Lib.hid (by rw [hWD]; exact HB.out.drew)
        have HS0 : Hid (w.heap.size + 3 ≤ WD.heap.size) := Lib.hid (by rw [hWD]; exact HS0.out)
        refine wp_region_held_drew (S := fun w' => Below w.heap.size w w') (by kernel_rfl) HB.out.drew (fun hHeld => ?_)
        rw [← hWD] at hHeld ⊢
        clear hWD HB r0
        refine wpAnyH_take (i := 0) (oi := { dst := some 16, op := Op.fieldAddr 27 (Operand.tmp 3) 0, type := 0, pos := "law.go:29", after := #[], guard := none }) (v := ?_) rfl (by kernel_rfl) (by kernel_rfl) (by kernel_rfl) (fun _ _ _ h => h) (Or.inl ⟨by rfl, ?_⟩) hHeld ?_
        rotate_left
        · (intro w hSw; go_simp; try with_reducible rfl)
        (try simp only [Act.put, List.setIfInBounds_toArray, List.set_cons_zero, List.set_cons_succ])
        refine wpAnyH_take (i := 2) (oi := { dst := some 18, op := Op.move (Operand.tmp 5), type := 55, pos := "law.go:29", after := #[], guard := none }) (v := ?_) rfl (by kernel_rfl) (by kernel_rfl) (by kernel_rfl) (fun _ _ _ h => h) (Or.inl ⟨by rfl, ?_⟩) hHeld ?_
        rotate_left
        · (intro w hSw; go_simp; try with_reducible rfl)
        (try simp only [Act.put, List.setIfInBounds_toArray, List.set_cons_zero, List.set_cons_succ])
        refine wpAnyH_take (i := 3) (oi := { dst := some 19, op := Op.move (Operand.tmp 5), type := 55, pos := "law.go:29", after := #[], guard := none }) (v := ?_) rfl (by kernel_rfl) (by kernel_rfl) (by kernel_rfl) (fun _ _ _ h => h) (Or.inl ⟨by rfl, ?_⟩) hHeld ?_
        rotate_left
        · (intro w hSw; go_simp; try with_reducible rfl)
        (try simp only [Act.put, List.setIfInBounds_toArray, List.set_cons_zero, List.set_cons_succ])
        refine wpAnyH_take (i := 4) (oi := { dst := some 20, op := Op.call { callee := Callee.builtin Builtin.len, args := #[Operand.tmp 19], argTypes := #[55] }, type := 3, pos := "law.go:29", after := #[{ on := 3, ground := Ground.data }], guard := none }) (v := ?_) rfl (by kernel_rfl) (by kernel_rfl) (by kernel_rfl) (fun _ _ _ h => h) (Or.inl ⟨by rfl, ?_⟩) hHeld ?_
        rotate_left
        · (intro w hSw; go_simp; try with_reducible rfl)
        (try simp only [Act.put, List.setIfInBounds_toArray, List.set_cons_zero, List.set_cons_succ])
        refine wpAnyH_take (i := 5) (oi := { dst := some 21, op := Op.call { callee := Callee.builtin Builtin.min, args := #[Operand.tmp 20, Operand.const (Value.int IntKind.i64 6)], argTypes := #[3, 3] }, type := 3, pos := "law.go:29", after := #[{ on := 4, ground := Ground.data }], guard := none }) (v := ?_) rfl (by kernel_rfl) (by kernel_rfl) (by kernel_rfl) (fun _ _ _ h => h) (Or.inl ⟨by rfl, ?_⟩) hHeld ?_
        rotate_left
        · (intro w hSw; go_simp; try with_reducible rfl)
        (try simp only [Act.put, List.setIfInBounds_toArray, List.set_cons_zero, List.set_cons_succ])
        refine wpAnyH_take (i := 6) (oi := { dst := some 22, op := Op.slice 55 (Operand.tmp 18) none (some (Operand.tmp 21)) none, type := 55, pos := "law.go:29", after := #[{ on := 2, ground := Ground.data }, { on := 5, ground := Ground.data }], guard := none }) (v := ?_) rfl (by kernel_rfl) (by kernel_rfl) (by kernel_rfl) (fun _ _ _ h => h) (Or.inl ⟨by rfl, ?_⟩) hHeld ?_
        rotate_left
        · (intro w hSw; go_simp; try with_reducible rfl)
        (try simp only [Act.put, List.setIfInBounds_toArray, List.set_cons_zero, List.set_cons_succ])
        refine wpAnyH_ready (rs := [1, 7]) (by kernel_rfl) (by simp) (AllReadyH.cons (o := { dst := some 17, op := Op.load 25 (Operand.tmp 16), type := 25, pos := "law.go:29", after := #[{ on := 0, ground := Ground.data }], guard := none }) rfl (fun K hK => ?_) (AllReadyH.cons (o := { dst := some 23, op := Op.call { callee := Callee.value (Operand.func 33), args := #[Operand.tmp 22], argTypes := #[55] }, type := 55, pos := "law.go:29", after := #[{ on := 6, ground := Ground.data }], guard := none }) rfl (fun K hK => ?_) AllReadyH.nil))
        · have p0 := XB.out.cell (k := 0) rfl
          go_simp
          refine hK.out _ _ hHeld (fun hHeld => ?_)
          clear p0
          (try simp only [Act.put, List.setIfInBounds_toArray, List.set_cons_zero, List.set_cons_succ])
          refine wpAnyH_ready (rs := [7]) (by kernel_rfl) (by simp) (AllReadyH.cons (o := { dst := some 23, op := Op.call { callee := Callee.value (Operand.func 33), args := #[Operand.tmp 22], argTypes := #[55] }, type := 55, pos := "law.go:29", after := #[{ on := 6, ground := Ground.data }], guard := none }) rfl (fun K hK => ?_) AllReadyH.nil)
          · go_simp
            refine (cloneB_any lq _ _ (by rw [HLQ.out]; exact rdB_take HM.out (HRB.out.on HBD.out) q hqm) (by rw [HLQ.out]; simp; omega)).mono ?_
            rintro e wa ⟨y1, rfl, hown1, hba⟩
            obtain ⟨a5, c5, rfl⟩ := ownF_form hown1
            have HY1 := Lib.hid hown1
            have XB := Lib.hid (XB.out.on hba)
            have RO := Lib.hid (RO.out.on hba)
            have RV := Lib.hid (RV.out.on hba)
            have HSA := Lib.hid (Nat.le_trans HS0.out hba.size)
            refine hK.out _ _ (bch hHeld hba) (fun hHeld => ?_)
            clear hown1 hba
            (try simp only [Act.put, List.setIfInBounds_toArray, List.set_cons_zero, List.set_cons_succ])
            refine wpAnyH_ready (rs := [8]) (by kernel_rfl) (by simp) (AllReadyH.cons (o := { dst := some 24, op := Op.buildSlice 25 1 #[(0, Operand.tmp 23)], type := 25, pos := "law.go:29", after := #[{ on := 7, ground := Ground.data }], guard := none }) rfl (fun K hK => ?_) AllReadyH.nil)
            · go_simp
              have XB := Lib.hid (XB.out.alloc (.cells #[.slice a5 lq.length c5] 55))
              have RO := Lib.hid (RO.out.on (below_new wa (.cells #[.slice a5 lq.length c5] 55)))
              have RV := Lib.hid (RV.out.alloc (.cells #[.slice a5 lq.length c5] 55))
              have HY1 := Lib.hid (owns_below HY1.out (below_new wa (.cells #[.slice a5 lq.length c5] 55)))
              refine hK.out _ _ (hHeld.alloc hHeld.size _) (fun hHeld => ?_)
              (try simp only [Act.put, List.setIfInBounds_toArray, List.set_cons_zero, List.set_cons_succ])
              refine wpAnyH_ready (rs := [9]) (by kernel_rfl) (by simp) (AllReadyH.cons (o := { dst := some 25, op := Op.call { callee := Callee.builtin Builtin.append, args := #[Operand.tmp 17, Operand.tmp 24], argTypes := #[25, 25] }, type := 25, pos := "law.go:29", after := #[{ on := 1, ground := Ground.data }, { on := 8, ground := Ground.data }, { on := 7, ground := Ground.chain }], guard := none }) rfl (fun K hK => ?_) AllReadyH.nil)
              · refine wp_append_row (by rfl) (.tmp 17) (.tmp 24) rfl (w.heap.size + 3) (.slice ay m9 cy) (fewR (ls.take k)) lq rfl RO.out wa.heap.size (.slice a5 lq.length c5) rfl (World.cell?_alloc_new wa _ _ 0) (own_base HY1.out (by have := HS0.out; omega)) (by have := fewR_len (ls.take k); omega) (by have := HSA.out; simp; omega) ?_
                intro v9 w9 own9 grow9
                have lown : ∀ j, (Value.slice ay m9 cy).ownBlock = some j → w.heap.size + 3 ≤ j := fun j e => (RO.out.lt j e).1
                have O9 := Lib.hid own9
                have XB9 : Hid (Box w9 (w.heap.size + 2) 27 #[.slice ay m9 cy]) := Lib.hid ((grow9.block _ XB.out.lt (fun e => by have := lown _ e.symm; omega)).trans XB.out)
                have RV9 : Hid (Box w9 (w.heap.size + 1) 27 #[.slice none 0 0]) := Lib.hid ((grow9.block _ RV.out.lt (fun e => by have := lown _ e.symm; omega)).trans RV.out)
                refine hK.out _ _ (hHeld.grown grow9 hHeld.size (fun j e => by have := lown j e; omega)) (fun hHeld => ?_)
                obtain ⟨a9, c9, h9⟩ := own9.form
                obtain ⟨n9, hn9⟩ : ∃ t, t = (fewR (ls.take k) ++ [lq]).length := ⟨_, rfl⟩
                rw [← hn9] at h9
                subst h9
                clear hn9
                clear grow9 lown own9
                (try simp only [Act.put, List.setIfInBounds_toArray, List.set_cons_zero, List.set_cons_succ])
                refine wpAnyH_take (i := 10) (oi := { dst := some 26, op := Op.fieldAddr 27 (Operand.tmp 3) 0, type := 0, pos := "law.go:29", after := #[{ on := 0, ground := Ground.phase }, { on := 1, ground := Ground.phase }, { on := 2, ground := Ground.phase }, { on := 3, ground := Ground.phase }, { on := 4, ground := Ground.phase }, { on := 5, ground := Ground.phase }, { on := 6, ground := Ground.phase }, { on := 7, ground := Ground.phase }, { on := 8, ground := Ground.phase }, { on := 9, ground := Ground.phase }], guard := none }) (v := ?_) rfl (by kernel_rfl) (by kernel_rfl) (by kernel_rfl) (fun _ _ _ h => h) (Or.inl ⟨by rfl, ?_⟩) hHeld ?_
                rotate_left
                · (intro w hSw; go_simp; try with_reducible rfl)
                (try simp only [Act.put, List.setIfInBounds_toArray, List.set_cons_zero, List.set_cons_succ])
                refine wpAnyH_ready (rs := [11]) (by kernel_rfl) (by simp) (AllReadyH.cons (o := { dst := none, op := Op.store 25 (Operand.tmp 26) (Operand.tmp 25), type := 0, pos := "law.go:29", after := #[{ on := 10, ground := Ground.data }, { on := 9, ground := Ground.data }, { on := 9, ground := Ground.chain }, { on := 0, ground := Ground.phase }, { on := 1, ground := Ground.phase }, { on := 2, ground := Ground.phase }, { on := 3, ground := Ground.phase }, { on := 4, ground := Ground.phase }, { on := 5, ground := Ground.phase }, { on := 6, ground := Ground.phase }, { on := 7, ground := Ground.phase }, { on := 8, ground := Ground.phase }, { on := 9, ground := Ground.phase }], guard := none }) rfl (fun K hK => ?_) AllReadyH.nil)
                · have p0 := XB9.out.cell (k := 0) rfl
                  have f0 := frozen_of_row w9 _ 0 _ _ XB9.out
                  go_simp
                  refine hK.out _ _ (hHeld.setCell (p := ⟨w.heap.size + 2, 0, none⟩) (by show w.heap.size ≤ w.heap.size + 2; omega) _) (fun hHeld => ?_)
                  clear p0 f0
                  (try simp only [Act.put, List.setIfInBounds_toArray, List.set_cons_zero, List.set_cons_succ])
                  refine wpAnyH_done (by kernel_rfl) ?_ _
                  have HD := Lib.hid hHeld
                  clear hHeld
                  go_wp2_with fail
                  go_roundw
                  case rel => exact ⟨k + 1, _, hlt, by go_num, Lib.hid (by rw [few_snoc HL.out h6, HQ.out]; exact O9.out.apart (grownBy_setCell' w9 (w.heap.size + 2) _) (fun j e => by cases e; omega)), Lib.hid (XB9.out.set _), Lib.hid (RV9.out.far (by show w.heap.size + 1 ≠ w.heap.size + 2; omega) _), HD⟩
                  case measure => simp [Lib.intOf]; omega
        · go_simp
          refine (cloneB_any lq _ _ (by rw [HLQ.out]; exact rdB_take HM.out (HRB.out.on HBD.out) q hqm) (by rw [HLQ.out]; simp; omega)).mono ?_
          rintro e wa ⟨y1, rfl, hown1, hba⟩
          obtain ⟨a5, c5, rfl⟩ := ownF_form hown1
          have HY1 := Lib.hid hown1
          have XB := Lib.hid (XB.out.on hba)
          have RO := Lib.hid (RO.out.on hba)
          have RV := Lib.hid (RV.out.on hba)
          have HSA := Lib.hid (Nat.le_trans HS0.out hba.size)
          refine hK.out _ _ (bch hHeld hba) (fun hHeld => ?_)
          clear hown1 hba
          (try simp only [Act.put, List.setIfInBounds_toArray, List.set_cons_zero, List.set_cons_succ])
          refine wpAnyH_ready (rs := [1, 8]) (by kernel_rfl) (by simp) (AllReadyH.cons (o := { dst := some 17, op := Op.load 25 (Operand.tmp 16), type := 25, pos := "law.go:29", after := #[{ on := 0, ground := Ground.data }], guard := none }) rfl (fun K hK => ?_) (AllReadyH.cons (o := { dst := some 24, op := Op.buildSlice 25 1 #[(0, Operand.tmp 23)], type := 25, pos := "law.go:29", after := #[{ on := 7, ground := Ground.data }], guard := none }) rfl (fun K hK => ?_) AllReadyH.nil))
          · have p0 := XB.out.cell (k := 0) rfl
            go_simp
            refine hK.out _ _ hHeld (fun hHeld => ?_)
            clear p0
            (try simp only [Act.put, List.setIfInBounds_toArray, List.set_cons_zero, List.set_cons_succ])
            refine wpAnyH_ready (rs := [8]) (by kernel_rfl) (by simp) (AllReadyH.cons (o := { dst := some 24, op := Op.buildSlice 25 1 #[(0, Operand.tmp 23)], type := 25, pos := "law.go:29", after := #[{ on := 7, ground := Ground.data }], guard := none }) rfl (fun K hK => ?_) AllReadyH.nil)
            · go_simp
              have XB := Lib.hid (XB.out.alloc (.cells #[.slice a5 lq.length c5] 55))
              have RO := Lib.hid (RO.out.on (below_new wa (.cells #[.slice a5 lq.length c5] 55)))
              have RV := Lib.hid (RV.out.alloc (.cells #[.slice a5 lq.length c5] 55))
              have HY1 := Lib.hid (owns_below HY1.out (below_new wa (.cells #[.slice a5 lq.length c5] 55)))
              refine hK.out _ _ (hHeld.alloc hHeld.size _) (fun hHeld => ?_)
              (try simp only [Act.put, List.setIfInBounds_toArray, List.set_cons_zero, List.set_cons_succ])
              refine wpAnyH_ready (rs := [9]) (by kernel_rfl) (by simp) (AllReadyH.cons (o := { dst := some 25, op := Op.call { callee := Callee.builtin Builtin.append, args := #[Operand.tmp 17, Operand.tmp 24], argTypes := #[25, 25] }, type := 25, pos := "law.go:29", after := #[{ on := 1, ground := Ground.data }, { on := 8, ground := Ground.data }, { on := 7, ground := Ground.chain }], guard := none }) rfl (fun K hK => ?_) AllReadyH.nil)
              · refine wp_append_row (by rfl) (.tmp 17) (.tmp 24) rfl (w.heap.size + 3) (.slice ay m9 cy) (fewR (ls.take k)) lq rfl RO.out wa.heap.size (.slice a5 lq.length c5) rfl (World.cell?_alloc_new wa _ _ 0) (own_base HY1.out (by have := HS0.out; omega)) (by have := fewR_len (ls.take k); omega) (by have := HSA.out; simp; omega) ?_
                intro v9 w9 own9 grow9
                have lown : ∀ j, (Value.slice ay m9 cy).ownBlock = some j → w.heap.size + 3 ≤ j := fun j e => (RO.out.lt j e).1
                have O9 := Lib.hid own9
                have XB9 : Hid (Box w9 (w.heap.size + 2) 27 #[.slice ay m9 cy]) := Lib.hid ((grow9.block _ XB.out.lt (fun e => by have := lown _ e.symm; omega)).trans XB.out)
                have RV9 : Hid (Box w9 (w.heap.size + 1) 27 #[.slice none 0 0]) := Lib.hid ((grow9.block _ RV.out.lt (fun e => by have := lown _ e.symm; omega)).trans RV.out)
                refine hK.out _ _ (hHeld.grown grow9 hHeld.size (fun j e => by have := lown j e; omega)) (fun hHeld => ?_)
                obtain ⟨a9, c9, h9⟩ := own9.form
                obtain ⟨n9, hn9⟩ : ∃ t, t = (fewR (ls.take k) ++ [lq]).length := ⟨_, rfl⟩
                rw [← hn9] at h9
                subst h9
                clear hn9
                clear grow9 lown own9
                (try simp only [Act.put, List.setIfInBounds_toArray, List.set_cons_zero, List.set_cons_succ])
                refine wpAnyH_take (i := 10) (oi := { dst := some 26, op := Op.fieldAddr 27 (Operand.tmp 3) 0, type := 0, pos := "law.go:29", after := #[{ on := 0, ground := Ground.phase }, { on := 1, ground := Ground.phase }, { on := 2, ground := Ground.phase }, { on := 3, ground := Ground.phase }, { on := 4, ground := Ground.phase }, { on := 5, ground := Ground.phase }, { on := 6, ground := Ground.phase }, { on := 7, ground := Ground.phase }, { on := 8, ground := Ground.phase }, { on := 9, ground := Ground.phase }], guard := none }) (v := ?_) rfl (by kernel_rfl) (by kernel_rfl) (by kernel_rfl) (fun _ _ _ h => h) (Or.inl ⟨by rfl, ?_⟩) hHeld ?_
                rotate_left
                · (intro w hSw; go_simp; try with_reducible rfl)
                (try simp only [Act.put, List.setIfInBounds_toArray, List.set_cons_zero, List.set_cons_succ])
                refine wpAnyH_ready (rs := [11]) (by kernel_rfl) (by simp) (AllReadyH.cons (o := { dst := none, op := Op.store 25 (Operand.tmp 26) (Operand.tmp 25), type := 0, pos := "law.go:29", after := #[{ on := 10, ground := Ground.data }, { on := 9, ground := Ground.data }, { on := 9, ground := Ground.chain }, { on := 0, ground := Ground.phase }, { on := 1, ground := Ground.phase }, { on := 2, ground := Ground.phase }, { on := 3, ground := Ground.phase }, { on := 4, ground := Ground.phase }, { on := 5, ground := Ground.phase }, { on := 6, ground := Ground.phase }, { on := 7, ground := Ground.phase }, { on := 8, ground := Ground.phase }, { on := 9, ground := Ground.phase }], guard := none }) rfl (fun K hK => ?_) AllReadyH.nil)
                · have p0 := XB9.out.cell (k := 0) rfl
                  have f0 := frozen_of_row w9 _ 0 _ _ XB9.out
                  go_simp
                  refine hK.out _ _ (hHeld.setCell (p := ⟨w.heap.size + 2, 0, none⟩) (by show w.heap.size ≤ w.heap.size + 2; omega) _) (fun hHeld => ?_)
                  clear p0 f0
                  (try simp only [Act.put, List.setIfInBounds_toArray, List.set_cons_zero, List.set_cons_succ])
                  refine wpAnyH_done (by kernel_rfl) ?_ _
                  have HD := Lib.hid hHeld
                  clear hHeld
                  go_wp2_with fail
                  go_roundw
                  case rel => exact ⟨k + 1, _, hlt, by go_num, Lib.hid (by rw [few_snoc HL.out h6, HQ.out]; exact O9.out.apart (grownBy_setCell' w9 (w.heap.size + 2) _) (fun j e => by cases e; omega)), Lib.hid (XB9.out.set _), Lib.hid (RV9.out.far (by show w.heap.size + 1 ≠ w.heap.size + 2; omega) _), HD⟩
                  case measure => simp [Lib.intOf]; omega
          · go_simp
            have XB := Lib.hid (XB.out.alloc (.cells #[.slice a5 lq.length c5] 55))
            have RO := Lib.hid (RO.out.on (below_new wa (.cells #[.slice a5 lq.length c5] 55)))
            have RV := Lib.hid (RV.out.alloc (.cells #[.slice a5 lq.length c5] 55))
            have HY1 := Lib.hid (owns_below HY1.out (below_new wa (.cells #[.slice a5 lq.length c5] 55)))
            refine hK.out _ _ (hHeld.alloc hHeld.size _) (fun hHeld => ?_)
            (try simp only [Act.put, List.setIfInBounds_toArray, List.set_cons_zero, List.set_cons_succ])
            refine wpAnyH_ready (rs := [1]) (by kernel_rfl) (by simp) (AllReadyH.cons (o := { dst := some 17, op := Op.load 25 (Operand.tmp 16), type := 25, pos := "law.go:29", after := #[{ on := 0, ground := Ground.data }], guard := none }) rfl (fun K hK => ?_) AllReadyH.nil)
            · have p0 := XB.out.cell (k := 0) rfl
              go_simp
              refine hK.out _ _ hHeld (fun hHeld => ?_)
              clear p0
              (try simp only [Act.put, List.setIfInBounds_toArray, List.set_cons_zero, List.set_cons_succ])
              refine wpAnyH_ready (rs := [9]) (by kernel_rfl) (by simp) (AllReadyH.cons (o := { dst := some 25, op := Op.call { callee := Callee.builtin Builtin.append, args := #[Operand.tmp 17, Operand.tmp 24], argTypes := #[25, 25] }, type := 25, pos := "law.go:29", after := #[{ on := 1, ground := Ground.data }, { on := 8, ground := Ground.data }, { on := 7, ground := Ground.chain }], guard := none }) rfl (fun K hK => ?_) AllReadyH.nil)
              · refine wp_append_row (by rfl) (.tmp 17) (.tmp 24) rfl (w.heap.size + 3) (.slice ay m9 cy) (fewR (ls.take k)) lq rfl RO.out wa.heap.size (.slice a5 lq.length c5) rfl (World.cell?_alloc_new wa _ _ 0) (own_base HY1.out (by have := HS0.out; omega)) (by have := fewR_len (ls.take k); omega) (by have := HSA.out; simp; omega) ?_
                intro v9 w9 own9 grow9
                have lown : ∀ j, (Value.slice ay m9 cy).ownBlock = some j → w.heap.size + 3 ≤ j := fun j e => (RO.out.lt j e).1
                have O9 := Lib.hid own9
                have XB9 : Hid (Box w9 (w.heap.size + 2) 27 #[.slice ay m9 cy]) := Lib.hid ((grow9.block _ XB.out.lt (fun e => by have := lown _ e.symm; omega)).trans XB.out)
                have RV9 : Hid (Box w9 (w.heap.size + 1) 27 #[.slice none 0 0]) := Lib.hid ((grow9.block _ RV.out.lt (fun e => by have := lown _ e.symm; omega)).trans RV.out)
                refine hK.out _ _ (hHeld.grown grow9 hHeld.size (fun j e => by have := lown j e; omega)) (fun hHeld => ?_)
                obtain ⟨a9, c9, h9⟩ := own9.form
                obtain ⟨n9, hn9⟩ : ∃ t, t = (fewR (ls.take k) ++ [lq]).length := ⟨_, rfl⟩
                rw [← hn9] at h9
                subst h9
                clear hn9
                clear grow9 lown own9
                (try simp only [Act.put, List.setIfInBounds_toArray, List.set_cons_zero, List.set_cons_succ])
                refine wpAnyH_take (i := 10) (oi := { dst := some 26, op := Op.fieldAddr 27 (Operand.tmp 3) 0, type := 0, pos := "law.go:29", after := #[{ on := 0, ground := Ground.phase }, { on := 1, ground := Ground.phase }, { on := 2, ground := Ground.phase }, { on := 3, ground := Ground.phase }, { on := 4, ground := Ground.phase }, { on := 5, ground := Ground.phase }, { on := 6, ground := Ground.phase }, { on := 7, ground := Ground.phase }, { on := 8, ground := Ground.phase }, { on := 9, ground := Ground.phase }], guard := none }) (v := ?_) rfl (by kernel_rfl) (by kernel_rfl) (by kernel_rfl) (fun _ _ _ h => h) (Or.inl ⟨by rfl, ?_⟩) hHeld ?_
                rotate_left
                · (intro w hSw; go_simp; try with_reducible rfl)
                (try simp only [Act.put, List.setIfInBounds_toArray, List.set_cons_zero, List.set_cons_succ])
                refine wpAnyH_ready (rs := [11]) (by kernel_rfl) (by simp) (AllReadyH.cons (o := { dst := none, op := Op.store 25 (Operand.tmp 26) (Operand.tmp 25), type := 0, pos := "law.go:29", after := #[{ on := 10, ground := Ground.data }, { on := 9, ground := Ground.data }, { on := 9, ground := Ground.chain }, { on := 0, ground := Ground.phase }, { on := 1, ground := Ground.phase }, { on := 2, ground := Ground.phase }, { on := 3, ground := Ground.phase }, { on := 4, ground := Ground.phase }, { on := 5, ground := Ground.phase }, { on := 6, ground := Ground.phase }, { on := 7, ground := Ground.phase }, { on := 8, ground := Ground.phase }, { on := 9, ground := Ground.phase }], guard := none }) rfl (fun K hK => ?_) AllReadyH.nil)
                · have p0 := XB9.out.cell (k := 0) rfl
                  have f0 := frozen_of_row w9 _ 0 _ _ XB9.out
                  go_simp
                  refine hK.out _ _ (hHeld.setCell (p := ⟨w.heap.size + 2, 0, none⟩) (by show w.heap.size ≤ w.heap.size + 2; omega) _) (fun hHeld => ?_)
                  clear p0 f0
                  (try simp only [Act.put, List.setIfInBounds_toArray, List.set_cons_zero, List.set_cons_succ])
                  refine wpAnyH_done (by kernel_rfl) ?_ _
                  have HD := Lib.hid hHeld
                  clear hHeld
                  go_wp2_with fail
                  go_roundw
                  case rel => exact ⟨k + 1, _, hlt, by go_num, Lib.hid (by rw [few_snoc HL.out h6, HQ.out]; exact O9.out.apart (grownBy_setCell' w9 (w.heap.size + 2) _) (fun j e => by cases e; omega)), Lib.hid (XB9.out.set _), Lib.hid (RV9.out.far (by show w.heap.size + 1 ≠ w.heap.size + 2; omega) _), HD⟩
                  case measure => simp [Lib.intOf]; omega
      · have t6 : decide ((k : Int) < 6) = false := decide_eq_false (by omega)
        have HP : Hid (fewR (ls.take (k + 1)) = fewR (ls.take k)) := Lib.hid (few_past (by omega))
        go_wp2_with fail
        go_roundw
        case rel => exact ⟨k + 1, y, hlt, by go_num, by rw [HP.out]; exact RO, XB, RV, HB⟩
        case measure => simp [Lib.intOf]; omega
    · have k1 : ¬ ((k : Int) < (n : Int)) := by omega
      have HTF : Hid (fewR (ls.take k) = fewR ls) := Lib.hid (by rw [List.take_of_length_le (by have := HN.out; omega)])
      rw [HTF.out] at RO
      obtain ⟨ay, cy, rfl⟩ := RO.out.form
      have p0 := XB.out.cell (k := 0) rfl
      have p1 := RV.out.cell (k := 0) rfl
      have f1 := frozen_of_row wq _ 0 _ _ RV.out
      go_wp2_with fail
      refine bodyPost_ret (results_cell_row rfl _ _ (w.heap.size + 1) 27 #[.slice ay (fewR ls).length cy] (0, 0) _ rfl (RV.out.set (k := 0) _) Tryz.underlying27 rfl (info27 _)) rfl ⟨_, rfl, (RO.out.apart (grownBy_setCell' _ _ _) (fun j e => by cases e; omega)).base (by omega), HB.out.setCell (p := ⟨w.heap.size + 1, 0, none⟩) (by show w.heap.size ≤ w.heap.size + 1; omega) _⟩
end Go.Proofs.YtlfehjjnepiljaaGreatDoor

namespace Go.Proofs.YtlfehjjnepiljaaGreatDoor
open Go.RowKit Go.Shelf

theorem eq24b (x0 x1 x2 x3 y0 y1 y2 y3 : Int) (w : World) : (Op.equalIn 9998 43 (.agg #[.int .i64 x0, .int .i64 x1, .int .i64 x2, .int .i64 x3]) (.agg #[.int .i64 y0, .int .i64 y1, .int .i64 y2, .int .i64 y3])).run Tryz.prog w = .ok (decide (x0 = y0 ∧ x1 = y1 ∧ x2 = y2 ∧ x3 = y3)) w := by
  obtain ⟨i0, hi, _⟩ := info_parts info3w
  have c3 : Tryz.prog.cellsOf 3 = 1 := by kernel_rfl
  have u3 := Tryz.underlying3
  have a3 := Tryz.isAgg3
  have z3 := Tryz.sizeOf3
  rw [show (9998 : Nat) = 9997 + 1 from rfl, run_equalIn_array w 9997 _ _ Tryz.underlying43 hi, c3]
  simp only [show List.range 4 = [0, 1, 2, 3] from rfl, Op.eqItems]
  go_simp
  by_cases h0 : x0 = y0 <;> by_cases h1 : x1 = y1 <;> by_cases h2 : x2 = y2 <;> by_cases h3 : x3 = y3 <;> simp [h0, h1, h2, h3]

set_option maxRecDepth 100000 in
theorem eq26b (a b : Ver) (w : World) : (Op.equalIn 9999 45 (.agg a.arr) (.agg b.arr)).run Tryz.prog w = .ok (decide (a = b)) w := by
  have u3 := Tryz.underlying3
  have a3 := Tryz.isAgg3
  have z3 := Tryz.sizeOf3
  have u9 := Tryz.underlying9
  have a9 := Tryz.isAgg9
  have z9 := Tryz.sizeOf9
  have u24 := Tryz.underlying43
  have x4 : a.arr[4]? = some (.int .i64 a.many) := rfl
  have y4 : b.arr[4]? = some (.int .i64 b.many) := rfl
  have x5 : a.arr[5]? = some (.string a.tag) := rfl
  have y5 : b.arr[5]? = some (.string b.tag) := rfl
  have x6 : a.arr[6]? = some (.int .i64 a.step) := rfl
  have y6 : b.arr[6]? = some (.int .i64 b.step) := rfl
  have e24 := eq24b a.n0 a.n1 a.n2 a.n3 b.n0 b.n1 b.n2 b.n3
  have hS : Tryz.prog.underlying 45 = some (.struct (Tryz.prog.fieldsOf 45)) := by kernel_rfl
  have hp : Tryz.prog.stoodInHeld 45 = false := by kernel_rfl
  have hv := ver_eq a b
  rw [show (9999 : Nat) = 9998 + 1 from rfl, run_equalIn_agg w 9998 45 _ _ hS hp]
  simp only [Program.fieldsOf, Tryz.underlying45]
  go_simp
  simp only [part_arr, e24]
  go_simp
  have ht : a.tag.toList = b.tag.toList ↔ a.tag = b.tag := ⟨fun h => by
    rw [Lib.toList_data, Lib.toList_data] at h
    cases hx : a.tag
    cases hy : b.tag
    rw [hx, hy] at h
    simp at h
    rw [h], fun h => by rw [h]⟩
  clear hv u3 a3 z3 u9 a9 z9 u24 x4 y4 x5 y5 x6 y6 e24 hS hp
  simp only [ht]
  by_cases h0 : a.n0 = b.n0 <;> by_cases h1 : a.n1 = b.n1 <;> by_cases h2 : a.n2 = b.n2 <;> by_cases h3 : a.n3 = b.n3 <;> by_cases h4 : a.many = b.many <;> by_cases h5 : a.tag = b.tag <;> by_cases h6 : a.step = b.step <;> simp [h0, h1, h2, h3, h4, h5, h6]

theorem part_bd (a : Bd) : a.arr.extract 1 8 = a.ver.arr := rfl
theorem bd_eq (a b : Bd) : a = b ↔ a.kind = b.kind ∧ a.ver = b.ver := by
  cases a
  cases b
  simp [Bd.mk.injEq]
set_option maxRecDepth 100000 in
theorem eq57 (a b : Bd) (w : World) : (Op.equalIn 10000 57 (.agg a.arr) (.agg b.arr)).run Tryz.prog w = .ok (decide (a = b)) w := by
  have u3 := Tryz.underlying3
  have a3 := Tryz.isAgg3
  have z3 := Tryz.sizeOf3
  have x0 : a.arr[0]? = some (.int .i64 a.kind) := rfl
  have y0 : b.arr[0]? = some (.int .i64 b.kind) := rfl
  have e45 : ∀ W, (Op.equalIn 9999 45 (.agg (a.arr.extract 1 8)) (.agg (b.arr.extract 1 8))).run Tryz.prog W = .ok (decide (a.ver = b.ver)) W := fun W => eq26b a.ver b.ver W
  have a45 := Tryz.isAgg45
  have z45 := Tryz.sizeOf45
  have hS : Tryz.prog.underlying 57 = some (.struct (Tryz.prog.fieldsOf 57)) := by kernel_rfl
  have hp : Tryz.prog.stoodInHeld 57 = false := by kernel_rfl
  have hv := bd_eq a b
  rw [show (10000 : Nat) = 9999 + 1 from rfl, run_equalIn_agg w 9999 57 _ _ hS hp]
  simp only [Program.fieldsOf, Tryz.underlying57]
  go_simp
  clear hv u3 a3 z3 x0 y0 e45 a45 z45 hS hp
  by_cases h0 : a.kind = b.kind <;> by_cases h1 : a.ver = b.ver <;> simp [h0, h1]
theorem ne57 {a b : Bd} {o : Bool} (h : o = !decide (a = b)) (W : World) : (binOp .neq 57 (.agg #[.int .i64 a.kind, .int .i64 a.ver.n0, .int .i64 a.ver.n1, .int .i64 a.ver.n2, .int .i64 a.ver.n3, .int .i64 a.ver.many, .string a.ver.tag, .int .i64 a.ver.step]) (.agg #[.int .i64 b.kind, .int .i64 b.ver.n0, .int .i64 b.ver.n1, .int .i64 b.ver.n2, .int .i64 b.ver.n3, .int .i64 b.ver.many, .string b.ver.tag, .int .i64 b.ver.step])).run Tryz.prog W = .ok (.bool o) W := by
  have e : (Op.equalIn 10000 57 (.agg #[.int .i64 a.kind, .int .i64 a.ver.n0, .int .i64 a.ver.n1, .int .i64 a.ver.n2, .int .i64 a.ver.n3, .int .i64 a.ver.many, .string a.ver.tag, .int .i64 a.ver.step]) (.agg #[.int .i64 b.kind, .int .i64 b.ver.n0, .int .i64 b.ver.n1, .int .i64 b.ver.n2, .int .i64 b.ver.n3, .int .i64 b.ver.many, .string b.ver.tag, .int .i64 b.ver.step])).run Tryz.prog W = .ok (decide (a = b)) W := eq57 a b W
  rw [run_neq_struct, e, h]
  rfl
theorem guard57 : Tryz.prog.eqGuardType Tryz.prog.depth 57 = false := by kernel_rfl

set_option maxRecDepth 100000 in
set_option maxHeartbeats 4000000 in
theorem equalB_any (l m : List Bd) (x y : Value) (w : World) (hx : RdB w x l) (hy : RdB w y m) : Calls Tryz.prog 41 #[x, y] w fun e w' => e = .returned (.bool (decide (l = m))) ∧ Below w.heap.size w w' := by
  obtain ⟨a1, c1, rfl, hlc1, hcm1, hc1⟩ := hx.open
  obtain ⟨a2, c2, rfl, hlc2, hcm2, hc2⟩ := hy.open
  unfold maxLen at hcm1 hcm2
  have H1 := Lib.hid hc1
  have H2 := Lib.hid hc2
  clear hc1 hc2 hx hy
  obtain ⟨n, hn⟩ : ∃ n, n = l.length := ⟨_, rfl⟩
  obtain ⟨p, hp⟩ : ∃ p, p = m.length := ⟨_, rfl⟩
  rw [← hn] at hlc1 H1 ⊢
  rw [← hp] at hlc2 H2 ⊢
  have HN := Lib.hid hn
  have HP := Lib.hid hp
  clear hn hp
  by_cases hnp : n = p
  · subst hnp
    have t0 : ((n : Int) != (n : Int)) = false := by simp
    go_enter Tryz.func41, Tryz.ntmps41
    go_wp2_with fail
    go_loopw [5, 13, 14, 15, 16, 17, 18, 19, 20, 21, 22, 23, 24, 25] (fun _ i _ _ _ _ _ _ _ _ _ _ _ _ W => ∃ k : Nat, k ≤ n ∧ i = .int .i64 k ∧ Hid (l.take k = m.take k) ∧ Hid (Below w.heap.size w W)) (fun _ i _ _ _ _ _ _ _ _ _ _ _ _ _ => n - (Lib.intOf i).toNat)
    case atStart => exact ⟨0, Nat.zero_le _, rfl, Lib.hid rfl, Lib.hid (Below.refl _ _)⟩
    case round =>
      obtain ⟨k, hk, rfl, HK, HB⟩ := hrel
      obtain ⟨wo, hwo⟩ : ∃ q, q = wr := ⟨_, rfl⟩
      rw [← hwo] at HB ⊢
      clear hwo
      by_cases hlt : k < n
      · obtain ⟨b, hb⟩ : ∃ v, l[k]? = some v := ⟨_, List.getElem?_eq_getElem (by have := HN.out; omega)⟩
        obtain ⟨d, hd⟩ : ∃ v, m[k]? = some v := ⟨_, List.getElem?_eq_getElem (by have := HP.out; omega)⟩
        obtain ⟨g1, o1, rfl, hg1, hcc1⟩ := H1.out (by omega)
        obtain ⟨g2, o2, rfl, hg2, hcc2⟩ := H2.out (by omega)
        obtain ⟨p0, p1, p2, p3, p4, p5, p6, p7⟩ := (hcc1 k b hb).on hg1 HB.out
        obtain ⟨q0, q1, q2, q3, q4, q5, q6, q7⟩ := (hcc2 k d hd).on hg2 HB.out
        have HBB := Lib.hid hb
        have HDD := Lib.hid hd
        obtain ⟨o, ho⟩ : ∃ o, o = !decide (b = d) := ⟨_, rfl⟩
        have hne := fun W => ne57 ho W
        have hgd := guard57
        have HO := Lib.hid ho
        have k1 : (k : Int) < (n : Int) := by omega
        have k2 : (0 : Int) ≤ (k : Int) := by omega
        have k4 : IntKind.i64.wrap ((k : Int) + 1) = (k : Int) + 1 := IntWalk.i64_in _ (by omega)
        clear hb hd hcc1 hcc2 ho
        cases o with
        | false =>
          have HE : Hid (b = d) := Lib.hid (by have := HO.out; simpa using this)
          go_wp2_with fail
          go_region
          go_wp2_with fail
          go_roundw
          case rel => exact ⟨k + 1, hlt, by go_num, Lib.hid (by rw [List.take_add_one, List.take_add_one, HK.out, HBB.out, HDD.out, HE.out]), Lib.hid HB.out.drew⟩
          case measure => simp [Lib.intOf]; omega
        | true =>
          have HE : Hid (decide (l = m) = false) := Lib.hid (decide_eq_false (fun e => by
            have h1 := HBB.out
            rw [e, HDD.out] at h1
            have := HO.out
            rw [Option.some.inj h1] at this
            simp at this))
          go_wp2_with fail
          go_region
          go_wp2_with fail
          go_ret
          exact ⟨ret_bool HE.out.symm, HB.out.drew⟩
      · have k1 : ¬ ((k : Int) < (n : Int)) := by omega
        have HE : Hid (decide (l = m) = true) := Lib.hid (decide_eq_true (by
          have h1 := HK.out
          rw [List.take_of_length_le (by have := HN.out; omega), List.take_of_length_le (by have := HP.out; omega)] at h1
          exact h1))
        go_wp2_with fail
        go_ret
        exact ⟨ret_bool HE.out.symm, HB.out⟩
  · have t0 : ((n : Int) != (p : Int)) = true := by simp; omega
    have HE : Hid (decide (l = m) = false) := Lib.hid (decide_eq_false (fun e => by
      have h1 := HN.out
      have h2 := HP.out
      rw [e] at h1
      omega))
    clear hnp
    go_enter Tryz.func41, Tryz.ntmps41
    go_wp2_with fail
    go_ret
    exact ⟨ret_bool HE.out.symm, Below.refl _ _⟩

set_option maxRecDepth 100000 in
set_option maxHeartbeats 1000000 in
theorem samef_any (l m : List Bd) (x y : Value) (w : World) (hx : RdB w x l) (hy : RdB w y m) : Calls Tryz.prog 40 #[x, y] w fun e w' => e = .returned (.bool (decide (l = m))) ∧ Below w.heap.size w w' := by
  have HE := Lib.hid (equalB_any l m x y w hx hy)
  obtain ⟨a1, c1, rfl, _⟩ := hx.open
  obtain ⟨a2, c2, rfl, _⟩ := hy.open
  clear hx hy
  go_enter Tryz.func40, Tryz.ntmps40
  go_wp2_with fail
  refine HE.out.mono ?_
  rintro e w1 ⟨rfl, hb⟩
  go_wp2_with fail
  go_ret
  exact ⟨rfl, hb⟩
def SameF (o : Bool) (x y : Value) (W : World) : Prop := Calls Tryz.prog 40 #[x, y] W fun e w' => e = .returned (.bool o) ∧ Below W.heap.size W w'
theorem samef_of {l m : List Bd} {o : Bool} (h : o = decide (l = m)) {x y : Value} {W : World} (hx : RdB W x l) (hy : RdB W y m) : SameF o x y W := by
  unfold SameF
  rw [h]; exact samef_any l m x y W hx hy

set_option maxRecDepth 100000 in
set_option maxHeartbeats 4000000 in
theorem equalF_any (l m : List (List Bd)) (x y : Value) (w : World) (hx : RdR w x l) (hy : RdR w y m) : Calls Tryz.prog 39 #[x, y, .func (.func 40) #[] #[]] w fun e w' => e = .returned (.bool (decide (l = m))) ∧ Below w.heap.size w w' := by
  obtain ⟨a1, c1, rfl, hlc1, hcm1, hc1⟩ := hx.open
  obtain ⟨a2, c2, rfl, hlc2, hcm2, hc2⟩ := hy.open
  unfold maxLen at hcm1 hcm2
  have H1 := Lib.hid hc1
  have H2 := Lib.hid hc2
  clear hc1 hc2 hx hy
  obtain ⟨n, hn⟩ : ∃ n, n = l.length := ⟨_, rfl⟩
  obtain ⟨p, hp⟩ : ∃ p, p = m.length := ⟨_, rfl⟩
  rw [← hn] at hlc1 H1 ⊢
  rw [← hp] at hlc2 H2 ⊢
  have HN := Lib.hid hn
  have HP := Lib.hid hp
  clear hn hp
  by_cases hnp : n = p
  · subst hnp
    have t0 : ((n : Int) != (n : Int)) = false := by simp
    go_enter Tryz.func39, Tryz.ntmps39
    go_wp2_with fail
    go_loopw [7, 8, 9, 17, 18, 19, 20, 21, 22, 23, 24, 25, 26, 27, 28, 29, 30, 31] (fun _ _ _ i _ _ _ _ _ _ _ _ _ _ _ _ _ _ W => ∃ k : Nat, k ≤ n ∧ i = .int .i64 k ∧ Hid (l.take k = m.take k) ∧ Hid (Below w.heap.size w W)) (fun _ _ _ i _ _ _ _ _ _ _ _ _ _ _ _ _ _ _ => n - (Lib.intOf i).toNat)
    case atStart => exact ⟨0, Nat.zero_le _, rfl, Lib.hid rfl, Lib.hid (Below.refl _ _)⟩
    case round =>
      obtain ⟨k, hk, rfl, HK, HB⟩ := hrel
      obtain ⟨wo, hwo⟩ : ∃ q, q = wr := ⟨_, rfl⟩
      rw [← hwo] at HB ⊢
      clear hwo
      by_cases hlt : k < n
      · obtain ⟨b, hb⟩ : ∃ v, l[k]? = some v := ⟨_, List.getElem?_eq_getElem (by have := HN.out; omega)⟩
        obtain ⟨d, hd⟩ : ∃ v, m[k]? = some v := ⟨_, List.getElem?_eq_getElem (by have := HP.out; omega)⟩
        obtain ⟨g1, o1, rfl, hg1, hcc1⟩ := H1.out (by omega)
        obtain ⟨g2, o2, rfl, hg2, hcc2⟩ := H2.out (by omega)
        obtain ⟨v1, hv1, hr1⟩ := hcc1 k b hb
        obtain ⟨v2, hv2, hr2⟩ := hcc2 k d hd
        have r1 := (HB.out.cell (p := ⟨g1, _, none⟩) hg1).trans hv1
        have r2 := (HB.out.cell (p := ⟨g2, _, none⟩) hg2).trans hv2
        obtain ⟨o, ho⟩ : ∃ o, o = decide (b = d) := ⟨_, rfl⟩
        have HSF := Lib.hid (samef_of ho (hr1.on HB.out) (hr2.on HB.out))
        obtain ⟨a5, c5, rfl, _⟩ := hr1.open
        obtain ⟨a6, c6, rfl, _⟩ := hr2.open
        have HBB := Lib.hid hb
        have HDD := Lib.hid hd
        have HO := Lib.hid ho
        have k1 : (k : Int) < (n : Int) := by omega
        have k2 : (0 : Int) ≤ (k : Int) := by omega
        have k4 : IntKind.i64.wrap ((k : Int) + 1) = (k : Int) + 1 := IntWalk.i64_in _ (by omega)
        clear hb hd hcc1 hcc2 ho hv1 hv2 hr1 hr2
        go_wp2_with fail
        refine HSF.out.mono ?_
        rintro e w3 ⟨rfl, hb⟩
        have B3 := Lib.hid (bch HB.out hb)
        clear HB HSF hb r1 r2
        cases o with
        | true =>
          have HE : Hid (b = d) := Lib.hid (of_decide_eq_true HO.out.symm)
          go_wp2_with fail
          go_roundw
          case rel => exact ⟨k + 1, hlt, by go_num, Lib.hid (by rw [List.take_add_one, List.take_add_one, HK.out, HBB.out, HDD.out, HE.out]), B3⟩
          case measure => simp [Lib.intOf]; omega
        | false =>
          have HE : Hid (decide (l = m) = false) := Lib.hid (decide_eq_false (fun e => by
            have h1 := HBB.out
            rw [e, HDD.out] at h1
            have := HO.out
            rw [Option.some.inj h1] at this
            simp at this))
          go_wp2_with fail
          go_ret
          exact ⟨ret_bool HE.out.symm, B3.out⟩
      · have k1 : ¬ ((k : Int) < (n : Int)) := by omega
        have HE : Hid (decide (l = m) = true) := Lib.hid (decide_eq_true (by
          have h1 := HK.out
          rw [List.take_of_length_le (by have := HN.out; omega), List.take_of_length_le (by have := HP.out; omega)] at h1
          exact h1))
        go_wp2_with fail
        go_ret
        exact ⟨ret_bool HE.out.symm, HB.out⟩
  · have t0 : ((n : Int) != (p : Int)) = true := by simp; omega
    have HE : Hid (decide (l = m) = false) := Lib.hid (decide_eq_false (fun e => by
      have h1 := HN.out
      have h2 := HP.out
      rw [e] at h1
      omega))
    clear hnp
    go_enter Tryz.func39, Tryz.ntmps39
    go_wp2_with fail
    go_ret
    exact ⟨ret_bool HE.out.symm, Below.refl _ _⟩

set_option maxRecDepth 100000 in
set_option maxHeartbeats 1000000 in
theorem same_any (l m : List (List Bd)) (x y : Value) (w : World) (hx : RdR w x l) (hy : RdR w y m) : Calls Tryz.prog 15 #[.agg #[x], .agg #[y]] w fun e w' => e = .returned (.bool (decide (l = m))) ∧ Below w.heap.size w w' := by
  have X1 : Box ((w.alloc (.cells #[x] 27)).alloc (.cells #[y] 27)) w.heap.size 27 #[x] := box_new.alloc _
  have X2 : Box ((w.alloc (.cells #[x] 27)).alloc (.cells #[y] 27)) (w.heap.size + 1) 27 #[y] := heap_alloc2_new w _ _
  have c0 : ((w.alloc (.cells #[x] 27)).alloc (.cells #[y] 27)).cell? ⟨w.heap.size, 0, none⟩ = some x := X1.cell rfl
  have c1 : ((w.alloc (.cells #[x] 27)).alloc (.cells #[y] 27)).cell? ⟨w.heap.size + 1, 0, none⟩ = some y := X2.cell rfl
  have hB : Hid (Below w.heap.size w ((w.alloc (.cells #[x] 27)).alloc (.cells #[y] 27))) := Lib.hid (((Below.refl w.heap.size w).alloc (Nat.le_refl _) (.cells #[x] 27)).alloc (by simp) (.cells #[y] 27))
  have HI := Lib.hid (equalF_any l m x y _ (hx.on hB.out) (hy.on hB.out))
  obtain ⟨a1, e1, rfl, _⟩ := hx.open
  obtain ⟨a2, e2, rfl, _⟩ := hy.open
  clear X1 X2 hx hy
  go_enter Tryz.func15, Tryz.ntmps15
  go_wp2_with fail
  refine HI.out.mono ?_
  rintro e w1 ⟨rfl, hb⟩
  go_wp2_with fail
  go_ret
  exact ⟨rfl, bch hB.out hb⟩
end Go.Proofs.YtlfehjjnepiljaaGreatDoor
